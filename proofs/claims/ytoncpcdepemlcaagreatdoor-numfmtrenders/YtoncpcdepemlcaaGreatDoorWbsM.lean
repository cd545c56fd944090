import Derived.Test.YtoncpcdepemlcaaGreatDoorWtnM
import Derived.Test.YtoncpcdepemlcaaGreatDoorOrdM
namespace Go.Proofs.YtoncpcdepemlcaaGreatDoor
open Go.RowKit
theorem three_rows (w w1:World) (o1 o2 o3:Array Value) (t1 t2 t3:TypeId) (h:Below ((((w.alloc (.cells o1 t1)).alloc (.cells o2 t2)).alloc (.cells o3 t3)).heap.size) (((w.alloc (.cells o1 t1)).alloc (.cells o2 t2)).alloc (.cells o3 t3)) w1):Row w1 w.heap.size t1 o1/\Row w1 (w.heap.size+1) t2 o2/\Row w1 (w.heap.size+2) t3 o3/\Below w.heap.size w w1:=by
 have r1:=((Row.new w t1 o1).alloc (.cells o2 t2)).alloc (.cells o3 t3);have r2:=(Row.new1 w (.cells o1 t1) t2 o2).alloc (.cells o3 t3);have r3:Row (((w.alloc (.cells o1 t1)).alloc (.cells o2 t2)).alloc (.cells o3 t3)) (w.heap.size+2) t3 o3:=by have:=Row.new ((w.alloc (.cells o1 t1)).alloc (.cells o2 t2)) t3 o3;simpa using this
 refine⟨r1.below h r1.lt,r2.below h r2.lt,r3.below h r3.lt,?_⟩;exact((((Below.refl _ w).alloc (Nat.le_refl _) _).alloc (by simp) _).alloc (by simp;omega) _).trans (h.mono (by simp;omega))
theorem Row.off4 {W:World} {B:Nat} {t:TypeId} {cs:Array Value} (h:Row W B t cs) {B':Nat} (hne:B≠B') (a b c d:Value):Row ((((W.setCell ⟨B',0,none⟩ a).setCell ⟨B',1,none⟩ b).setCell ⟨B',2,none⟩ c).setCell ⟨B',3,none⟩ d) B t cs:=(((h.off 0 a hne).off 1 b hne).off 2 c hne).off 3 d hne
theorem below_set4 {N:Nat} {x W:World} (h:Below N x W) {B':Nat} (hN:N≤B') (a b c d:Value):Below N x ((((W.setCell ⟨B',0,none⟩ a).setCell ⟨B',1,none⟩ b).setCell ⟨B',2,none⟩ c).setCell ⟨B',3,none⟩ d):=below_set (below_set (below_set (below_set h 0 a hN) 1 b hN) 2 c hN) 3 d hN
def WayR (o : Option Wd) (r : Ending) : Prop := ∃ (x : Wd) (b : Bool), r = .returned (.tuple #[x.val, .bool b]) ∧ x.n < M128 ∧ -9223372036854775808 ≤ x.e ∧ x.e ≤ 9223372036854775807 ∧ o = (if b then some x else none)
def EOk (x : Wd) : Prop := -9223372036854775808 ≤ x.e ∧ x.e ≤ 9223372036854775807
set_option maxRecDepth 100000
set_option maxHeartbeats 600000
theorem wayR_some {x:Wd} (h:x.n<M128) (he:EOk x):WayR (some x) (.returned (.tuple #[x.val,.bool true])):=⟨x,true,rfl,h,he.1,he.2,rfl⟩
theorem product_raw (an bn:Bool) (ah al bh bl H L:Nat) (ae be ee:Int) (m:∀w,Calls Tryz.prog 127 #[.int .u64 (al:Int),.int .u64 (bl:Int)] w fun e w'=>e=.returned (.tuple #[.int .u64 (H:Int),.int .u64 (L:Int)])/\w'=w) (he:wrap64 (ae+be)=ee) (w:World):Calls Tryz.prog 111 #[wv an ah al ae,wv bn bh bl be] w fun r w'=>r=.returned (.tuple #[wv (an != bn) H L ee,.bool true])/\Below w.heap.size w w':=by
 unfold wv;have HE:Hid (wrap64 (ae+be)=ee):=he;clear he;go_enter Tryz.func111,Tryz.ntmps111;go_wp2_with fail;refine(m _).mono ?_;rintro _ w1 ⟨rfl,hw1⟩;rw[hw1];clear hw1 w1;go_wp2;try rw[HE.out]
 refine bodyPost_ret (ret_two rfl (g:=w.heap.size+2) rfl rfl (load57 (three_rows w _ _ _ _ 125 125 125 (Below.refl _ _)).2.2.1 rfl)) rfl ⟨rfl,?_⟩;exact(((Below.refl _ w).alloc (Nat.le_refl _) _).alloc (by simp) _).alloc (by simp;omega) _
theorem product_any (a b:Wd) (ha:a.n<18446744073709551616) (hb:b.n<18446744073709551616) (ea : -1000<=a.e/\a.e<=1000) (eb : -1000<=b.e/\b.e<=1000) (w:World):Calls Tryz.prog 111 #[a.val,b.val] w fun r w'=>WayR (some (prodW a b)) r/\Below w.heap.size w w':=by
 have m:=Tryz.bits_Mul64 (a.n % 18446744073709551616) (b.n % 18446744073709551616) (by omega) (by omega);rw[show a.n % 18446744073709551616=a.n by omega,show b.n % 18446744073709551616=b.n by omega] at m;have hM:a.n*b.n<M128:=by unfold M128;have:=Nat.mul_lt_mul'' ha hb;omega
 have:=product_raw a.neg b.neg (a.n / 18446744073709551616) a.n (b.n / 18446744073709551616) b.n _ _ a.e b.e (a.e+b.e) m (by unfold wrap64;omega) w;unfold Wd.val;rw[show a.n % 18446744073709551616=a.n by omega,show b.n % 18446744073709551616=b.n by omega];refine this.mono ?_;rintro r w' ⟨rfl,hB⟩;exact⟨wayR_some (x:=prodW a b) hM ⟨by unfold prodW;simp only;omega,by unfold prodW;simp only;omega⟩,hB⟩
theorem turned_W (x:Wd) (w:World):Calls Tryz.prog 109 #[x.val] w fun r w'=>r=.returned (turnW x).val∧Below w.heap.size w w':=turned_any x.neg _ _ x.e w
theorem val_agg (x:Wd):∃a b c d,x.val=.agg #[.bool a,.int .u64 b,.int .u64 c,.int .i64 d]:=⟨_,_,_,_,rfl⟩
set_option maxHeartbeats 800000
theorem four_rows (w w1:World) (o1 o2 o3 o4:Array Value) (t1 t2 t3 t4:TypeId) (h:Below (((((w.alloc (.cells o1 t1)).alloc (.cells o2 t2)).alloc (.cells o3 t3)).alloc (.cells o4 t4)).heap.size) ((((w.alloc (.cells o1 t1)).alloc (.cells o2 t2)).alloc (.cells o3 t3)).alloc (.cells o4 t4)) w1):Row w1 w.heap.size t1 o1/\Row w1 (w.heap.size+1) t2 o2/\Row w1 (w.heap.size+2) t3 o3/\Row w1 (w.heap.size+3) t4 o4/\Below w.heap.size w w1:=by
 have r4:Row ((((w.alloc (.cells o1 t1)).alloc (.cells o2 t2)).alloc (.cells o3 t3)).alloc (.cells o4 t4)) (w.heap.size+3) t4 o4:=by have:=Row.new (((w.alloc (.cells o1 t1)).alloc (.cells o2 t2)).alloc (.cells o3 t3)) t4 o4;simpa using this
 obtain⟨r1,r2,r3,hB⟩:=three_rows w w1 o1 o2 o3 t1 t2 t3 (((Below.refl _ _).alloc (Nat.le_refl _) (.cells o4 t4)).trans (h.mono (by simp)));exact⟨r1,r2,r3,r4.below h r4.lt,hB⟩
theorem Row.eight {W:World} {B:Nat} {t:TypeId} {a b c d e f g h:Value} (hr:Row W B t #[a,b,c,d,e,f,g,h]):W.cell? ⟨B,0,none⟩=some a∧W.cell? ⟨B,1,none⟩=some b∧W.cell? ⟨B,2,none⟩=some c∧W.cell? ⟨B,3,none⟩=some d∧W.cell? ⟨B,4,none⟩=some e∧W.cell? ⟨B,5,none⟩=some f∧W.cell? ⟨B,6,none⟩=some g∧W.cell? ⟨B,7,none⟩=some h:=⟨hr.cell rfl,hr.cell rfl,hr.cell rfl,hr.cell rfl,hr.cell rfl,hr.cell rfl,hr.cell rfl,hr.cell rfl⟩
theorem decV_form (o:Option (Int × Int)):∃a b v,decV o=.tuple #[.agg #[.int .i64 a,.int .i64 b],.int .i64 v]:=by
 cases o with
 | none=>exact⟨_,_,_,rfl⟩
 | some p=>exact⟨_,_,_,rfl⟩
theorem reckoned_bad1 (f:FuncId) (c e c2 e2:Int) (he:¬ within e) (w:World):Calls Tryz.prog 110 #[.func (.func f) #[] #[],dv c e,dv c2 e2] w fun r w'=>r=.returned (.tuple #[dv 0 0,.int .i64 1])/\Below w.heap.size w w':=by
 unfold dv;go_enter Tryz.func110,Tryz.ntmps110;go_wp2_with fail;obtain⟨_,_,_,hK,_⟩:=four_rows w _ _ _ _ _ 38 38 38 38 (Below.refl _ ((((w.alloc (.cells #[.int .i64 c,.int .i64 e] 38)).alloc (.cells #[.int .i64 c2,.int .i64 e2] 38)).alloc (.cells #[.int .i64 0,.int .i64 0] 38)).alloc (.cells #[.int .i64 c,.int .i64 e,.int .i64 c2,.int .i64 e2] 38)));refine(taken2_bad1 c e c2 e2 _ _ he hK).mono ?_;rintro _ w1 ⟨h1,rfl⟩;obtain⟨_,_,hZ,_,hB⟩:=four_rows w w1 _ _ _ _ _ _ _ _ h1;obtain⟨d0,d1⟩:=hZ.duo;have z:=hZ.frozen;clear h1;go_wp2;refine bodyPost_ret (ret_two rfl (g:=w.heap.size+2) rfl rfl (load23 (Row.set2 hZ _ _) rfl)) rfl ⟨rfl,?_⟩;repeat (refine below_set ?_ _ _ (by omega))
 exact hB
theorem reckoned_bad2 (f:FuncId) (c e c2 e2:Int) (hc:I64 c) (he:within e) (he2:¬ within e2) (w:World):Calls Tryz.prog 110 #[.func (.func f) #[] #[],dv c e,dv c2 e2] w fun r w'=>r=.returned (.tuple #[dv 0 0,.int .i64 1])/\Below w.heap.size w w':=by
 unfold dv;go_enter Tryz.func110,Tryz.ntmps110;go_wp2_with fail;obtain⟨_,_,_,hK,_⟩:=four_rows w _ _ _ _ _ 38 38 38 38 (Below.refl _ ((((w.alloc (.cells #[.int .i64 c,.int .i64 e] 38)).alloc (.cells #[.int .i64 c2,.int .i64 e2] 38)).alloc (.cells #[.int .i64 0,.int .i64 0] 38)).alloc (.cells #[.int .i64 c,.int .i64 e,.int .i64 c2,.int .i64 e2] 38)));refine(taken2_bad2 c e c2 e2 _ _ hc he he2 hK).mono ?_;rintro _ w1 ⟨h1,rfl⟩;obtain⟨_,_,hZ,_,hB⟩:=four_rows w w1 _ _ _ _ _ _ _ _ h1;obtain⟨d0,d1⟩:=hZ.duo;have z:=hZ.frozen;clear h1;go_wp2;refine bodyPost_ret (ret_two rfl (g:=w.heap.size+2) rfl rfl (load23 (Row.set2 hZ _ _) rfl)) rfl ⟨rfl,?_⟩;repeat (refine below_set ?_ _ _ (by omega))
 exact hB
theorem reckoned_ok43 (c e c2 e2:Int) (o:Option Wd) (hc:I64 c) (he:within e) (hc2:I64 c2) (he2:within e2) (hw:∀w,Calls Tryz.prog 111 #[(decW c e).val,(decW c2 e2).val] w fun r w'=>WayR o r/\Below w.heap.size w w') (w:World):Calls Tryz.prog 110 #[.func (.func 111) #[] #[],dv c e,dv c2 e2] w fun r w'=>r=.returned (decV (toldW o))/\Below w.heap.size w w':=by
 have hT:=fun K w (hK:Row w K 38 #[.int .i64 c,.int .i64 e,.int .i64 c2,.int .i64 e2])=>taken2 c e c2 e2 K w hc he hc2 he2 hK;simp only[Wd.val_eq] at *;obtain⟨y0,y1,y2,y3,hy⟩:∃y0 y1 y2 y3,(decW c e).cells=#[y0,y1,y2,y3]:=⟨_,_,_,_,rfl⟩;obtain⟨z0,z1,z2,z3,hz⟩:∃y0 y1 y2 y3,(decW c2 e2).cells=#[y0,y1,y2,y3]:=⟨_,_,_,_,rfl⟩;rw[hy,hz] at hw;simp only[hy,hz] at hT;clear hc he hc2 he2;obtain⟨p,q,v,hdv⟩:=decV_form (toldW o);rw[hdv];have HDV:Hid (decV (toldW o)=.tuple #[.agg #[.int .i64 p,.int .i64 q],.int .i64 v]):=hdv;clear hdv;unfold dv;go_enter Tryz.func110,Tryz.ntmps110;go_wp2_with fail;obtain⟨_,_,_,hK,_⟩:=four_rows w _ _ _ _ _ 38 38 38 38 (Below.refl _ ((((w.alloc (.cells #[.int .i64 c,.int .i64 e] 38)).alloc (.cells #[.int .i64 c2,.int .i64 e2] 38)).alloc (.cells #[.int .i64 0,.int .i64 0] 38)).alloc (.cells #[.int .i64 c,.int .i64 e,.int .i64 c2,.int .i64 e2] 38)));refine(hT _ _ hK).mono ?_;rintro _ W ⟨h1,G,hG,rfl,hR⟩;obtain⟨_,_,hZ,_,hB⟩:=four_rows w W _ _ _ _ _ _ _ _ h1;have hGn:w.heap.size+2≠G:=by simp at hG;omega
 have hR:Row W G 125 #[y0,y1,y2,y3,z0,z1,z2,z3]:=hR;clear h1 hG hK hT;go_wp2_with fail;have hS0:Below W.heap.size W W.drew:=(Below.refl _ W).drew;refine Ib W 10 15 ?_;refine Oh 0 hS0 ?_;refine Oh 1 hS0 ?_;refine Oh 2 hS0 ?_ (v:=.pointer (some ⟨G,0,none⟩));refine Oh 3 hS0 ?_ (v:=.agg #[y0,y1,y2,y3]) (y:=by intro wx hx;obtain⟨g0,g1,g2,g3,g4,g5,g6,g7⟩:=(hR.below hx hR.lt).eight;go_simp<;>rfl);refine Oh 4 hS0 ?_;refine Oh 5 hS0 ?_ (v:=.pointer (some ⟨G,4,none⟩));refine Oh 6 hS0 ?_ (v:=.agg #[z0,z1,z2,z3]) (y:=by intro wx hx;obtain⟨g0,g1,g2,g3,g4,g5,g6,g7⟩:=(hR.below hx hR.lt).eight;go_simp<;>rfl);refine Oo 7 ?_;go_wp2_with fail;refine(hw _).mono ?_;rintro _ w1 ⟨⟨x,t,rfl,x1,x2,x3,x4⟩,h1⟩;have hS1:=hS0.trans h1;have hTD:=told_any x t x1 x3 x2;rw[show (if t=true then tellW x.neg x.n x.e else none)=toldW o by rw[x4];cases t<;>rfl] at hTD;rw[HDV.out] at hTD;obtain⟨d0,d1,d2,d3,hxv⟩:=val_agg x;rw[hxv] at hTD ⊢;clear h1 hw x1 x2 x3 x4 hxv;go_wp2_with fail;refine⟨fun _=>hS1,?_⟩;refine Oh 8 hS1 ?_;refine Oh 9 hS1 ?_;refine Oo 10 ?_;go_wp2_with fail;refine(hTD _).mono ?_;rintro _ w2 ⟨rfl,h2⟩;have hS2:=hS1.trans (h2.mono hS1.size);have hZ2:=hZ.below hS2 hZ.lt;have hB2:=hB.trans (hS2.mono hB.size);clear h2 hTD;go_wp2_with fail;refine⟨(fun h=>by simp at h),?_⟩;refine wpM_free 11 (v := ?_) rfl (by kernel_rfl) (by kernel_rfl) rfl (fun _ _ _ h=>h) rfl (by intro wx;go_simp<;>rfl) ?_;refine wpM_free 12 (v := ?_) rfl (by kernel_rfl) (by kernel_rfl) rfl (fun _ _ _ h=>h) rfl (by intro wx;go_simp<;>rfl) ?_;obtain⟨g0,g1⟩:=hZ2.duo;have z:=hZ2.frozen;refine Oo 13 ?_;go_wp2_with fail;refine⟨(fun h=>by simp at h),?_⟩;refine Oo 14 ?_;go_wp2_with fail;refine⟨(fun h=>by simp at h),?_⟩;refine Od ?_;go_wp2;refine bodyPost_ret (v:=.tuple #[.agg #[.int .i64 p,.int .i64 q],.int .i64 v]) (ret_two rfl (g:=w.heap.size+2) rfl rfl (load23 (Row.set2 hZ2 _ _) rfl)) rfl ⟨rfl,?_⟩;repeat (refine below_set ?_ _ _ (by omega))
 exact hB2
def quotL (by' n : Nat) (e : Int) : Option (Nat × Int) :=
  if by' ≤ 1 then some (n, e)
  else if by' % 10 = 0 then quotL (by' / 10) n (e - 1)
  else if by' % 2 = 0 then (if n * 5 < M128 then quotL (by' / 2) (n * 5) (e - 1) else none)
  else if by' % 5 = 0 then (if n * 2 < M128 then quotL (by' / 5) (n * 2) (e - 1) else none)
  else none
  termination_by by'
  decreasing_by all_goals omega
def quotW (a b : Wd) : Option Wd := (quotL (b.n / Nat.gcd a.n b.n) (a.n / Nat.gcd a.n b.n) (a.e - b.e)).map fun p => ⟨a.neg != b.neg, p.1, p.2⟩
set_option maxHeartbeats 400000
theorem op_15 (c e c2 e2 p q v:Int) (h:∀w,Calls Tryz.prog 110 #[.func (.func 111) #[] #[],dv c e,dv c2 e2] w fun r w'=>r=.returned (.tuple #[.agg #[.int .i64 p,.int .i64 q],.int .i64 v])/\Below w.heap.size w w') (w:World):Calls Tryz.prog 82 #[dv c e,dv c2 e2] w fun r w'=>r=.returned (.tuple #[.agg #[.int .i64 p,.int .i64 q],.int .i64 v])/\Below w.heap.size w w':=by
 unfold dv at *;go_enter Tryz.func82,Tryz.ntmps82;go_wp2_with fail;refine(h _).mono ?_;rintro _ w1 ⟨rfl,h1⟩;obtain⟨_,_,hZ,hB⟩:=three_rows w w1 _ _ _ _ _ _ h1;obtain⟨d0,d1⟩:=hZ.duo;have z:=hZ.frozen;clear h1 h;go_wp2;refine bodyPost_ret (ret_two rfl (g:=w.heap.size+2) rfl rfl (load23 (Row.set2 hZ _ _) rfl)) rfl ⟨rfl,?_⟩;repeat (refine below_set ?_ _ _ (by omega))
 exact hB
def argV : Value := .tuple #[dv 0 0, .int .i64 1]
theorem dec_bounds {c e:Int} (hc:I64 c) (he:within e):(decW c e).n<18446744073709551616/\(decW c e).n<M128/\(-1000<=(decW c e).e/\(decW c e).e<=1000)/\EOk (decW c e):=by
 have h:=sh_dec c e he.1 he.2 hc.1 hc.2;have h1:=h.big;have h2:=h.lo;have h3:=h.hi;refine⟨by omega,by unfold M128;omega,⟨by omega,by omega⟩,⟨by omega,by omega⟩⟩
def twoV (e e2 : Int) (o : Option Wd) : Value := if (-18 ≤ e ∧ e ≤ 18) ∧ (-18 ≤ e2 ∧ e2 ≤ 18) then decV (toldW o) else argV
theorem two_form (e e2:Int) (o:Option Wd):∃p q v,twoV e e2 o=.tuple #[.agg #[.int .i64 p,.int .i64 q],.int .i64 v]:=by
 unfold twoV;split
 ·exact decV_form _
 ·exact⟨0,0,1,rfl⟩
theorem mul_any (c e c2 e2:Int) (hc:I64 c) (hc2:I64 c2) (w:World):Calls Tryz.prog 82 #[dv c e,dv c2 e2] w fun r w'=>r=.returned (twoV e e2 (some (prodW (decW c e) (decW c2 e2))))/\Below w.heap.size w w':=by
 obtain⟨p,q,v,hv⟩:=two_form e e2 (some (prodW (decW c e) (decW c2 e2)));rw[hv];refine op_15 c e c2 e2 p q v (fun w => ?_) w;rw[<-hv];unfold twoV;by_cases he:within e
 ·by_cases he2:within e2
  ·rw[if_pos ⟨he,he2⟩];obtain⟨a1,a2,a3,a4⟩:=dec_bounds hc he;obtain⟨b1,b2,b3,b4⟩:=dec_bounds hc2 he2;exact reckoned_ok43 c e c2 e2 _ hc he hc2 he2 (fun w=>product_any _ _ a1 b1 a3 b3 w) w
  ·rw[if_neg (fun h=>he2 h.2)];exact reckoned_bad2 111 c e c2 e2 hc he he2 w
 ·rw[if_neg (fun h=>he h.1)];exact reckoned_bad1 111 c e c2 e2 he w
theorem quot_found (Z : Nat) (E : Int) (hZ : Z ≤ 9223372036854775808) : ∀ (b n : Nat) (e : Int) (s t : Nat), 1 ≤ b → b < 18446744073709551616 → Nat.Coprime n b → n * 10 ^ s = Z * b * 10 ^ t → e - s = E - t →
    ∃ m f, quotL b n e = some (m, f) ∧ ∃ s' t' : Nat, m * 10 ^ s' = Z * 10 ^ t' ∧ f - s' = E - t' := by
  intro b
  induction b using Nat.strongRecOn with
  | ind b ih =>
    intro n e s t hb1 hb2 hc hv he
    by_cases h1 : b ≤ 1
    · obtain rfl : b = 1 := by omega
      refine ⟨n, e, by rw [quotL.eq_def, if_pos h1], s, t, by rw [hv, Nat.mul_one], he⟩
    · -- n is small, and b divides a power of ten
      have hst : t < s := by
        apply Nat.lt_of_not_le
        intro hle
        have hp := ten_pos s
        have h2 : n = Z * b * 10 ^ (t - s) := by
          apply Nat.eq_of_mul_eq_mul_right hp
          rw [hv, Nat.mul_assoc (Z * b), ← Nat.pow_add]
          congr 2; omega
        have h3 : b ∣ n := ⟨Z * 10 ^ (t - s), by rw [h2, Nat.mul_comm Z b, Nat.mul_assoc]⟩
        have h4 : Nat.gcd n b = b := Nat.gcd_eq_right h3
        have h5 : Nat.gcd n b = 1 := hc
        omega
      have hv2 : n * 10 ^ (s - t) = Z * b := by
        have hp := ten_pos t
        apply Nat.eq_of_mul_eq_mul_right hp
        rw [← hv, Nat.mul_assoc, ← Nat.pow_add]
        congr 2; omega
      have hn : n * 10 ≤ Z * b := by
        rw [← hv2]
        apply Nat.mul_le_mul_left
        have := Nat.pow_le_pow_right (n := 10) (i := 1) (j := s - t) (by omega) (by omega)
        simpa using this
      have hZb : Z * b ≤ 9223372036854775808 * 18446744073709551616 := Nat.mul_le_mul hZ (by omega)
      have hbd : b ∣ 10 ^ (s - t) := by
        have : b ∣ n * 10 ^ (s - t) := ⟨Z, by rw [hv2, Nat.mul_comm]⟩
        exact Nat.Coprime.dvd_of_dvd_mul_left (Nat.Coprime.symm hc) this
      by_cases h10 : b % 10 = 0
      · obtain ⟨b1, rfl⟩ : ∃ b1, b = 10 * b1 := ⟨b / 10, by omega⟩
        have hc1 : Nat.Coprime n b1 := Nat.Coprime.coprime_dvd_right ⟨10, by rw [Nat.mul_comm]⟩ hc
        obtain ⟨m, f, q1, s', t', q2, q3⟩ := ih b1 (by omega) n (e - 1) s (t + 1) (by omega) (by omega) hc1 (by rw [hv, Nat.pow_succ]; simp [Nat.mul_comm, Nat.mul_assoc]) (by omega)
        refine ⟨m, f, ?_, s', t', q2, q3⟩
        rw [quotL.eq_def, if_neg h1, if_pos h10, show 10 * b1 / 10 = b1 by omega, q1]
      · by_cases h2 : b % 2 = 0
        · obtain ⟨b1, rfl⟩ : ∃ b1, b = 2 * b1 := ⟨b / 2, by omega⟩
          have hc1 : Nat.Coprime n b1 := Nat.Coprime.coprime_dvd_right ⟨2, by rw [Nat.mul_comm]⟩ hc
          have h5 : Nat.Coprime 5 b1 := by
            have : Nat.gcd 5 b1 ∣ 5 := Nat.gcd_dvd_left _ _
            have hle : Nat.gcd 5 b1 ≤ 5 := Nat.le_of_dvd (by omega) this
            have hd : Nat.gcd 5 b1 ∣ b1 := Nat.gcd_dvd_right _ _
            generalize hgg : Nat.gcd 5 b1 = g at *
            have : g = 0 ∨ g = 1 ∨ g = 2 ∨ g = 3 ∨ g = 4 ∨ g = 5 := by omega
            rcases this with rfl | rfl | rfl | rfl | rfl | rfl
            · omega
            · exact hgg
            · omega
            · omega
            · omega
            · obtain ⟨k, hk⟩ := hd; omega
          have hfit : n * 5 < M128 := by unfold M128; omega
          obtain ⟨m, f, q1, s', t', q2, q3⟩ := ih b1 (by omega) (n * 5) (e - 1) s (t + 1) (by omega) (by omega) (Nat.Coprime.mul_left hc1 h5) (by
            rw [Nat.pow_succ, show n * 5 * 10 ^ s = n * 10 ^ s * 5 by rw [Nat.mul_assoc, Nat.mul_comm 5, ← Nat.mul_assoc], hv]
            rw [show Z * (2 * b1) * 10 ^ t * 5 = Z * b1 * (10 ^ t * 10) by
              rw [Nat.mul_assoc, Nat.mul_assoc, Nat.mul_assoc, Nat.mul_assoc, Nat.mul_left_comm 2, Nat.mul_left_comm 2]]) (by omega)
          refine ⟨m, f, ?_, s', t', q2, q3⟩
          rw [quotL.eq_def, if_neg h1, if_neg h10, if_pos h2, if_pos hfit, show 2 * b1 / 2 = b1 by omega, q1]
        · by_cases h5 : b % 5 = 0
          · obtain ⟨b1, rfl⟩ : ∃ b1, b = 5 * b1 := ⟨b / 5, by omega⟩
            have hc1 : Nat.Coprime n b1 := Nat.Coprime.coprime_dvd_right ⟨5, by rw [Nat.mul_comm]⟩ hc
            have h22 : Nat.Coprime 2 b1 := by
              have hle : Nat.gcd 2 b1 ≤ 2 := Nat.le_of_dvd (by omega) (Nat.gcd_dvd_left _ _)
              have hd : Nat.gcd 2 b1 ∣ b1 := Nat.gcd_dvd_right _ _
              have hp : 0 < Nat.gcd 2 b1 := Nat.gcd_pos_of_pos_left _ (by omega)
              generalize hgg : Nat.gcd 2 b1 = g at *
              have : g = 1 ∨ g = 2 := by omega
              rcases this with rfl | rfl
              · exact hgg
              · obtain ⟨k, hk⟩ := hd; omega
            have hfit : n * 2 < M128 := by unfold M128; omega
            obtain ⟨m, f, q1, s', t', q2, q3⟩ := ih b1 (by omega) (n * 2) (e - 1) s (t + 1) (by omega) (by omega) (Nat.Coprime.mul_left hc1 h22) (by
              rw [Nat.pow_succ, show n * 2 * 10 ^ s = n * 10 ^ s * 2 by rw [Nat.mul_assoc, Nat.mul_comm 2, ← Nat.mul_assoc], hv]
              rw [show Z * (5 * b1) * 10 ^ t * 2 = Z * b1 * (10 ^ t * 10) by
                rw [Nat.mul_assoc, Nat.mul_assoc, Nat.mul_assoc, Nat.mul_assoc, Nat.mul_left_comm 5, Nat.mul_left_comm 5]]) (by omega)
            refine ⟨m, f, ?_, s', t', q2, q3⟩
            rw [quotL.eq_def, if_neg h1, if_neg h10, if_neg h2, if_pos h5, if_pos hfit, show 5 * b1 / 5 = b1 by omega, q1]
          · exfalso
            have hc10 : Nat.Coprime b 10 := by
              have hd : Nat.gcd b 10 ∣ 10 := Nat.gcd_dvd_right _ _
              have hdb : Nat.gcd b 10 ∣ b := Nat.gcd_dvd_left _ _
              have hle : Nat.gcd b 10 ≤ 10 := Nat.le_of_dvd (by omega) hd
              generalize hgg : Nat.gcd b 10 = g at *
              obtain ⟨k, hk⟩ := hdb
              have : g = 0 ∨ g = 1 ∨ g = 2 ∨ g = 3 ∨ g = 4 ∨ g = 5 ∨ g = 6 ∨ g = 7 ∨ g = 8 ∨ g = 9 ∨ g = 10 := by omega
              rcases this with rfl | rfl | rfl | rfl | rfl | rfl | rfl | rfl | rfl | rfl | rfl
              · omega
              · exact hgg
              all_goals omega
            have hcp : Nat.Coprime b (10 ^ (s - t)) := Nat.Coprime.pow_right _ hc10
            have hg : Nat.gcd b (10 ^ (s - t)) = b := Nat.gcd_eq_left hbd
            have hg1 : Nat.gcd b (10 ^ (s - t)) = 1 := hcp
            omega
theorem natAbs_sc_mul (x y z:Wd) (u v:Nat) (h:sc x*10 ^ u=sc z*sc y*10 ^ v):x.n*10 ^ u=z.n*y.n*10 ^ v:=by
 have:=congrArg Int.natAbs h;rw[Int.natAbs_mul,Int.natAbs_mul,Int.natAbs_mul,Int.natAbs_pow,Int.natAbs_pow,sc_abs,sc_abs,sc_abs] at this;exact this
theorem told_quot (x y z : Wd) (hy : y.n < 18446744073709551616) (hy0 : y.n ≠ 0) (hz : z.n ≤ 9223372036854775808) (u v : Nat) (h : sc x * 10 ^ u = sc z * sc y * 10 ^ v) (he : x.e - u = z.e + y.e - v) :
    toldW (quotW x y) = tell (sc z) z.e := by
  have hn := natAbs_sc_mul x y z u v h
  have hg0 : 0 < Nat.gcd x.n y.n := Nat.gcd_pos_of_pos_right _ (by omega)
  obtain ⟨X, hX⟩ := Nat.gcd_dvd_left x.n y.n
  obtain ⟨Y, hY⟩ := Nat.gcd_dvd_right x.n y.n
  have hXd : x.n / Nat.gcd x.n y.n = X := by
    apply Nat.div_eq_of_eq_mul_right hg0 hX
  have hYd : y.n / Nat.gcd x.n y.n = Y := by
    apply Nat.div_eq_of_eq_mul_right hg0 hY
  have hcop : Nat.Coprime X Y := by
    have := Nat.coprime_div_gcd_div_gcd (m := x.n) (n := y.n) hg0
    rw [hXd, hYd] at this
    exact this
  have hY1 : 1 ≤ Y := by
    rcases Nat.eq_zero_or_pos Y with h0 | h0
    · rw [h0, Nat.mul_zero] at hY; omega
    · exact h0
  have hYle : Y ≤ y.n := by rw [← hYd]; exact Nat.div_le_self _ _
  have hv : X * 10 ^ u = z.n * Y * 10 ^ v := by
    apply Nat.eq_of_mul_eq_mul_left hg0
    have e1 : Nat.gcd x.n y.n * (z.n * Y * 10 ^ v) = z.n * (Nat.gcd x.n y.n * Y) * 10 ^ v := by
      generalize Nat.gcd x.n y.n = g
      simp [Nat.mul_comm, Nat.mul_left_comm, Nat.mul_assoc]
    rw [e1, ← hY, ← Nat.mul_assoc, ← hX, hn]
  obtain ⟨m, f, q1, s', t', q2, q3⟩ := quot_found z.n z.e hz Y X (x.e - y.e) u v hY1 (by omega) hcop hv (by omega)
  unfold quotW
  rw [hXd, hYd, q1]
  show tellW (x.neg != y.neg) m f = _
  rw [← tell_sc ⟨x.neg != y.neg, m, f⟩]
  refine tell_same (m := min f z.e) (Int.min_le_right _ _) (Int.min_le_left _ _) ?_
  have key : sc ⟨x.neg != y.neg, m, f⟩ * 10 ^ s' = sc z * 10 ^ t' := by
    by_cases hz0 : z.n = 0
    · have hm0 : m = 0 := by
        rw [hz0, Nat.zero_mul] at q2
        rcases Nat.mul_eq_zero.1 q2 with h0 | h0
        · exact h0
        · have := ten_pos s'; omega
      rw [(sc_neg0 ⟨x.neg != y.neg, m, f⟩).2 hm0, (sc_neg0 z).2 hz0]; simp
    · have hsgn : (x.neg != y.neg) = z.neg := by
        have hxn : x.n ≠ 0 := by
          intro h0
          rw [h0, Nat.zero_mul] at hn
          have hh := hn.symm
          rcases Nat.mul_eq_zero.1 hh with h1 | h1
          · rcases Nat.mul_eq_zero.1 h1 with h2 | h2
            · exact hz0 h2
            · exact hy0 h2
          · have := ten_pos v; omega
        have hp1 := pow_pos' u
        have hp2 := pow_pos' v
        have hsg := congrArg Int.sign h
        rw [Int.sign_mul, Int.sign_mul, Int.sign_mul, Int.sign_eq_one_of_pos hp1, Int.sign_eq_one_of_pos hp2, Int.mul_one, Int.mul_one] at hsg
        have e1 : ∀ w : Wd, w.n ≠ 0 → (sc w).sign = if w.neg then -1 else 1 := by
          intro w hw
          unfold sc
          cases w.neg
          · simp only [Bool.false_eq_true, if_false]; exact Int.sign_eq_one_of_pos (by omega)
          · simp only [if_true]; exact Int.sign_eq_neg_one_of_neg (by omega)
        rw [e1 x hxn, e1 y hy0, e1 z hz0] at hsg
        cases hx : x.neg <;> cases hyy : y.neg <;> cases hzz : z.neg <;> rw [hx, hyy, hzz] at hsg <;> first | rfl | (exfalso; revert hsg; decide)
      rw [hsgn]
      have q2' : ((m * 10 ^ s' : Nat) : Int) = ((z.n * 10 ^ t' : Nat) : Int) := by rw [q2]
      rw [Int.natCast_mul, Int.natCast_mul, Int.natCast_pow, Int.natCast_pow] at q2'
      unfold sc
      simp only
      cases z.neg
      · simpa using q2'
      · simp only [if_true, Int.neg_mul]
        have : (m : Int) * 10 ^ s' = (z.n : Int) * 10 ^ t' := by simpa using q2'
        rw [this]
  -- both in the same units
  unfold V
  have hp := pow_ne (s' + t')
  generalize hd : min f z.e = d
  have hdf : d ≤ f := by omega
  have hdz : d ≤ z.e := by omega
  have a1 : sc ⟨x.neg != y.neg, m, f⟩ * 10 ^ (f - d).toNat * 10 ^ (s' + t') = sc ⟨x.neg != y.neg, m, f⟩ * 10 ^ s' * 10 ^ ((f - d).toNat + t') := by
    rw [Int.mul_assoc, Int.mul_assoc, ← Int.pow_add, ← Int.pow_add]; congr 2; omega
  have a2 : sc z * 10 ^ (z.e - d).toNat * 10 ^ (s' + t') = sc z * 10 ^ t' * 10 ^ ((z.e - d).toNat + s') := by
    rw [Int.mul_assoc, Int.mul_assoc, ← Int.pow_add, ← Int.pow_add]; congr 2; omega
  apply Int.eq_of_mul_eq_mul_right hp
  rw [a1, a2, key]
  congr 2
  omega
theorem sign_W (x:Wd) (w:World):Calls Tryz.prog 80 #[x.val] w fun r w'=>r=.returned (.int .i64 (sgW x))/\Below w.heap.size w w':=by
 refine(sign_any x.neg (x.n / 18446744073709551616) (x.n % 18446744073709551616) x.e w).mono ?_;rintro r w' ⟨rfl,hB⟩;refine⟨?_,hB⟩;unfold sgW;have:(x.n / 18446744073709551616=0/\x.n % 18446744073709551616=0)↔x.n=0:=by omega
 simp only[this]
set_option maxHeartbeats 1200000
theorem round_bad1 (c e p:Int) (he:¬ within e) (w:World):Calls Tryz.prog 83 #[dv c e,.int .i64 p] w fun r w'=>r=.returned (.tuple #[dv 0 0,.int .i64 1])/\Below w.heap.size w w':=by
 unfold dv;go_enter Tryz.func83,Tryz.ntmps83;go_wp2_with fail;obtain⟨_,_,hK,_⟩:=three_rows w _ _ _ _ 38 38 38 (Below.refl _ (((w.alloc (.cells #[.int .i64 c,.int .i64 e] 38)).alloc (.cells #[.int .i64 0,.int .i64 0] 38)).alloc (.cells #[.int .i64 c,.int .i64 e] 38)));refine(taken1_bad c e _ _ he hK).mono ?_;rintro _ w1 ⟨h1,rfl⟩;obtain⟨_,hZ,_,hB⟩:=three_rows w w1 _ _ _ _ _ _ h1;obtain⟨d0,d1⟩:=hZ.duo;have z:=hZ.frozen;clear h1;go_wp2;refine bodyPost_ret (ret_two rfl (g:=w.heap.size+1) rfl rfl (load23 (Row.set2 hZ _ _) rfl)) rfl ⟨rfl,?_⟩;repeat (refine below_set ?_ _ _ (by omega))
 exact hB
theorem round_bad2 (c e p:Int) (hc:I64 c) (he:within e) (hp:¬ within p) (w:World):Calls Tryz.prog 83 #[dv c e,.int .i64 p] w fun r w'=>r=.returned (.tuple #[dv 0 0,.int .i64 1])/\Below w.heap.size w w':=by
 unfold dv;have HI:Hid (decide (-18<=p/\p<=18)=false):=decide_eq_false hp;clear hp;go_enter Tryz.func83,Tryz.ntmps83;go_wp2_with fail;obtain⟨_,_,hK,_⟩:=three_rows w _ _ _ _ 38 38 38 (Below.refl _ (((w.alloc (.cells #[.int .i64 c,.int .i64 e] 38)).alloc (.cells #[.int .i64 0,.int .i64 0] 38)).alloc (.cells #[.int .i64 c,.int .i64 e] 38)));refine(taken1 c e _ _ hc he hK).mono ?_;rintro _ w1 ⟨h1,G,hG,rfl,hR⟩;obtain⟨_,hZ,_,hB⟩:=three_rows w w1 _ _ _ _ _ _ h1;obtain⟨d0,d1⟩:=hZ.duo;have z:=hZ.frozen;clear h1;clear hR hG;go_wp2_with (go_at_call 74;refine(within_any _ _).mono ?_;rintro _ w10 ⟨rfl,hw10⟩;subst hw10;rw[HI.out]);refine bodyPost_ret (ret_two rfl (g:=w.heap.size+1) rfl rfl (load23 (Row.set2 hZ _ _) rfl)) rfl ⟨rfl,?_⟩;repeat (refine below_set ?_ _ _ (by omega))
 exact hB
theorem round_up (c e p:Int) (hc:I64 c) (he:within e) (hp:within p) (hge : -p<=(decW c e).e) (w:World):Calls Tryz.prog 83 #[dv c e,.int .i64 p] w fun r w'=>r=.returned (decV (toldW (some (decW c e))))/\Below w.heap.size w w':=by
 have hT:=fun K w (hK:Row w K 38 #[.int .i64 c,.int .i64 e])=>taken1 c e K w hc he hK;obtain⟨b1,b2,b3,b4⟩:=dec_bounds hc he;have hsh:=sh_dec c e he.1 he.2 hc.1 hc.2;have hbig:=hsh.big;have hlo:=hsh.lo;have hhi:=hsh.hi;have HI:Hid (decide (-18<=p/\p<=18)=true):=decide_eq_true hp;have hp1:=hp.1;have hp2:=hp.2;have hTD:=told_true (decW c e) b2 b4.2 b4.1;rw[show tellW (decW c e).neg (decW c e).n (decW c e).e=toldW (some (decW c e)) from rfl] at hTD;generalize decW c e=y at *;obtain⟨p1,p2,v,hdv⟩:=decV_form (toldW (some y));rw[hdv] at hTD ⊢;clear hdv;obtain⟨nn,n,e0⟩:=y;simp only[Wd.val_eq] at *;unfold Wd.cells at hT;simp only at hT;obtain⟨nh,hnh⟩:∃q,n / 18446744073709551616=q:=⟨_,rfl⟩;obtain⟨nl,hnl⟩:∃q,n % 18446744073709551616=q:=⟨_,rfl⟩;rw[hnh,hnl] at hT;unfold Wd.cells at hTD;simp only at hTD;rw[hnh,hnl] at hTD;have hge2:¬ (e0 < -p):=by omega
 clear hnh hnl hsh hc he hp b1 b2 b3 b4 hge;unfold dv;go_enter Tryz.func83,Tryz.ntmps83;go_wp2_with fail;obtain⟨_,_,hK,_⟩:=three_rows w _ _ _ _ 38 38 38 (Below.refl _ (((w.alloc (.cells #[.int .i64 c,.int .i64 e] 38)).alloc (.cells #[.int .i64 0,.int .i64 0] 38)).alloc (.cells #[.int .i64 c,.int .i64 e] 38)));refine(hT _ _ hK).mono ?_;rintro _ W ⟨h1,G,hG,rfl,hR⟩;obtain⟨_,hZ,_,hB⟩:=three_rows w W _ _ _ _ _ _ h1;obtain⟨x0,x1,x2,x3⟩:=hR.four;have hzl:=hZ.lt;have hgl:=hR.lt;clear h1 hG hK hT;have hQ:=Row.new W 125 #[.bool nn,.int .u64 (nh:Int),.int .u64 (nl:Int),.int .i64 e0];have hZ:=hZ.alloc (.cells #[.bool nn,.int .u64 (nh:Int),.int .u64 (nl:Int),.int .i64 e0] 125);have hB:=hB.alloc hB.size (.cells #[.bool nn,.int .u64 (nh:Int),.int .u64 (nl:Int),.int .i64 e0] 125);have hne:w.heap.size+1≠W.heap.size:=Nat.ne_of_lt hzl;have hle:w.heap.size<=W.heap.size:=by omega
 go_wp2_with (first|(go_at_call 74;refine(within_any _ _).mono ?_;rintro _ w10 ⟨rfl,hw10⟩;rw[hw10,HI.out];clear hw10 w10)|fail);refine(hTD _).mono ?_;rintro _ w2 ⟨rfl,h2⟩;have hZ:=hZ.below h2 hZ.lt;have hB:=hB.trans (h2.mono hB.size);obtain⟨d0,d1⟩:=hZ.duo;have z:=hZ.frozen;clear h2 hTD;go_wp2;refine bodyPost_ret (ret_two rfl (g:=w.heap.size+1) rfl rfl (load23 (Row.set2 hZ _ _) rfl)) rfl ⟨rfl,?_⟩;repeat (refine below_set ?_ _ _ (by omega))
 exact hB
def rdR (neg : Bool) (n : Nat) (e0 p : Int) (QB B1 : Nat) (w0 : World) (_ : Value) (wr : World) : Prop :=
  ∃ j : Nat, e0 + j ≤ -p - 1 ∧ Row wr QB 125 (Wd.cells ⟨neg, n / 10 ^ j, e0 + j⟩) ∧ Row wr B1 38 #[.int .i64 0, .int .i64 0] ∧ Below w0.heap.size w0 wr
theorem round_down (c e p:Int) (hc:I64 c) (he:within e) (hp:within p) (hge:¬ -p<=(decW c e).e) (w:World):Calls Tryz.prog 83 #[dv c e,.int .i64 p] w fun r w'=>r=.returned (decV (toldW (some (roundW (decW c e) p))))/\Below w.heap.size w w':=by
 have hT:=fun K w (hK:Row w K 38 #[.int .i64 c,.int .i64 e])=>taken1 c e K w hc he hK;obtain⟨b1,b2,b3,b4⟩:=dec_bounds hc he;have hsh:=sh_dec c e he.1 he.2 hc.1 hc.2;have hbig:=hsh.big;have hlo:=hsh.lo;have hhi:=hsh.hi;have HI:Hid (decide (-18<=p/\p<=18)=true):=decide_eq_true hp;have hp1:=hp.1;have hp2:=hp.2;unfold roundW;rw[if_neg hge];generalize decW c e=y at *;obtain⟨nn,n,e0⟩:=y;simp only at *;have hMl:∀j,n / 10 ^ j<=9223372036854775808:=fun j=>Nat.le_trans (Nat.div_le_self _ _) hbig;have hTD:=told_true ⟨nn,(n / 10 ^ (-p-1-e0).toNat+5) / 10,-p⟩ (by have:=hMl (-p-1-e0).toNat;unfold M128;simp only;omega) (by simp only;omega) (by simp only;omega);rw[show tellW _ _ _=toldW (some ⟨nn,(n / 10 ^ (-p-1-e0).toNat+5) / 10,-p⟩) from rfl] at hTD;obtain⟨p1,p2,v,hdv⟩:=decV_form (toldW (some ⟨nn,(n / 10 ^ (-p-1-e0).toNat+5) / 10,-p⟩));rw[hdv] at hTD ⊢;clear hdv;unfold Wd.cells at hT;simp only at hT;obtain⟨nh,hnh⟩:∃q,n / 18446744073709551616=q:=⟨_,rfl⟩;obtain⟨nl,hnl⟩:∃q,n % 18446744073709551616=q:=⟨_,rfl⟩;rw[hnh,hnl] at hT;have HNH:Hid (n / 18446744073709551616=nh):=hnh;have HNL:Hid (n % 18446744073709551616=nl):=hnl;have hge2:e0 < -p:=by omega
 clear hnh hnl hsh hc he hp b1 b2 b3 b4 hge;unfold dv;go_enter Tryz.func83,Tryz.ntmps83;go_wp2_with fail;obtain⟨_,_,hK,_⟩:=three_rows w _ _ _ _ 38 38 38 (Below.refl _ (((w.alloc (.cells #[.int .i64 c,.int .i64 e] 38)).alloc (.cells #[.int .i64 0,.int .i64 0] 38)).alloc (.cells #[.int .i64 c,.int .i64 e] 38)));refine(hT _ _ hK).mono ?_;rintro _ W ⟨h1,G,hG,rfl,hR⟩;obtain⟨_,hZ,_,hB⟩:=three_rows w W _ _ _ _ _ _ h1;obtain⟨x0,x1,x2,x3⟩:=hR.four;have hzl:=hZ.lt;have hgl:=hR.lt;clear h1 hG hK hT;have hQ:=Row.new W 125 #[.bool nn,.int .u64 (nh:Int),.int .u64 (nl:Int),.int .i64 e0];have hZ:=hZ.alloc (.cells #[.bool nn,.int .u64 (nh:Int),.int .u64 (nl:Int),.int .i64 e0] 125);have hB:=hB.alloc hB.size (.cells #[.bool nn,.int .u64 (nh:Int),.int .u64 (nl:Int),.int .i64 e0] 125);have hne:w.heap.size+1≠W.heap.size:=Nat.ne_of_lt hzl;have hle:w.heap.size<=W.heap.size:=by omega
 go_wp2_with (first|(go_at_call 74;refine(within_any _ _).mono ?_;rintro _ w10 ⟨rfl,hw10⟩;rw[hw10,HI.out];clear hw10 w10)|fail);go_loopw [45] (rdR nn n e0 p W.heap.size (w.heap.size+1) w) (fun _ wr=>(-p-1-eCell W.heap.size wr).toNat)
 case atStart => refine⟨0,by omega,?_,hZ,hB⟩;unfold Wd.cells;simp only[Nat.pow_zero,Nat.div_one];rw[HNH.out,HNL.out,show e0+((0:Nat):Int)=e0 by omega];exact hQ
 case round =>
  clear hQ hZ hB x0 x1 x2 x3;obtain⟨j,hj,hQ,hZ,hB⟩:=hrel;have hEC:=eCell_row hQ;have hml:=hMl j;have HMJ:Hid (n / 10 ^ (j+1)=n / 10 ^ j / 10):=by show _=_;rw[Nat.pow_succ,Nat.div_div_eq_div_mul]
  obtain⟨m,hm⟩:∃m,n / 10 ^ j=m:=⟨_,rfl⟩;obtain⟨f,hf⟩:∃f,e0+(j:Int)=f:=⟨_,rfl⟩;rw[hm] at hml;unfold Wd.cells at hQ;simp only[hm,hf] at hQ hEC;have hm1:m / 18446744073709551616=0:=by omega
  have hm2:m % 18446744073709551616=m:=by omega
  rw[hm1,hm2] at hQ;have hQ:Row wr W.heap.size 125 #[.bool nn,.int .u64 0,.int .u64 (m:Int),.int .i64 f]:=hQ;have HM:Hid (n / 10 ^ j=m):=hm;have HF:Hid (e0+(j:Int)=f):=hf;obtain⟨a0,a1,a2,a3⟩:=hQ.four;have z0:=hQ.frozen;by_cases hlt:f < -p-1
  ·have hTn:=tenth_any ⟨nn,m,f⟩ (by unfold M128;simp only;omega) (by simp only;omega) (by simp only;omega);simp only[Wd.val_eq] at hTn;unfold Wd.cells at hTn;simp only[hm1,hm2] at hTn;obtain⟨m',hm'⟩:∃m',m / 10=m':=⟨_,rfl⟩;obtain⟨dg,hdg⟩:∃dg,m % 10=dg:=⟨_,rfl⟩;rw[hm',hdg,show m' / 18446744073709551616=0 by omega,show m' % 18446744073709551616=m' by omega] at hTn;simp only[show ((0:Nat):Int)=0 from rfl] at hTn;have HM':Hid (m / 10=m'):=hm';have hml':m'<=9223372036854775808:=by omega
   clear hm hf hm1 hm2 hm' hdg hTD HNH HNL;go_wp2_with fail;refine(hTn _).mono ?_;rintro _ w2 ⟨rfl,h2⟩;have hQ:=hQ.below h2 hQ.lt;have hZ:=hZ.below h2 hZ.lt;have hB:=hB.trans (h2.mono hB.size);clear h2 hTn a0 a1 a2 a3 z0;obtain⟨a0,a1,a2,a3⟩:=hQ.four;have z0:=hQ.frozen;go_wp2;have hfin:Row ((((w2.setCell ⟨W.heap.size,0,none⟩ (.bool nn)).setCell ⟨W.heap.size,1,none⟩ (.int .u64 0)).setCell ⟨W.heap.size,2,none⟩ (.int .u64 (m':Int))).setCell ⟨W.heap.size,3,none⟩ (.int .i64 (f+1))) W.heap.size 125 (Wd.cells ⟨nn,n / 10 ^ (j+1),e0+((j+1:Nat):Int)⟩):=by unfold Wd.cells;simp only;rw[HMJ.out,HM.out,HM'.out,show m' / 18446744073709551616=0 by omega,show m' % 18446744073709551616=m' by omega,show e0+((j+1:Nat):Int)=f+1 by have:=HF.out;omega];exact hQ.set4 _ _ _ _
   refine⟨⟨j+1,?_,hfin,hZ.off4 hne _ _ _ _,below_set4 hB hle _ _ _ _⟩,?_⟩
   ·have:=HF.out;omega
   ·rw[eCell_row hfin,hEC];have:=HF.out;simp only;omega
  ·have hfe:f = -p-1:=by omega
   have hTn:=tenth_any ⟨nn,m+5,f⟩ (by unfold M128;simp only;omega) (by simp only;omega) (by simp only;omega);simp only[Wd.val_eq] at hTn;unfold Wd.cells at hTn;simp only at hTn;obtain⟨m',hm'⟩:∃m',(m+5) / 10=m':=⟨_,rfl⟩;obtain⟨dg,hdg⟩:∃dg,(m+5) % 10=dg:=⟨_,rfl⟩;obtain⟨m5,hm5⟩:∃m5,m+5=m5:=⟨_,rfl⟩;rw[hm5] at hTn hm' hdg;rw[hm',hdg,show m5 / 18446744073709551616=0 by omega,show m5 % 18446744073709551616=m5 by omega,show m' / 18446744073709551616=0 by omega,show m' % 18446744073709551616=m' by omega] at hTn;simp only[show ((0:Nat):Int)=0 from rfl] at hTn;have hTe:(n / 10 ^ (-p-1-e0).toNat+5) / 10=m':=by rw[show (-p-1-e0).toNat=j by omega,hm,hm5,hm']
   rw[hTe,Wd.val_eq] at hTD;unfold Wd.cells at hTD;simp only at hTD;rw[show m' / 18446744073709551616=0 by omega,show m' % 18446744073709551616=m' by omega,show -p=f+1 by omega,show ((0:Nat):Int)=0 from rfl] at hTD;have f5:(m:Int)+5=(m5:Int):=by omega
   have F5:Hid ((m:Int)+5=(m5:Int)):=f5;have hm5b:m5<18446744073709551616:=by omega
   clear hm hf hm1 hm2 hm' hdg hTe f5 hm5 HNH HNL hfe;go_wp2_with fail;try rw[F5.out]
   have hQ:=hQ.set 2 (.int .u64 (m5:Int));have hQ:Row (wr.setCell ⟨W.heap.size,2,none⟩ (.int .u64 (m5:Int))) W.heap.size 125 #[.bool nn,.int .u64 0,.int .u64 (m5:Int),.int .i64 f]:=hQ;have hZ:=hZ.off (B':=W.heap.size) 2 (.int .u64 (m5:Int)) hne;have hB:=below_set hB (B:=W.heap.size) 2 (.int .u64 (m5:Int)) hle;refine(hTn _).mono ?_;rintro _ w2 ⟨rfl,h2⟩;have hQ:=hQ.below h2 hQ.lt;have hZ:=hZ.below h2 hZ.lt;have hB:=hB.trans (h2.mono hB.size);clear h2 hTn a0 a1 a2 a3 z0;obtain⟨a0,a1,a2,a3⟩:=hQ.four;have z0:=hQ.frozen;have hQ:=hQ.set4 (.bool nn) (.int .u64 0) (.int .u64 (m':Int)) (.int .i64 (f+1));have hZ:=hZ.off4 (B':=W.heap.size) hne (.bool nn) (.int .u64 0) (.int .u64 (m':Int)) (.int .i64 (f+1));have hB:=below_set4 hB (B':=W.heap.size) hle (.bool nn) (.int .u64 0) (.int .u64 (m':Int)) (.int .i64 (f+1));go_wp2_with fail;refine(hTD _).mono ?_;rintro _ w3 ⟨rfl,h3⟩;have hZ:=hZ.below h3 hZ.lt;have hB:=hB.trans (h3.mono hB.size);obtain⟨d0,d1⟩:=hZ.duo;have z:=hZ.frozen;clear h3 hTD a0 a1 a2 a3 z0;go_wp2;refine bodyPost_ret (ret_two rfl (g:=w.heap.size+1) rfl rfl (load23 (Row.set2 hZ _ _) rfl)) rfl ⟨rfl,?_⟩;repeat (refine below_set ?_ _ _ (by omega))
   exact hB
end Go.Proofs.YtoncpcdepemlcaaGreatDoor
