import Derived.Test.YtnhflnpjepiceaaGreatDoorWtkM
import Derived.Test.YtnhflnpjepiceaaGreatDoorOrdM
namespace Go.Proofs.YtnhflnpjepiceaaGreatDoor
set_option maxRecDepth 100000
set_option maxHeartbeats 1000000
open Go.RowKit
theorem bySize_raw (an bn : Bool) (ah al bh bl : Nat) (ae be : Int) (w : World) : Calls Tryz.prog 156 #[wv an ah al ae, wv bn bh bl be] w fun r w' =>
    r = .returned (.int .i64 (if cN ah bh ≠ 0 then cN ah bh else cN al bl)) ∧ Below w.heap.size w w' := by
  have k1 := cmpU ah bh
  have k2 := cmpU al bl
  have k3 := or2 (cN ah bh) (cN al bl)
  unfold wv
  generalize cN ah bh = x at *
  generalize cN al bl = y at *
  generalize (if x ≠ 0 then x else y) = z at *
  go_enter Tryz.func156, Tryz.ntmps156
  go_wp2_with fail
  have hA := (Row.new w 85 #[.bool an, .int .u64 (ah : Int), .int .u64 (al : Int), .int .i64 ae]).alloc (.cells #[.bool bn, .int .u64 (bh : Int), .int .u64 (bl : Int), .int .i64 be] 85)
  have hZ := Row.new1 w (.cells #[.bool an, .int .u64 (ah : Int), .int .u64 (al : Int), .int .i64 ae] 85) 85 #[.bool bn, .int .u64 (bh : Int), .int .u64 (bl : Int), .int .i64 be]
  have hB := ((Below.refl _ w).alloc (Nat.le_refl _) (.cells #[.bool an, .int .u64 (ah : Int), .int .u64 (al : Int), .int .i64 ae] 85)).alloc (by simp) (.cells #[.bool bn, .int .u64 (bh : Int), .int .u64 (bl : Int), .int .i64 be] 85)
  generalize (w.alloc (.cells #[.bool an, .int .u64 (ah : Int), .int .u64 (al : Int), .int .i64 ae] 85)).alloc (.cells #[.bool bn, .int .u64 (bh : Int), .int .u64 (bl : Int), .int .i64 be] 85) = W at *
  obtain ⟨a0, a1, a2, a3⟩ := hA.four
  obtain ⟨b0, b1, b2, b3⟩ := hZ.four
  have HD : W.drew = W.drew := rfl
  have hlt : w.heap.size < W.heap.size := hA.lt
  refine Ir (fun wx : World => wx = W.drew) 10 13 ?_
  refine Oh 0 HD ?_ (y:=by rintro wx rfl; go_simp <;> rfl)
  refine Oh 1 HD ?_ (v:=.int .u64 (ah : Int)) (y:=by rintro wx rfl; go_simp <;> rfl)
  refine Oh 2 HD ?_ (y:=by rintro wx rfl; go_simp <;> rfl)
  refine Oh 3 HD ?_ (v:=.int .u64 (bh : Int)) (y:=by rintro wx rfl; go_simp <;> rfl)
  refine Oh 5 HD ?_ (y:=by rintro wx rfl; go_simp <;> rfl)
  refine Oh 6 HD ?_ (v:=.int .u64 (al : Int)) (y:=by rintro wx rfl; go_simp <;> rfl)
  refine Oh 7 HD ?_ (y:=by rintro wx rfl; go_simp <;> rfl)
  refine Oh 8 HD ?_ (v:=.int .u64 (bl : Int)) (y:=by rintro wx rfl; go_simp <;> rfl)
  refine Oo 4 ?_
  go_wp2_with fail
  refine (k1 _).mono ?_
  rintro _ w1 ⟨rfl, h1⟩
  rw [h1]
  clear h1 w1
  go_wp2_with fail
  refine ⟨fun _ => rfl, ?_⟩
  refine Oo 9 ?_
  go_wp2_with fail
  refine (k2 _).mono ?_
  rintro _ w1 ⟨rfl, h1⟩
  rw [h1]
  clear h1 w1
  go_wp2_with fail
  refine ⟨fun _ => rfl, ?_⟩
  refine Oo 10 ?_
  go_wp2_with fail
  refine ⟨(fun h => by simp at h), ?_⟩
  refine Oo 11 ?_
  go_wp2_with fail
  refine (k3 W.heap.size _ (Row.new W.drew 3 _)).mono ?_
  rintro _ w1 ⟨rfl, h1⟩
  rw [h1]
  clear h1 w1
  go_wp2_with fail
  refine ⟨(fun h => by simp at h), ?_⟩
  refine Oo 12 ?_
  go_wp2_with fail
  refine ⟨(fun h => by simp at h), ?_⟩
  refine Od ?_
  go_wp2
  go_ret
  exact ⟨rfl, (hB.trans (Below.refl _ W).drew).alloc (by show _ ≤ W.heap.size; omega) _⟩
theorem bySize_any (a b:Wd) (w:World):Calls Tryz.prog 156 #[a.val,b.val] w fun r w'=>r=.returned (.int .i64 (cN a.n b.n))/\Below w.heap.size w w':=by
 refine(bySize_raw a.neg b.neg _ _ _ _ a.e b.e w).mono ?_;rintro r w' ⟨rfl,hB⟩;refine⟨?_,hB⟩;congr 2;unfold cN;repeat' split
 all_goals first|omega|contradiction|skip
theorem zw (w w1:World) (o1 o2 o3:Array Value) (t1 t2 t3:TypeId) (h:Below ((((w.alloc (.cells o1 t1)).alloc (.cells o2 t2)).alloc (.cells o3 t3)).heap.size) (((w.alloc (.cells o1 t1)).alloc (.cells o2 t2)).alloc (.cells o3 t3)) w1):Row w1 w.heap.size t1 o1/\Row w1 (w.heap.size+1) t2 o2/\Row w1 (w.heap.size+2) t3 o3/\Below w.heap.size w w1:=by
 have r1:=((Row.new w t1 o1).alloc (.cells o2 t2)).alloc (.cells o3 t3);have r2:=(Row.new1 w (.cells o1 t1) t2 o2).alloc (.cells o3 t3);have r3:Row (((w.alloc (.cells o1 t1)).alloc (.cells o2 t2)).alloc (.cells o3 t3)) (w.heap.size+2) t3 o3:=by have:=Row.new ((w.alloc (.cells o1 t1)).alloc (.cells o2 t2)) t3 o3;simpa using this
 refine⟨r1.below h r1.lt,r2.below h r2.lt,r3.below h r3.lt,?_⟩;exact((((Below.refl _ w).alloc (Nat.le_refl _) _).alloc (by simp) _).alloc (by simp;omega) _).trans (h.mono (by simp;omega))
theorem diff_ge (an bn:Bool) (ah al bh bl H L bo c2:Nat) (ae be q:Int) (hk:∀w,Calls Tryz.prog 156 #[wv an ah al ae,wv bn bh bl be] w fun r w'=>r=.returned (.int .i64 q)/\Below w.heap.size w w') (hq:¬ q<0) (s1:∀w,(callFunc 168 #[.int .u64 (al:Int),.int .u64 (bl:Int),.int .u64 0]).run Tryz.prog w=.ok (.value (.tuple #[.int .u64 (L:Int),.int .u64 (bo:Int)])) w) (s2:∀w,(callFunc 168 #[.int .u64 (ah:Int),.int .u64 (bh:Int),.int .u64 (bo:Int)]).run Tryz.prog w=.ok (.value (.tuple #[.int .u64 (H:Int),.int .u64 (c2:Int)])) w) (w:World):Calls Tryz.prog 146 #[wv an ah al ae,wv bn bh bl be] w fun r w'=>r=.returned (wv an H L ae)/\Below w.heap.size w w':=by
 unfold wv at *;go_enter Tryz.func146,Tryz.ntmps146;go_wp2_with fail;refine(hk _).mono ?_;rintro _ w1 ⟨rfl,h1⟩;obtain⟨hA,hC,hZ,hB⟩:=zw w w1 _ _ _ _ _ _ h1;obtain⟨a0,a1,a2,a3⟩:=hA.four;obtain⟨b0,b1,b2,b3⟩:=hC.four;obtain⟨d0,d1,d2,d3⟩:=hZ.four;have z1:=hZ.frozen;clear h1 hk;go_wp2;refine bodyPost_ret (zb rfl (g:=w.heap.size+2) rfl (zW (Row.set4 hZ _ _ _ _) rfl)) rfl ⟨rfl,?_⟩;repeat (refine za ?_ _ _ (by omega))
 exact hB
theorem diff_lt (an bn:Bool) (ah al bh bl H L bo c2:Nat) (ae be q:Int) (hk:∀w,Calls Tryz.prog 156 #[wv an ah al ae,wv bn bh bl be] w fun r w'=>r=.returned (.int .i64 q)/\Below w.heap.size w w') (hq:q<0) (s1:∀w,(callFunc 168 #[.int .u64 (bl:Int),.int .u64 (al:Int),.int .u64 0]).run Tryz.prog w=.ok (.value (.tuple #[.int .u64 (L:Int),.int .u64 (bo:Int)])) w) (s2:∀w,(callFunc 168 #[.int .u64 (bh:Int),.int .u64 (ah:Int),.int .u64 (bo:Int)]).run Tryz.prog w=.ok (.value (.tuple #[.int .u64 (H:Int),.int .u64 (c2:Int)])) w) (w:World):Calls Tryz.prog 146 #[wv an ah al ae,wv bn bh bl be] w fun r w'=>r=.returned (wv bn H L be)/\Below w.heap.size w w':=by
 unfold wv at *;go_enter Tryz.func146,Tryz.ntmps146;go_wp2_with fail;refine(hk _).mono ?_;rintro _ w1 ⟨rfl,h1⟩;obtain⟨hA,hC,hZ,hB⟩:=zw w w1 _ _ _ _ _ _ h1;obtain⟨a0,a1,a2,a3⟩:=hA.four;obtain⟨b0,b1,b2,b3⟩:=hC.four;obtain⟨d0,d1,d2,d3⟩:=hZ.four;have z1:=hZ.frozen;have z2:=hA.frozen;have z3:=hC.frozen;clear h1 hk;go_wp2;have hZ2:=(((((((hZ.off (B':=w.heap.size) 0 (.bool bn) (by omega)).off (B':=w.heap.size) 1 (.int .u64 (bh:Int)) (by omega)).off (B':=w.heap.size) 2 (.int .u64 (bl:Int)) (by omega)).off (B':=w.heap.size) 3 (.int .i64 be) (by omega)).off (B':=w.heap.size+1) 0 (.bool an) (by omega)).off (B':=w.heap.size+1) 1 (.int .u64 (ah:Int)) (by omega)).off (B':=w.heap.size+1) 2 (.int .u64 (al:Int)) (by omega)).off (B':=w.heap.size+1) 3 (.int .i64 ae) (by omega);refine bodyPost_ret (zb rfl (g:=w.heap.size+2) rfl (zW (Row.set4 hZ2 _ _ _ _) rfl)) rfl ⟨rfl,?_⟩;repeat (refine za ?_ _ _ (by omega))
 exact hB
theorem diff_any (a b:Wd) (ha:a.n<zt) (hb:b.n<zt) (w:World):Calls Tryz.prog 146 #[a.val,b.val] w fun r w'=>r=.returned (kV a b).val/\Below w.heap.size w w':=by
 have hk:=bySize_any a b;obtain⟨an,x,ae⟩:=a;obtain⟨bn,y,be⟩:=b;unfold zt at ha hb;simp only at ha hb;unfold Wd.val at *;simp only at *;by_cases h:x<y
 ·have e1:kV ⟨an,x,ae⟩ ⟨bn,y,be⟩=⟨bn,y-x,be⟩:=by unfold kV;rw[if_pos h]
  rw[e1];have t1:=XH (y % 18446744073709551616) (x % 18446744073709551616) 0 (by omega);have t2:=XH (y / 18446744073709551616) (x / 18446744073709551616) (if y % 18446744073709551616<x % 18446744073709551616+0 then 1 else 0) (by split<;>omega);simp only;refine diff_lt an bn _ _ _ _ _ _ (if y % 18446744073709551616<x % 18446744073709551616+0 then 1 else 0) (if y / 18446744073709551616<x / 18446744073709551616+(if y % 18446744073709551616<x % 18446744073709551616+0 then 1 else 0) then 1 else 0) ae be _ hk (by unfold cN;rw[if_pos h];omega) (fun w => ?_) (fun w => ?_) w
  ·have:=t1 w;rw[show (y % 18446744073709551616+18446744073709551616-x % 18446744073709551616-0) % 18446744073709551616=(y-x) % 18446744073709551616 by omega] at this;exact this
  ·have:=t2 w;rw[show (y / 18446744073709551616+18446744073709551616-x / 18446744073709551616-(if y % 18446744073709551616<x % 18446744073709551616+0 then 1 else 0)) % 18446744073709551616=(y-x) / 18446744073709551616 by split<;>omega] at this;exact this
 ·have e1:kV ⟨an,x,ae⟩ ⟨bn,y,be⟩=⟨an,x-y,ae⟩:=by unfold kV;rw[if_neg h]
  rw[e1];have t1:=XH (x % 18446744073709551616) (y % 18446744073709551616) 0 (by omega);have t2:=XH (x / 18446744073709551616) (y / 18446744073709551616) (if x % 18446744073709551616<y % 18446744073709551616+0 then 1 else 0) (by split<;>omega);simp only;refine diff_ge an bn _ _ _ _ _ _ (if x % 18446744073709551616<y % 18446744073709551616+0 then 1 else 0) (if x / 18446744073709551616<y / 18446744073709551616+(if x % 18446744073709551616<y % 18446744073709551616+0 then 1 else 0) then 1 else 0) ae be _ hk (by unfold cN;rw[if_neg h];split<;>omega) (fun w => ?_) (fun w => ?_) w
  ·have:=t1 w;rw[show (x % 18446744073709551616+18446744073709551616-y % 18446744073709551616-0) % 18446744073709551616=(x-y) % 18446744073709551616 by omega] at this;exact this
  ·have:=t2 w;rw[show (x / 18446744073709551616+18446744073709551616-y / 18446744073709551616-(if x % 18446744073709551616<y % 18446744073709551616+0 then 1 else 0)) % 18446744073709551616=(x-y) / 18446744073709551616 by split<;>omega] at this;exact this
set_option maxHeartbeats 600000
theorem Row.off4 {W:World} {B:Nat} {t:TypeId} {cs:Array Value} (h:Row W B t cs) {B':Nat} (hne:B≠B') (a b c d:Value):Row ((((W.setCell ⟨B',0,none⟩ a).setCell ⟨B',1,none⟩ b).setCell ⟨B',2,none⟩ c).setCell ⟨B',3,none⟩ d) B t cs:=(((h.off 0 a hne).off 1 b hne).off 2 c hne).off 3 d hne
theorem zx {N:Nat} {x W:World} (h:Below N x W) {B':Nat} (hN:N≤B') (a b c d:Value):Below N x ((((W.setCell ⟨B',0,none⟩ a).setCell ⟨B',1,none⟩ b).setCell ⟨B',2,none⟩ c).setCell ⟨B',3,none⟩ d):=za (za (za (za h 0 a hN) 1 b hN) 2 c hN) 3 d hN
def jG (o : Option Wd) (r : Ending) : Prop := ∃ (x : Wd) (b : Bool), r = .returned (.tuple #[x.val, .bool b]) ∧ x.n < zt ∧ -9223372036854775808 ≤ x.e ∧ x.e ≤ 9223372036854775807 ∧ o = (if b then some x else none)
theorem ZU {x y:Wd} {t:Int} (h:yd x t=some y) (hx:x.n<zt):y.n<zt/\y.neg=x.neg/\y.e<=t/\(y.e=x.e\/y.e=t)/\y.e<=x.e:=by
 unfold yd at h;split at h
 ·cases h;exact⟨hx,rfl,by assumption,Or.inl rfl,Int.le_refl _⟩
 ·split at h
  ·cases h;exact⟨by assumption,rfl,Int.le_refl _,Or.inr rfl,by simp only;omega⟩
  ·cases h
def EOk (x : Wd) : Prop := -9223372036854775808 ≤ x.e ∧ x.e ≤ 9223372036854775807
theorem sum_a0 (an bn:Bool) (ah al bh bl:Nat) (ae be:Int) (hza:∀w,Calls Tryz.prog 114 #[wv an ah al ae] w fun r w'=>r=.returned (.bool true)/\Below w.heap.size w w') (w:World):Calls Tryz.prog 105 #[wv an ah al ae,wv bn bh bl be] w fun r w'=>r=.returned (.tuple #[wv bn bh bl be,.bool true])/\Below w.heap.size w w':=by
 unfold wv at *;go_enter Tryz.func105,Tryz.ntmps105;go_wp2_with fail;refine(hza _).mono ?_;rintro _ w1 ⟨rfl,h1⟩;obtain⟨hA,hC,hZ,hB⟩:=zw w w1 _ _ _ _ _ _ h1;obtain⟨a0,a1,a2,a3⟩:=hA.four;obtain⟨b0,b1,b2,b3⟩:=hC.four;obtain⟨d0,d1,d2,d3⟩:=hZ.four;have z1:=hA.frozen;have z2:=hC.frozen;have z3:=hZ.frozen;clear h1 hza;go_wp2;refine bodyPost_ret (zd rfl (g:=w.heap.size+2) rfl rfl (zW (Row.set4 hZ _ _ _ _) rfl)) rfl ⟨?_,?_⟩
 ·rfl
 ·exact zx hB (by omega) _ _ _ _
theorem sum_b0 (an bn:Bool) (ah al bh bl:Nat) (ae be:Int) (hza:∀w,Calls Tryz.prog 114 #[wv an ah al ae] w fun r w'=>r=.returned (.bool false)/\Below w.heap.size w w') (hzb:∀w,Calls Tryz.prog 114 #[wv bn bh bl be] w fun r w'=>r=.returned (.bool true)/\Below w.heap.size w w') (w:World):Calls Tryz.prog 105 #[wv an ah al ae,wv bn bh bl be] w fun r w'=>r=.returned (.tuple #[wv an ah al ae,.bool true])/\Below w.heap.size w w':=by
 unfold wv at *;go_enter Tryz.func105,Tryz.ntmps105;go_wp2_with fail;refine(hza _).mono ?_;rintro _ w1 ⟨rfl,h1⟩;obtain⟨hA,hC,hZ,hB⟩:=zw w w1 _ _ _ _ _ _ h1;obtain⟨a0,a1,a2,a3⟩:=hA.four;obtain⟨b0,b1,b2,b3⟩:=hC.four;obtain⟨d0,d1,d2,d3⟩:=hZ.four;have z1:=hA.frozen;have z2:=hC.frozen;have z3:=hZ.frozen;clear h1 hza;go_wp2_with fail;refine(hzb _).mono ?_;rintro _ w2 ⟨rfl,h2⟩;clear a0 a1 a2 a3 b0 b1 b2 b3 d0 d1 d2 d3 z1 z2 z3;have hA:=hA.below h2 hA.lt;have hC:=hC.below h2 hC.lt;have hZ:=hZ.below h2 hZ.lt;have hB:=hB.trans (h2.mono hB.size);obtain⟨a0,a1,a2,a3⟩:=hA.four;obtain⟨b0,b1,b2,b3⟩:=hC.four;obtain⟨d0,d1,d2,d3⟩:=hZ.four;have z1:=hA.frozen;have z2:=hC.frozen;have z3:=hZ.frozen;clear h2 hzb;go_wp2;refine bodyPost_ret (zd rfl (g:=w.heap.size+2) rfl rfl (zW (Row.set4 hZ _ _ _ _) rfl)) rfl ⟨?_,?_⟩
 ·rfl
 ·exact zx hB (by omega) _ _ _ _
theorem sum_f1 (an bn:Bool) (ah al bh bl:Nat) (ae be:Int) (tn tb:Bool) (th tl:Nat) (te:Int) (hza:∀w,Calls Tryz.prog 114 #[wv an ah al ae] w fun r w'=>r=.returned (.bool false)/\Below w.heap.size w w') (hzb:∀w,Calls Tryz.prog 114 #[wv bn bh bl be] w fun r w'=>r=.returned (.bool false)/\Below w.heap.size w w') (hla:∀w,Calls Tryz.prog 145 #[wv an ah al ae,.int .i64 be] w fun r w'=>r=.returned (.tuple #[.agg #[.bool false,.int .u64 0,.int .u64 0,.int .i64 0],.bool false])/\Below w.heap.size w w') (hlb:∀w,Calls Tryz.prog 145 #[wv bn bh bl be,.int .i64 0] w fun r w'=>r=.returned (.tuple #[wv tn th tl te,.bool tb])/\Below w.heap.size w w') (w:World):Calls Tryz.prog 105 #[wv an ah al ae,wv bn bh bl be] w fun r w'=>r=.returned (.tuple #[.agg #[.bool false,.int .u64 0,.int .u64 0,.int .i64 0],.bool false])/\Below w.heap.size w w':=by
 unfold wv at *;go_enter Tryz.func105,Tryz.ntmps105;go_wp2_with fail;refine(hza _).mono ?_;rintro _ w1 ⟨rfl,h1⟩;obtain⟨hA,hC,hZ,hB⟩:=zw w w1 _ _ _ _ _ _ h1;obtain⟨a0,a1,a2,a3⟩:=hA.four;obtain⟨b0,b1,b2,b3⟩:=hC.four;obtain⟨d0,d1,d2,d3⟩:=hZ.four;have z1:=hA.frozen;have z2:=hC.frozen;have z3:=hZ.frozen;clear h1 hza;go_wp2_with fail;refine(hzb _).mono ?_;rintro _ w2 ⟨rfl,h2⟩;clear a0 a1 a2 a3 b0 b1 b2 b3 d0 d1 d2 d3 z1 z2 z3;have hA:=hA.below h2 hA.lt;have hC:=hC.below h2 hC.lt;have hZ:=hZ.below h2 hZ.lt;have hB:=hB.trans (h2.mono hB.size);obtain⟨a0,a1,a2,a3⟩:=hA.four;obtain⟨b0,b1,b2,b3⟩:=hC.four;obtain⟨d0,d1,d2,d3⟩:=hZ.four;have z1:=hA.frozen;have z2:=hC.frozen;have z3:=hZ.frozen;clear h2 hzb;go_wp2_with fail;refine(hla _).mono ?_;rintro _ w3a ⟨rfl,h3⟩;clear a0 a1 a2 a3 b0 b1 b2 b3 d0 d1 d2 d3 z1 z2 z3;have hA:=hA.below h3 hA.lt;have hC:=hC.below h3 hC.lt;have hZ:=hZ.below h3 hZ.lt;have hB:=hB.trans (h3.mono hB.size);obtain⟨a0,a1,a2,a3⟩:=hA.four;obtain⟨b0,b1,b2,b3⟩:=hC.four;obtain⟨d0,d1,d2,d3⟩:=hZ.four;have z1:=hA.frozen;have z2:=hC.frozen;have z3:=hZ.frozen;clear h3 hla;have hA:=hA.set4 (.bool false) (.int .u64 0) (.int .u64 0) (.int .i64 0);have hC:=hC.off4 (B':=w.heap.size) (by omega) (.bool false) (.int .u64 0) (.int .u64 0) (.int .i64 0);have hZ:=hZ.off4 (B':=w.heap.size) (by omega) (.bool false) (.int .u64 0) (.int .u64 0) (.int .i64 0);have hB:=zx hB (B':=w.heap.size) (by omega) (.bool false) (.int .u64 0) (.int .u64 0) (.int .i64 0);go_wp2_with fail;refine(hlb _).mono ?_;rintro _ w3b ⟨rfl,h3⟩;clear a0 a1 a2 a3 b0 b1 b2 b3 d0 d1 d2 d3 z1 z2 z3;have hA:=hA.below h3 hA.lt;have hC:=hC.below h3 hC.lt;have hZ:=hZ.below h3 hZ.lt;have hB:=hB.trans (h3.mono hB.size);obtain⟨a0,a1,a2,a3⟩:=hA.four;obtain⟨b0,b1,b2,b3⟩:=hC.four;obtain⟨d0,d1,d2,d3⟩:=hZ.four;have z1:=hA.frozen;have z2:=hC.frozen;have z3:=hZ.frozen;clear h3 hlb;have hC:=hC.set4 (.bool tn) (.int .u64 (th:Int)) (.int .u64 (tl:Int)) (.int .i64 te);have hA:=hA.off4 (B':=w.heap.size+1) (by omega) (.bool tn) (.int .u64 (th:Int)) (.int .u64 (tl:Int)) (.int .i64 te);have hZ:=hZ.off4 (B':=w.heap.size+1) (by omega) (.bool tn) (.int .u64 (th:Int)) (.int .u64 (tl:Int)) (.int .i64 te);have hB:=zx hB (B':=w.heap.size+1) (by omega) (.bool tn) (.int .u64 (th:Int)) (.int .u64 (tl:Int)) (.int .i64 te);go_wp2;refine bodyPost_ret (zd rfl (g:=w.heap.size+2) rfl rfl (zW (Row.set4 hZ _ _ _ _) rfl)) rfl ⟨?_,?_⟩
 ·rfl
 ·exact zx hB (by omega) _ _ _ _
theorem sum_f2 (an bn:Bool) (ah al bh bl:Nat) (ae be:Int) (sn:Bool) (sh sl:Nat) (se:Int) (hza:∀w,Calls Tryz.prog 114 #[wv an ah al ae] w fun r w'=>r=.returned (.bool false)/\Below w.heap.size w w') (hzb:∀w,Calls Tryz.prog 114 #[wv bn bh bl be] w fun r w'=>r=.returned (.bool false)/\Below w.heap.size w w') (hla:∀w,Calls Tryz.prog 145 #[wv an ah al ae,.int .i64 be] w fun r w'=>r=.returned (.tuple #[wv sn sh sl se,.bool true])/\Below w.heap.size w w') (hlb:∀w,Calls Tryz.prog 145 #[wv bn bh bl be,.int .i64 se] w fun r w'=>r=.returned (.tuple #[.agg #[.bool false,.int .u64 0,.int .u64 0,.int .i64 0],.bool false])/\Below w.heap.size w w') (w:World):Calls Tryz.prog 105 #[wv an ah al ae,wv bn bh bl be] w fun r w'=>r=.returned (.tuple #[.agg #[.bool false,.int .u64 0,.int .u64 0,.int .i64 0],.bool false])/\Below w.heap.size w w':=by
 unfold wv at *;go_enter Tryz.func105,Tryz.ntmps105;go_wp2_with fail;refine(hza _).mono ?_;rintro _ w1 ⟨rfl,h1⟩;obtain⟨hA,hC,hZ,hB⟩:=zw w w1 _ _ _ _ _ _ h1;obtain⟨a0,a1,a2,a3⟩:=hA.four;obtain⟨b0,b1,b2,b3⟩:=hC.four;obtain⟨d0,d1,d2,d3⟩:=hZ.four;have z1:=hA.frozen;have z2:=hC.frozen;have z3:=hZ.frozen;clear h1 hza;go_wp2_with fail;refine(hzb _).mono ?_;rintro _ w2 ⟨rfl,h2⟩;clear a0 a1 a2 a3 b0 b1 b2 b3 d0 d1 d2 d3 z1 z2 z3;have hA:=hA.below h2 hA.lt;have hC:=hC.below h2 hC.lt;have hZ:=hZ.below h2 hZ.lt;have hB:=hB.trans (h2.mono hB.size);obtain⟨a0,a1,a2,a3⟩:=hA.four;obtain⟨b0,b1,b2,b3⟩:=hC.four;obtain⟨d0,d1,d2,d3⟩:=hZ.four;have z1:=hA.frozen;have z2:=hC.frozen;have z3:=hZ.frozen;clear h2 hzb;go_wp2_with fail;refine(hla _).mono ?_;rintro _ w3a ⟨rfl,h3⟩;clear a0 a1 a2 a3 b0 b1 b2 b3 d0 d1 d2 d3 z1 z2 z3;have hA:=hA.below h3 hA.lt;have hC:=hC.below h3 hC.lt;have hZ:=hZ.below h3 hZ.lt;have hB:=hB.trans (h3.mono hB.size);obtain⟨a0,a1,a2,a3⟩:=hA.four;obtain⟨b0,b1,b2,b3⟩:=hC.four;obtain⟨d0,d1,d2,d3⟩:=hZ.four;have z1:=hA.frozen;have z2:=hC.frozen;have z3:=hZ.frozen;clear h3 hla;have hA:=hA.set4 (.bool sn) (.int .u64 (sh:Int)) (.int .u64 (sl:Int)) (.int .i64 se);have hC:=hC.off4 (B':=w.heap.size) (by omega) (.bool sn) (.int .u64 (sh:Int)) (.int .u64 (sl:Int)) (.int .i64 se);have hZ:=hZ.off4 (B':=w.heap.size) (by omega) (.bool sn) (.int .u64 (sh:Int)) (.int .u64 (sl:Int)) (.int .i64 se);have hB:=zx hB (B':=w.heap.size) (by omega) (.bool sn) (.int .u64 (sh:Int)) (.int .u64 (sl:Int)) (.int .i64 se);go_wp2_with fail;refine(hlb _).mono ?_;rintro _ w3b ⟨rfl,h3⟩;clear a0 a1 a2 a3 b0 b1 b2 b3 d0 d1 d2 d3 z1 z2 z3;have hA:=hA.below h3 hA.lt;have hC:=hC.below h3 hC.lt;have hZ:=hZ.below h3 hZ.lt;have hB:=hB.trans (h3.mono hB.size);obtain⟨a0,a1,a2,a3⟩:=hA.four;obtain⟨b0,b1,b2,b3⟩:=hC.four;obtain⟨d0,d1,d2,d3⟩:=hZ.four;have z1:=hA.frozen;have z2:=hC.frozen;have z3:=hZ.frozen;clear h3 hlb;have hC:=hC.set4 (.bool false) (.int .u64 0) (.int .u64 0) (.int .i64 0);have hA:=hA.off4 (B':=w.heap.size+1) (by omega) (.bool false) (.int .u64 0) (.int .u64 0) (.int .i64 0);have hZ:=hZ.off4 (B':=w.heap.size+1) (by omega) (.bool false) (.int .u64 0) (.int .u64 0) (.int .i64 0);have hB:=zx hB (B':=w.heap.size+1) (by omega) (.bool false) (.int .u64 0) (.int .u64 0) (.int .i64 0);go_wp2;refine bodyPost_ret (zd rfl (g:=w.heap.size+2) rfl rfl (zW (Row.set4 hZ _ _ _ _) rfl)) rfl ⟨?_,?_⟩
 ·rfl
 ·exact zx hB (by omega) _ _ _ _
theorem sum_tf (an bn:Bool) (ah al bh bl:Nat) (ae be:Int) (dn:Bool) (sh sl th tl dh dl:Nat) (se te de:Int) (hza:∀w,Calls Tryz.prog 114 #[wv an ah al ae] w fun r w'=>r=.returned (.bool false)/\Below w.heap.size w w') (hzb:∀w,Calls Tryz.prog 114 #[wv bn bh bl be] w fun r w'=>r=.returned (.bool false)/\Below w.heap.size w w') (hla:∀w,Calls Tryz.prog 145 #[wv an ah al ae,.int .i64 be] w fun r w'=>r=.returned (.tuple #[wv true sh sl se,.bool true])/\Below w.heap.size w w') (hlb:∀w,Calls Tryz.prog 145 #[wv bn bh bl be,.int .i64 se] w fun r w'=>r=.returned (.tuple #[wv false th tl te,.bool true])/\Below w.heap.size w w') (hd:∀w,Calls Tryz.prog 146 #[wv true sh sl se,wv false th tl te] w fun r w'=>r=.returned (wv dn dh dl de)/\Below w.heap.size w w') (w:World):Calls Tryz.prog 105 #[wv an ah al ae,wv bn bh bl be] w fun r w'=>r=.returned (.tuple #[wv dn dh dl de,.bool true])/\Below w.heap.size w w':=by
 unfold wv at *;go_enter Tryz.func105,Tryz.ntmps105;go_wp2_with fail;refine(hza _).mono ?_;rintro _ w1 ⟨rfl,h1⟩;obtain⟨hA,hC,hZ,hB⟩:=zw w w1 _ _ _ _ _ _ h1;obtain⟨a0,a1,a2,a3⟩:=hA.four;obtain⟨b0,b1,b2,b3⟩:=hC.four;obtain⟨d0,d1,d2,d3⟩:=hZ.four;have z1:=hA.frozen;have z2:=hC.frozen;have z3:=hZ.frozen;clear h1 hza;go_wp2_with fail;refine(hzb _).mono ?_;rintro _ w2 ⟨rfl,h2⟩;clear a0 a1 a2 a3 b0 b1 b2 b3 d0 d1 d2 d3 z1 z2 z3;have hA:=hA.below h2 hA.lt;have hC:=hC.below h2 hC.lt;have hZ:=hZ.below h2 hZ.lt;have hB:=hB.trans (h2.mono hB.size);obtain⟨a0,a1,a2,a3⟩:=hA.four;obtain⟨b0,b1,b2,b3⟩:=hC.four;obtain⟨d0,d1,d2,d3⟩:=hZ.four;have z1:=hA.frozen;have z2:=hC.frozen;have z3:=hZ.frozen;clear h2 hzb;go_wp2_with fail;refine(hla _).mono ?_;rintro _ w3a ⟨rfl,h3⟩;clear a0 a1 a2 a3 b0 b1 b2 b3 d0 d1 d2 d3 z1 z2 z3;have hA:=hA.below h3 hA.lt;have hC:=hC.below h3 hC.lt;have hZ:=hZ.below h3 hZ.lt;have hB:=hB.trans (h3.mono hB.size);obtain⟨a0,a1,a2,a3⟩:=hA.four;obtain⟨b0,b1,b2,b3⟩:=hC.four;obtain⟨d0,d1,d2,d3⟩:=hZ.four;have z1:=hA.frozen;have z2:=hC.frozen;have z3:=hZ.frozen;clear h3 hla;have hA:=hA.set4 (.bool true) (.int .u64 (sh:Int)) (.int .u64 (sl:Int)) (.int .i64 se);have hC:=hC.off4 (B':=w.heap.size) (by omega) (.bool true) (.int .u64 (sh:Int)) (.int .u64 (sl:Int)) (.int .i64 se);have hZ:=hZ.off4 (B':=w.heap.size) (by omega) (.bool true) (.int .u64 (sh:Int)) (.int .u64 (sl:Int)) (.int .i64 se);have hB:=zx hB (B':=w.heap.size) (by omega) (.bool true) (.int .u64 (sh:Int)) (.int .u64 (sl:Int)) (.int .i64 se);go_wp2_with fail;refine(hlb _).mono ?_;rintro _ w3b ⟨rfl,h3⟩;clear a0 a1 a2 a3 b0 b1 b2 b3 d0 d1 d2 d3 z1 z2 z3;have hA:=hA.below h3 hA.lt;have hC:=hC.below h3 hC.lt;have hZ:=hZ.below h3 hZ.lt;have hB:=hB.trans (h3.mono hB.size);obtain⟨a0,a1,a2,a3⟩:=hA.four;obtain⟨b0,b1,b2,b3⟩:=hC.four;obtain⟨d0,d1,d2,d3⟩:=hZ.four;have z1:=hA.frozen;have z2:=hC.frozen;have z3:=hZ.frozen;clear h3 hlb;have hC:=hC.set4 (.bool false) (.int .u64 (th:Int)) (.int .u64 (tl:Int)) (.int .i64 te);have hA:=hA.off4 (B':=w.heap.size+1) (by omega) (.bool false) (.int .u64 (th:Int)) (.int .u64 (tl:Int)) (.int .i64 te);have hZ:=hZ.off4 (B':=w.heap.size+1) (by omega) (.bool false) (.int .u64 (th:Int)) (.int .u64 (tl:Int)) (.int .i64 te);have hB:=zx hB (B':=w.heap.size+1) (by omega) (.bool false) (.int .u64 (th:Int)) (.int .u64 (tl:Int)) (.int .i64 te);go_wp2_with fail;refine(hd _).mono ?_;rintro _ w5 ⟨rfl,h5⟩;have hZ:=hZ.below h5 hZ.lt;have hB:=hB.trans (h5.mono hB.size);clear a0 a1 a2 a3 b0 b1 b2 b3 d0 d1 d2 d3 z1 z2 z3 h5 hd;obtain⟨d0,d1,d2,d3⟩:=hZ.four;have z3:=hZ.frozen;go_wp2;refine bodyPost_ret (zd rfl (g:=w.heap.size+2) rfl rfl (zW (Row.set4 hZ _ _ _ _) rfl)) rfl ⟨?_,?_⟩
 ·rfl
 ·exact zx hB (by omega) _ _ _ _
theorem sum_ft (an bn:Bool) (ah al bh bl:Nat) (ae be:Int) (dn:Bool) (sh sl th tl dh dl:Nat) (se te de:Int) (hza:∀w,Calls Tryz.prog 114 #[wv an ah al ae] w fun r w'=>r=.returned (.bool false)/\Below w.heap.size w w') (hzb:∀w,Calls Tryz.prog 114 #[wv bn bh bl be] w fun r w'=>r=.returned (.bool false)/\Below w.heap.size w w') (hla:∀w,Calls Tryz.prog 145 #[wv an ah al ae,.int .i64 be] w fun r w'=>r=.returned (.tuple #[wv false sh sl se,.bool true])/\Below w.heap.size w w') (hlb:∀w,Calls Tryz.prog 145 #[wv bn bh bl be,.int .i64 se] w fun r w'=>r=.returned (.tuple #[wv true th tl te,.bool true])/\Below w.heap.size w w') (hd:∀w,Calls Tryz.prog 146 #[wv false sh sl se,wv true th tl te] w fun r w'=>r=.returned (wv dn dh dl de)/\Below w.heap.size w w') (w:World):Calls Tryz.prog 105 #[wv an ah al ae,wv bn bh bl be] w fun r w'=>r=.returned (.tuple #[wv dn dh dl de,.bool true])/\Below w.heap.size w w':=by
 unfold wv at *;go_enter Tryz.func105,Tryz.ntmps105;go_wp2_with fail;refine(hza _).mono ?_;rintro _ w1 ⟨rfl,h1⟩;obtain⟨hA,hC,hZ,hB⟩:=zw w w1 _ _ _ _ _ _ h1;obtain⟨a0,a1,a2,a3⟩:=hA.four;obtain⟨b0,b1,b2,b3⟩:=hC.four;obtain⟨d0,d1,d2,d3⟩:=hZ.four;have z1:=hA.frozen;have z2:=hC.frozen;have z3:=hZ.frozen;clear h1 hza;go_wp2_with fail;refine(hzb _).mono ?_;rintro _ w2 ⟨rfl,h2⟩;clear a0 a1 a2 a3 b0 b1 b2 b3 d0 d1 d2 d3 z1 z2 z3;have hA:=hA.below h2 hA.lt;have hC:=hC.below h2 hC.lt;have hZ:=hZ.below h2 hZ.lt;have hB:=hB.trans (h2.mono hB.size);obtain⟨a0,a1,a2,a3⟩:=hA.four;obtain⟨b0,b1,b2,b3⟩:=hC.four;obtain⟨d0,d1,d2,d3⟩:=hZ.four;have z1:=hA.frozen;have z2:=hC.frozen;have z3:=hZ.frozen;clear h2 hzb;go_wp2_with fail;refine(hla _).mono ?_;rintro _ w3a ⟨rfl,h3⟩;clear a0 a1 a2 a3 b0 b1 b2 b3 d0 d1 d2 d3 z1 z2 z3;have hA:=hA.below h3 hA.lt;have hC:=hC.below h3 hC.lt;have hZ:=hZ.below h3 hZ.lt;have hB:=hB.trans (h3.mono hB.size);obtain⟨a0,a1,a2,a3⟩:=hA.four;obtain⟨b0,b1,b2,b3⟩:=hC.four;obtain⟨d0,d1,d2,d3⟩:=hZ.four;have z1:=hA.frozen;have z2:=hC.frozen;have z3:=hZ.frozen;clear h3 hla;have hA:=hA.set4 (.bool false) (.int .u64 (sh:Int)) (.int .u64 (sl:Int)) (.int .i64 se);have hC:=hC.off4 (B':=w.heap.size) (by omega) (.bool false) (.int .u64 (sh:Int)) (.int .u64 (sl:Int)) (.int .i64 se);have hZ:=hZ.off4 (B':=w.heap.size) (by omega) (.bool false) (.int .u64 (sh:Int)) (.int .u64 (sl:Int)) (.int .i64 se);have hB:=zx hB (B':=w.heap.size) (by omega) (.bool false) (.int .u64 (sh:Int)) (.int .u64 (sl:Int)) (.int .i64 se);go_wp2_with fail;refine(hlb _).mono ?_;rintro _ w3b ⟨rfl,h3⟩;clear a0 a1 a2 a3 b0 b1 b2 b3 d0 d1 d2 d3 z1 z2 z3;have hA:=hA.below h3 hA.lt;have hC:=hC.below h3 hC.lt;have hZ:=hZ.below h3 hZ.lt;have hB:=hB.trans (h3.mono hB.size);obtain⟨a0,a1,a2,a3⟩:=hA.four;obtain⟨b0,b1,b2,b3⟩:=hC.four;obtain⟨d0,d1,d2,d3⟩:=hZ.four;have z1:=hA.frozen;have z2:=hC.frozen;have z3:=hZ.frozen;clear h3 hlb;have hC:=hC.set4 (.bool true) (.int .u64 (th:Int)) (.int .u64 (tl:Int)) (.int .i64 te);have hA:=hA.off4 (B':=w.heap.size+1) (by omega) (.bool true) (.int .u64 (th:Int)) (.int .u64 (tl:Int)) (.int .i64 te);have hZ:=hZ.off4 (B':=w.heap.size+1) (by omega) (.bool true) (.int .u64 (th:Int)) (.int .u64 (tl:Int)) (.int .i64 te);have hB:=zx hB (B':=w.heap.size+1) (by omega) (.bool true) (.int .u64 (th:Int)) (.int .u64 (tl:Int)) (.int .i64 te);go_wp2_with fail;refine(hd _).mono ?_;rintro _ w5 ⟨rfl,h5⟩;have hZ:=hZ.below h5 hZ.lt;have hB:=hB.trans (h5.mono hB.size);clear a0 a1 a2 a3 b0 b1 b2 b3 d0 d1 d2 d3 z1 z2 z3 h5 hd;obtain⟨d0,d1,d2,d3⟩:=hZ.four;have z3:=hZ.frozen;go_wp2;refine bodyPost_ret (zd rfl (g:=w.heap.size+2) rfl rfl (zW (Row.set4 hZ _ _ _ _) rfl)) rfl ⟨?_,?_⟩
 ·rfl
 ·exact zx hB (by omega) _ _ _ _
theorem sum_ad (an bn:Bool) (ah al bh bl:Nat) (ae be:Int) (sn:Bool) (sh sl th tl H L cy ov:Nat) (se te:Int) (hza:∀w,Calls Tryz.prog 114 #[wv an ah al ae] w fun r w'=>r=.returned (.bool false)/\Below w.heap.size w w') (hzb:∀w,Calls Tryz.prog 114 #[wv bn bh bl be] w fun r w'=>r=.returned (.bool false)/\Below w.heap.size w w') (hla:∀w,Calls Tryz.prog 145 #[wv an ah al ae,.int .i64 be] w fun r w'=>r=.returned (.tuple #[wv sn sh sl se,.bool true])/\Below w.heap.size w w') (hlb:∀w,Calls Tryz.prog 145 #[wv bn bh bl be,.int .i64 se] w fun r w'=>r=.returned (.tuple #[wv sn th tl te,.bool true])/\Below w.heap.size w w') (s1:∀w,(callFunc 147 #[.int .u64 (sl:Int),.int .u64 (tl:Int),.int .u64 0]).run Tryz.prog w=.ok (.value (.tuple #[.int .u64 (L:Int),.int .u64 (cy:Int)])) w) (s2:∀w,(callFunc 147 #[.int .u64 (sh:Int),.int .u64 (th:Int),.int .u64 (cy:Int)]).run Tryz.prog w=.ok (.value (.tuple #[.int .u64 (H:Int),.int .u64 (ov:Int)])) w) (w:World):Calls Tryz.prog 105 #[wv an ah al ae,wv bn bh bl be] w fun r w'=>r=.returned (.tuple #[wv sn H L se,.bool ((ov:Int)==0)])/\Below w.heap.size w w':=by
 unfold wv at *;go_enter Tryz.func105,Tryz.ntmps105;go_wp2_with fail;refine(hza _).mono ?_;rintro _ w1 ⟨rfl,h1⟩;obtain⟨hA,hC,hZ,hB⟩:=zw w w1 _ _ _ _ _ _ h1;obtain⟨a0,a1,a2,a3⟩:=hA.four;obtain⟨b0,b1,b2,b3⟩:=hC.four;obtain⟨d0,d1,d2,d3⟩:=hZ.four;have z1:=hA.frozen;have z2:=hC.frozen;have z3:=hZ.frozen;clear h1 hza;go_wp2_with fail;refine(hzb _).mono ?_;rintro _ w2 ⟨rfl,h2⟩;clear a0 a1 a2 a3 b0 b1 b2 b3 d0 d1 d2 d3 z1 z2 z3;have hA:=hA.below h2 hA.lt;have hC:=hC.below h2 hC.lt;have hZ:=hZ.below h2 hZ.lt;have hB:=hB.trans (h2.mono hB.size);obtain⟨a0,a1,a2,a3⟩:=hA.four;obtain⟨b0,b1,b2,b3⟩:=hC.four;obtain⟨d0,d1,d2,d3⟩:=hZ.four;have z1:=hA.frozen;have z2:=hC.frozen;have z3:=hZ.frozen;clear h2 hzb;go_wp2_with fail;refine(hla _).mono ?_;rintro _ w3a ⟨rfl,h3⟩;clear a0 a1 a2 a3 b0 b1 b2 b3 d0 d1 d2 d3 z1 z2 z3;have hA:=hA.below h3 hA.lt;have hC:=hC.below h3 hC.lt;have hZ:=hZ.below h3 hZ.lt;have hB:=hB.trans (h3.mono hB.size);obtain⟨a0,a1,a2,a3⟩:=hA.four;obtain⟨b0,b1,b2,b3⟩:=hC.four;obtain⟨d0,d1,d2,d3⟩:=hZ.four;have z1:=hA.frozen;have z2:=hC.frozen;have z3:=hZ.frozen;clear h3 hla;have hA:=hA.set4 (.bool sn) (.int .u64 (sh:Int)) (.int .u64 (sl:Int)) (.int .i64 se);have hC:=hC.off4 (B':=w.heap.size) (by omega) (.bool sn) (.int .u64 (sh:Int)) (.int .u64 (sl:Int)) (.int .i64 se);have hZ:=hZ.off4 (B':=w.heap.size) (by omega) (.bool sn) (.int .u64 (sh:Int)) (.int .u64 (sl:Int)) (.int .i64 se);have hB:=zx hB (B':=w.heap.size) (by omega) (.bool sn) (.int .u64 (sh:Int)) (.int .u64 (sl:Int)) (.int .i64 se);go_wp2_with fail;refine(hlb _).mono ?_;rintro _ w3b ⟨rfl,h3⟩;clear a0 a1 a2 a3 b0 b1 b2 b3 d0 d1 d2 d3 z1 z2 z3;have hA:=hA.below h3 hA.lt;have hC:=hC.below h3 hC.lt;have hZ:=hZ.below h3 hZ.lt;have hB:=hB.trans (h3.mono hB.size);obtain⟨a0,a1,a2,a3⟩:=hA.four;obtain⟨b0,b1,b2,b3⟩:=hC.four;obtain⟨d0,d1,d2,d3⟩:=hZ.four;have z1:=hA.frozen;have z2:=hC.frozen;have z3:=hZ.frozen;clear h3 hlb;have hC:=hC.set4 (.bool sn) (.int .u64 (th:Int)) (.int .u64 (tl:Int)) (.int .i64 te);have hA:=hA.off4 (B':=w.heap.size+1) (by omega) (.bool sn) (.int .u64 (th:Int)) (.int .u64 (tl:Int)) (.int .i64 te);have hZ:=hZ.off4 (B':=w.heap.size+1) (by omega) (.bool sn) (.int .u64 (th:Int)) (.int .u64 (tl:Int)) (.int .i64 te);have hB:=zx hB (B':=w.heap.size+1) (by omega) (.bool sn) (.int .u64 (th:Int)) (.int .u64 (tl:Int)) (.int .i64 te);go_wp2;refine bodyPost_ret (zd rfl (g:=w.heap.size+2) rfl rfl (zW (Row.set4 hZ _ _ _ _) rfl)) rfl ⟨?_,?_⟩
 ·rfl
 ·exact zx hB (by omega) _ _ _ _
theorem jo {x:Wd} (h:x.n<zt) (he:EOk x):jG (some x) (.returned (.tuple #[x.val,.bool true])):=⟨x,true,rfl,h,he.1,he.2,rfl⟩
theorem ZI:jG none (.returned (.tuple #[.agg #[.bool false,.int .u64 0,.int .u64 0,.int .i64 0],.bool false])):=⟨⟨false,0,0⟩,false,rfl,by decide,by decide,by decide,rfl⟩
theorem Zt (x:Wd) (t:Int) (h:x.n<zt) (he:EOk x) (ht : -9223372036854775808<=t):(yd x t=none/\∀w,Calls Tryz.prog 145 #[x.val,.int .i64 t] w fun r w'=>r=.returned (.tuple #[.agg #[.bool false,.int .u64 0,.int .u64 0,.int .i64 0],.bool false])/\Below w.heap.size w w')\/∃y,yd x t=some y/\∀w,Calls Tryz.prog 145 #[x.val,.int .i64 t] w fun r w'=>r=.returned (.tuple #[y.val,.bool true])/\Below w.heap.size w w':=by
 have:=ki x t h he.2 he.1 ht;cases hl:yd x t with
 | none=>rw[hl] at this;exact Or.inl ⟨rfl,this⟩
 | some y=>rw[hl] at this;exact Or.inr ⟨y,rfl,this⟩
theorem X2 (a b:Wd) (ha:a.n<zt) (hb:b.n<zt) (ea:EOk a) (eb:EOk b) (w:World):Calls Tryz.prog 105 #[a.val,b.val] w fun r w'=>jG (qj a b) r/\Below w.heap.size w w':=by
 have hza:=Yj a;have hzb:=Yj b;unfold qj;by_cases ha0:a.n=0
 ·rw[decide_eq_true ha0] at hza;rw[if_pos ha0];refine(sum_a0 a.neg b.neg _ _ _ _ a.e b.e hza w).mono ?_;rintro r w' ⟨rfl,hB⟩;exact⟨jo hb eb,hB⟩
 ·rw[decide_eq_false ha0] at hza;rw[if_neg ha0];by_cases hb0:b.n=0
  ·rw[decide_eq_true hb0] at hzb;rw[if_pos hb0];refine(sum_b0 a.neg b.neg _ _ _ _ a.e b.e hza hzb w).mono ?_;rintro r w' ⟨rfl,hB⟩;exact⟨jo ha ea,hB⟩
  ·rw[decide_eq_false hb0] at hzb;rw[if_neg hb0];rcases Zt a b.e ha ea eb.1 with ⟨hl,hla⟩|⟨a',hl,hla⟩
   ·rw[hl];simp only;rcases Zt b 0 hb eb (by omega) with ⟨_,hlb⟩|⟨y,_,hlb⟩
    ·refine(sum_f1 a.neg b.neg _ _ _ _ a.e b.e false false 0 0 0 hza hzb hla hlb w).mono ?_;rintro r w' ⟨rfl,hB⟩;exact⟨ZI,hB⟩
    ·refine(sum_f1 a.neg b.neg _ _ _ _ a.e b.e y.neg true _ _ y.e hza hzb hla hlb w).mono ?_;rintro r w' ⟨rfl,hB⟩;exact⟨ZI,hB⟩
   ·rw[hl];simp only;obtain⟨p1,p2,p3,p4,p5⟩:=ZU hl ha;have ea':EOk a':=by unfold EOk at *;omega
    rcases Zt b a'.e hb eb ea'.1 with ⟨hl2,hlb⟩|⟨b',hl2,hlb⟩
    ·rw[hl2];simp only;refine(sum_f2 a.neg b.neg _ _ _ _ a.e b.e a'.neg _ _ a'.e hza hzb hla hlb w).mono ?_;rintro r w' ⟨rfl,hB⟩;exact⟨ZI,hB⟩
    ·rw[hl2];simp only;obtain⟨q1,q2,q3,q4,q5⟩:=ZU hl2 hb;have eb':EOk b':=by unfold EOk at *;omega
     unfold ZH;by_cases hs:a'.neg=b'.neg
     ·rw[if_pos hs];have t1:=XQ (a'.n % 18446744073709551616) (b'.n % 18446744073709551616) 0 (by omega);have t2:=XQ (a'.n / 18446744073709551616) (b'.n / 18446744073709551616) ((a'.n % 18446744073709551616+b'.n % 18446744073709551616+0) / 18446744073709551616) (by omega);unfold zt at p1 q1;have hlb':∀w,Calls Tryz.prog 145 #[b.val,.int .i64 a'.e] w fun r w'=>r=.returned (.tuple #[wv a'.neg (b'.n / 18446744073709551616) (b'.n % 18446744073709551616) b'.e,.bool true])/\Below w.heap.size w w':=by rw[hs];exact hlb
      refine(sum_ad a.neg b.neg _ _ _ _ a.e b.e a'.neg _ _ _ _ _ _ _ _ a'.e b'.e hza hzb hla hlb' t1 t2 w).mono ?_;rintro r w' ⟨rfl,hB⟩;refine⟨?_,hB⟩;have e1:(a'.n % 18446744073709551616+b'.n % 18446744073709551616+0) % 18446744073709551616=((a'.n+b'.n) % 340282366920938463463374607431768211456) % 18446744073709551616:=by omega
      have e2:(a'.n / 18446744073709551616+b'.n / 18446744073709551616+(a'.n % 18446744073709551616+b'.n % 18446744073709551616+0) / 18446744073709551616) % 18446744073709551616=((a'.n+b'.n) % 340282366920938463463374607431768211456) / 18446744073709551616:=by omega
      rw[e1,e2];refine⟨⟨a'.neg,(a'.n+b'.n) % 340282366920938463463374607431768211456,a'.e⟩,decide (a'.n+b'.n<zt),?_,?_,ea'.1,ea'.2,?_⟩
      ·congr 4;unfold zt;by_cases hc:a'.n+b'.n<340282366920938463463374607431768211456
       ·rw[show (a'.n / 18446744073709551616+b'.n / 18446744073709551616+(a'.n % 18446744073709551616+b'.n % 18446744073709551616+0) / 18446744073709551616) / 18446744073709551616=0 by omega];simp[hc]
       ·rw[show (a'.n / 18446744073709551616+b'.n / 18446744073709551616+(a'.n % 18446744073709551616+b'.n % 18446744073709551616+0) / 18446744073709551616) / 18446744073709551616=1 by omega];simp[hc]
      ·show (a'.n+b'.n) % 340282366920938463463374607431768211456<zt;unfold zt;omega
      ·by_cases hc:a'.n+b'.n<zt
       ·rw[if_pos hc,decide_eq_true hc];simp only[if_true];unfold zt at hc;rw[Nat.mod_eq_of_lt hc]
       ·rw[if_neg hc,decide_eq_false hc];simp
     ·rw[if_neg hs];have hd:=diff_any a' b' p1 q1;have hdn:(kV a' b').n<zt/\EOk (kV a' b'):=by unfold kV EOk at *;split<;>(simp only;omega)
      cases hna:a'.neg<;>cases hnb:b'.neg
      ·exact absurd (hna.trans hnb.symm) hs
      ·unfold Wd.val at hla hlb hd;rw[hna] at hla hd;rw[hnb] at hlb hd;refine(sum_ft a.neg b.neg _ _ _ _ a.e b.e _ _ _ _ _ _ _ a'.e b'.e _ hza hzb hla hlb hd w).mono ?_;rintro r w' ⟨rfl,hB⟩;exact⟨jo hdn.1 hdn.2,hB⟩
      ·unfold Wd.val at hla hlb hd;rw[hna] at hla hd;rw[hnb] at hlb hd;refine(sum_tf a.neg b.neg _ _ _ _ a.e b.e _ _ _ _ _ _ _ a'.e b'.e _ hza hzb hla hlb hd w).mono ?_;rintro r w' ⟨rfl,hB⟩;exact⟨jo hdn.1 hdn.2,hB⟩
      ·exact absurd (hna.trans hnb.symm) hs
theorem product_raw (an bn:Bool) (ah al bh bl H L:Nat) (ae be ee:Int) (m:∀w,Calls Tryz.prog 150 #[.int .u64 (al:Int),.int .u64 (bl:Int)] w fun e w'=>e=.returned (.tuple #[.int .u64 (H:Int),.int .u64 (L:Int)])/\w'=w) (he:wrap64 (ae+be)=ee) (w:World):Calls Tryz.prog 110 #[wv an ah al ae,wv bn bh bl be] w fun r w'=>r=.returned (.tuple #[wv (an != bn) H L ee,.bool true])/\Below w.heap.size w w':=by
 unfold wv;have HE:Hid (wrap64 (ae+be)=ee):=he;clear he;go_enter Tryz.func110,Tryz.ntmps110;go_wp2_with fail;refine(m _).mono ?_;rintro _ w1 ⟨rfl,hw1⟩;rw[hw1];clear hw1 w1;go_wp2;try rw[HE.out]
 refine bodyPost_ret (zd rfl (g:=w.heap.size+2) rfl rfl (zW (zw w _ _ _ _ 85 85 85 (Below.refl _ _)).2.2.1 rfl)) rfl ⟨rfl,?_⟩;exact(((Below.refl _ w).alloc (Nat.le_refl _) _).alloc (by simp) _).alloc (by simp;omega) _
theorem product_any (a b:Wd) (ha:a.n<18446744073709551616) (hb:b.n<18446744073709551616) (ea : -1000<=a.e/\a.e<=1000) (eb : -1000<=b.e/\b.e<=1000) (w:World):Calls Tryz.prog 110 #[a.val,b.val] w fun r w'=>jG (some (jt a b)) r/\Below w.heap.size w w':=by
 have m:=Tryz.bits_Mul64 (a.n % 18446744073709551616) (b.n % 18446744073709551616) (by omega) (by omega);rw[show a.n % 18446744073709551616=a.n by omega,show b.n % 18446744073709551616=b.n by omega] at m;have hM:a.n*b.n<zt:=by unfold zt;have:=Nat.mul_lt_mul'' ha hb;omega
 have:=product_raw a.neg b.neg (a.n / 18446744073709551616) a.n (b.n / 18446744073709551616) b.n _ _ a.e b.e (a.e+b.e) m (by unfold wrap64;omega) w;unfold Wd.val;rw[show a.n % 18446744073709551616=a.n by omega,show b.n % 18446744073709551616=b.n by omega];refine this.mono ?_;rintro r w' ⟨rfl,hB⟩;exact⟨jo (x:=jt a b) hM ⟨by unfold jt;simp only;omega,by unfold jt;simp only;omega⟩,hB⟩
theorem turned_W (x:Wd) (w:World):Calls Tryz.prog 126 #[x.val] w fun r w'=>r=.returned (qw x).val∧Below w.heap.size w w':=turned_any x.neg _ _ x.e w
theorem qM (x:Wd):∃a b c d,x.val=.agg #[.bool a,.int .u64 b,.int .u64 c,.int .i64 d]:=⟨_,_,_,_,rfl⟩
theorem less_any (a b:Wd) (ha:a.n<zt) (hb:b.n<zt) (ea:EOk a) (eb:EOk b) (w:World):Calls Tryz.prog 109 #[a.val,b.val] w fun r w'=>jG (qj a (qw b)) r/\Below w.heap.size w w':=by
 have k1:=turned_W b;have k2:=X2 a (qw b) ha hb ea eb;generalize qj a (qw b)=o at *;obtain⟨a0,a1,a2,a3,hav⟩:=qM a;obtain⟨b0,b1,b2,b3,hbv⟩:=qM b;obtain⟨c0,c1,c2,c3,hcv⟩:=qM (qw b);rw[hav,hcv] at k2;rw[hbv,hcv] at k1;rw[hav,hbv];clear hav hbv hcv ha hb ea eb;go_enter Tryz.func109,Tryz.ntmps109;go_wp2_with fail;obtain⟨hA,hC,hZ,hB⟩:=zw w _ _ _ _ 85 85 85 (Below.refl _ (((w.alloc (.cells #[.bool a0,.int .u64 a1,.int .u64 a2,.int .i64 a3] 85)).alloc (.cells #[.bool b0,.int .u64 b1,.int .u64 b2,.int .i64 b3] 85)).alloc (.cells #[.bool false,.int .u64 0,.int .u64 0,.int .i64 0] 85)));generalize (((w.alloc (.cells #[.bool a0,.int .u64 a1,.int .u64 a2,.int .i64 a3] 85)).alloc (.cells #[.bool b0,.int .u64 b1,.int .u64 b2,.int .i64 b3] 85)).alloc (.cells #[.bool false,.int .u64 0,.int .u64 0,.int .i64 0] 85))=W at *;have hS0:Below W.heap.size W W.drew:=(Below.refl _ W).drew;refine Ib W 4 8 ?_;refine Oh 0 hS0 ?_ (v:=.agg #[.bool a0,.int .u64 a1,.int .u64 a2,.int .i64 a3]) (y:=by intro wx hx;obtain⟨g0,g1,g2,g3⟩:=(hA.below hx hA.lt).four;go_simp<;>rfl);refine Oh 1 hS0 ?_ (v:=.agg #[.bool b0,.int .u64 b1,.int .u64 b2,.int .i64 b3]) (y:=by intro wx hx;obtain⟨g0,g1,g2,g3⟩:=(hC.below hx hC.lt).four;go_simp<;>rfl);refine Oo 2 ?_;go_wp2_with fail;refine(k1 _).mono ?_;rintro _ w1 ⟨rfl,h1⟩;have hS1:=hS0.trans h1;clear h1 k1;go_wp2_with fail;refine⟨fun _=>hS1,?_⟩;refine Oo 3 ?_;go_wp2_with fail;refine(k2 _).mono ?_;rintro _ w2 ⟨⟨x,t,rfl,x1,x2,x3,x4⟩,h2⟩;have hS2:=hS1.trans (h2.mono hS1.size);obtain⟨d0,d1,d2,d3,hxv⟩:=qM x;have HR:Hid (jG o (.returned (.tuple #[.agg #[.bool d0,.int .u64 d1,.int .u64 d2,.int .i64 d3],.bool t]))):=⟨x,t,by rw[hxv],x1,x2,x3,x4⟩;rw[hxv];have hZ2:=hZ.below hS2 hZ.lt;have hB2:=hB.trans (hS2.mono hB.size);clear h2 k2 x1 x2 x3 x4 hxv;go_wp2_with fail;refine⟨fun _=>hS2,?_⟩;refine qt 4 (v := ?_) rfl (by kernel_rfl) (by kernel_rfl) rfl (fun _ _ _ h=>h) rfl (by intro wx;go_simp<;>rfl) ?_;refine qt 5 (v := ?_) rfl (by kernel_rfl) (by kernel_rfl) rfl (fun _ _ _ h=>h) rfl (by intro wx;go_simp<;>rfl) ?_;obtain⟨g0,g1,g2,g3⟩:=hZ2.four;have z:=hZ2.frozen;refine Oo 6 ?_;go_wp2_with fail;refine⟨(fun h=>by simp at h),?_⟩;refine Oo 7 ?_;go_wp2_with fail;refine⟨(fun h=>by simp at h),?_⟩;refine Od ?_;go_wp2;refine bodyPost_ret (v:=.tuple #[.agg #[.bool d0,.int .u64 d1,.int .u64 d2,.int .i64 d3],.bool t]) (zd rfl (g:=w.heap.size+2) rfl rfl (zW (Row.set4 hZ2 _ _ _ _) rfl)) rfl ⟨HR.out,?_⟩;exact zx hB2 (by omega) _ _ _ _
set_option maxHeartbeats 800000
theorem zP (w w1:World) (o1 o2 o3 o4:Array Value) (t1 t2 t3 t4:TypeId) (h:Below (((((w.alloc (.cells o1 t1)).alloc (.cells o2 t2)).alloc (.cells o3 t3)).alloc (.cells o4 t4)).heap.size) ((((w.alloc (.cells o1 t1)).alloc (.cells o2 t2)).alloc (.cells o3 t3)).alloc (.cells o4 t4)) w1):Row w1 w.heap.size t1 o1/\Row w1 (w.heap.size+1) t2 o2/\Row w1 (w.heap.size+2) t3 o3/\Row w1 (w.heap.size+3) t4 o4/\Below w.heap.size w w1:=by
 have r4:Row ((((w.alloc (.cells o1 t1)).alloc (.cells o2 t2)).alloc (.cells o3 t3)).alloc (.cells o4 t4)) (w.heap.size+3) t4 o4:=by have:=Row.new (((w.alloc (.cells o1 t1)).alloc (.cells o2 t2)).alloc (.cells o3 t3)) t4 o4;simpa using this
 obtain⟨r1,r2,r3,hB⟩:=zw w w1 o1 o2 o3 t1 t2 t3 (((Below.refl _ _).alloc (Nat.le_refl _) (.cells o4 t4)).trans (h.mono (by simp)));exact⟨r1,r2,r3,r4.below h r4.lt,hB⟩
theorem Row.eight {W:World} {B:Nat} {t:TypeId} {a b c d e f g h:Value} (hr:Row W B t #[a,b,c,d,e,f,g,h]):W.cell? ⟨B,0,none⟩=some a∧W.cell? ⟨B,1,none⟩=some b∧W.cell? ⟨B,2,none⟩=some c∧W.cell? ⟨B,3,none⟩=some d∧W.cell? ⟨B,4,none⟩=some e∧W.cell? ⟨B,5,none⟩=some f∧W.cell? ⟨B,6,none⟩=some g∧W.cell? ⟨B,7,none⟩=some h:=⟨hr.cell rfl,hr.cell rfl,hr.cell rfl,hr.cell rfl,hr.cell rfl,hr.cell rfl,hr.cell rfl,hr.cell rfl⟩
theorem yK (o:Option (Int × Int)):∃a b v,yf o=.tuple #[.agg #[.int .i64 a,.int .i64 b],.int .i64 v]:=by
 cases o with
 | none=>exact⟨_,_,_,rfl⟩
 | some p=>exact⟨_,_,_,rfl⟩
theorem jk (f:FuncId) (c e c2 e2:Int) (he:¬ zo e) (w:World):Calls Tryz.prog 108 #[.func (.func f) #[] #[],dv c e,dv c2 e2] w fun r w'=>r=.returned (.tuple #[dv 0 0,.int .i64 1])/\Below w.heap.size w w':=by
 unfold dv;go_enter Tryz.func108,Tryz.ntmps108;go_wp2_with fail;obtain⟨_,_,_,hK,_⟩:=zP w _ _ _ _ _ 23 23 23 23 (Below.refl _ ((((w.alloc (.cells #[.int .i64 c,.int .i64 e] 23)).alloc (.cells #[.int .i64 c2,.int .i64 e2] 23)).alloc (.cells #[.int .i64 0,.int .i64 0] 23)).alloc (.cells #[.int .i64 c,.int .i64 e,.int .i64 c2,.int .i64 e2] 23)));refine(jf c e c2 e2 _ _ he hK).mono ?_;rintro _ w1 ⟨h1,rfl⟩;obtain⟨_,_,hZ,_,hB⟩:=zP w w1 _ _ _ _ _ _ _ _ h1;obtain⟨d0,d1⟩:=hZ.duo;have z:=hZ.frozen;clear h1;go_wp2;refine bodyPost_ret (zd rfl (g:=w.heap.size+2) rfl rfl (zm (Row.set2 hZ _ _) rfl)) rfl ⟨rfl,?_⟩;repeat (refine za ?_ _ _ (by omega))
 exact hB
theorem jj (f:FuncId) (c e c2 e2:Int) (hc:I64 c) (he:zo e) (he2:¬ zo e2) (w:World):Calls Tryz.prog 108 #[.func (.func f) #[] #[],dv c e,dv c2 e2] w fun r w'=>r=.returned (.tuple #[dv 0 0,.int .i64 1])/\Below w.heap.size w w':=by
 unfold dv;go_enter Tryz.func108,Tryz.ntmps108;go_wp2_with fail;obtain⟨_,_,_,hK,_⟩:=zP w _ _ _ _ _ 23 23 23 23 (Below.refl _ ((((w.alloc (.cells #[.int .i64 c,.int .i64 e] 23)).alloc (.cells #[.int .i64 c2,.int .i64 e2] 23)).alloc (.cells #[.int .i64 0,.int .i64 0] 23)).alloc (.cells #[.int .i64 c,.int .i64 e,.int .i64 c2,.int .i64 e2] 23)));refine(je c e c2 e2 _ _ hc he he2 hK).mono ?_;rintro _ w1 ⟨h1,rfl⟩;obtain⟨_,_,hZ,_,hB⟩:=zP w w1 _ _ _ _ _ _ _ _ h1;obtain⟨d0,d1⟩:=hZ.duo;have z:=hZ.frozen;clear h1;go_wp2;refine bodyPost_ret (zd rfl (g:=w.heap.size+2) rfl rfl (zm (Row.set2 hZ _ _) rfl)) rfl ⟨rfl,?_⟩;repeat (refine za ?_ _ _ (by omega))
 exact hB
theorem kf (g:FuncId) (hg:g=105\/g=109\/g=110) (c e c2 e2:Int) (o:Option Wd) (hc:I64 c) (he:zo e) (hc2:I64 c2) (he2:zo e2) (hw:∀w,Calls Tryz.prog g #[(zj c e).val,(zj c2 e2).val] w fun r w'=>jG o r/\Below w.heap.size w w') (w:World):Calls Tryz.prog 108 #[.func (.func g) #[] #[],dv c e,dv c2 e2] w fun r w'=>r=.returned (yf (yp o))/\Below w.heap.size w w':=by
 have hT:=fun K w (hK:Row w K 23 #[.int .i64 c,.int .i64 e,.int .i64 c2,.int .i64 e2])=>Yr c e c2 e2 K w hc he hc2 he2 hK;simp only[Wd.val_eq] at *;obtain⟨y0,y1,y2,y3,hy⟩:∃y0 y1 y2 y3,(zj c e).cells=#[y0,y1,y2,y3]:=⟨_,_,_,_,rfl⟩;obtain⟨z0,z1,z2,z3,hz⟩:∃y0 y1 y2 y3,(zj c2 e2).cells=#[y0,y1,y2,y3]:=⟨_,_,_,_,rfl⟩;rw[hy,hz] at hw;simp only[hy,hz] at hT;clear hc he hc2 he2;obtain⟨p,q,v,hdv⟩:=yK (yp o);rw[hdv];have HDV:Hid (yf (yp o)=.tuple #[.agg #[.int .i64 p,.int .i64 q],.int .i64 v]):=hdv;clear hdv;unfold dv;go_enter Tryz.func108,Tryz.ntmps108;go_wp2_with fail;obtain⟨_,_,_,hK,_⟩:=zP w _ _ _ _ _ 23 23 23 23 (Below.refl _ ((((w.alloc (.cells #[.int .i64 c,.int .i64 e] 23)).alloc (.cells #[.int .i64 c2,.int .i64 e2] 23)).alloc (.cells #[.int .i64 0,.int .i64 0] 23)).alloc (.cells #[.int .i64 c,.int .i64 e,.int .i64 c2,.int .i64 e2] 23)));refine(hT _ _ hK).mono ?_;rintro _ W ⟨h1,G,hG,rfl,hR⟩;obtain⟨_,_,hZ,_,hB⟩:=zP w W _ _ _ _ _ _ _ _ h1;have hGn:w.heap.size+2≠G:=by simp at hG;omega
 have hR:Row W G 85 #[y0,y1,y2,y3,z0,z1,z2,z3]:=hR;clear h1 hG hK hT;go_wp2_with fail;have hS0:Below W.heap.size W W.drew:=(Below.refl _ W).drew;refine Ib W 10 15 ?_;refine Oh 0 hS0 ?_;refine Oh 1 hS0 ?_;refine Oh 2 hS0 ?_ (v:=.pointer (some ⟨G,0,none⟩));refine Oh 3 hS0 ?_ (v:=.agg #[y0,y1,y2,y3]) (y:=by intro wx hx;obtain⟨g0,g1,g2,g3,g4,g5,g6,g7⟩:=(hR.below hx hR.lt).eight;go_simp<;>rfl);refine Oh 4 hS0 ?_;refine Oh 5 hS0 ?_ (v:=.pointer (some ⟨G,4,none⟩));refine Oh 6 hS0 ?_ (v:=.agg #[z0,z1,z2,z3]) (y:=by intro wx hx;obtain⟨g0,g1,g2,g3,g4,g5,g6,g7⟩:=(hR.below hx hR.lt).eight;go_simp<;>rfl);refine Oo 7 ?_;rcases hg with rfl|rfl|rfl;all_goals
  go_wp2_with fail;refine(hw _).mono ?_;rintro _ w1 ⟨⟨x,t,rfl,x1,x2,x3,x4⟩,h1⟩;have hS1:=hS0.trans h1;have hTD:=jY x t x1 x3 x2;rw[show (if t=true then zy x.neg x.n x.e else none)=yp o by rw[x4];cases t<;>rfl] at hTD;rw[HDV.out] at hTD;obtain⟨d0,d1,d2,d3,hxv⟩:=qM x;rw[hxv] at hTD ⊢;clear h1 hw x1 x2 x3 x4 hxv;go_wp2_with fail;refine⟨fun _=>hS1,?_⟩;refine Oh 8 hS1 ?_;refine Oh 9 hS1 ?_;refine Oo 10 ?_;go_wp2_with fail;refine(hTD _).mono ?_;rintro _ w2 ⟨rfl,h2⟩;have hS2:=hS1.trans (h2.mono hS1.size);have hZ2:=hZ.below hS2 hZ.lt;have hB2:=hB.trans (hS2.mono hB.size);clear h2 hTD;go_wp2_with fail;refine⟨(fun h=>by simp at h),?_⟩;refine qt 11 (v := ?_) rfl (by kernel_rfl) (by kernel_rfl) rfl (fun _ _ _ h=>h) rfl (by intro wx;go_simp<;>rfl) ?_;refine qt 12 (v := ?_) rfl (by kernel_rfl) (by kernel_rfl) rfl (fun _ _ _ h=>h) rfl (by intro wx;go_simp<;>rfl) ?_;obtain⟨g0,g1⟩:=hZ2.duo;have z:=hZ2.frozen;refine Oo 13 ?_;go_wp2_with fail;refine⟨(fun h=>by simp at h),?_⟩;refine Oo 14 ?_;go_wp2_with fail;refine⟨(fun h=>by simp at h),?_⟩;refine Od ?_;go_wp2;refine bodyPost_ret (v:=.tuple #[.agg #[.int .i64 p,.int .i64 q],.int .i64 v]) (zd rfl (g:=w.heap.size+2) rfl rfl (zm (Row.set2 hZ2 _ _) rfl)) rfl ⟨rfl,?_⟩;repeat (refine za ?_ _ _ (by omega))
  exact hB2
set_option maxHeartbeats 400000
theorem divisor_any (a b:Nat) (ha:a<18446744073709551616) (hb:b<18446744073709551616) (w:World):Calls Tryz.prog 151 #[.int .u64 a,.int .u64 b] w fun r w'=>r=.returned (.int .u64 (Nat.gcd a b:Int))/\w'=w:=by
 go_enter Tryz.func151,Tryz.ntmps151;go_wp2;go_loop [0,1] (fun x y=>∃p q:Nat,x=.int .u64 p/\y=.int .u64 q/\p<18446744073709551616/\q<18446744073709551616/\Hid (Nat.gcd p q=Nat.gcd a b)) (fun x _=>(intOf x).toNat)
 case atStart=>exact⟨a,b,rfl,rfl,ha,hb,rfl⟩
 case round =>
  obtain⟨p,q,rfl,rfl,hp,hq,hg⟩:=hrel;by_cases h0:p=0
  ·subst h0;go_wp2;go_ret;exact⟨by rw[<-hg.out,Nat.gcd_zero_left];rfl,rfl⟩
  ·have h1:((p:Int) != 0)=true:=by simp;omega
   have h2:((p:Int)==0)=false:=by simp;omega
   obtain⟨m,hm⟩:∃m,q % p=m:=⟨_,rfl⟩;have hlt:m<p:=by rw[<-hm];exact Nat.mod_lt _ (by omega)
   have f1:IntKind.u64.wrap ((q:Int).tmod (p:Int))=(m:Int):=by rw[zU,Int.tmod_eq_emod_of_nonneg (by omega),<-hm,<-Int.natCast_emod];omega
   have HM:Hid (q % p=m):=hm;clear hm h0;go_wp2;try rw[f1]
   go_round
   case rel=>exact⟨m,p,by first|rfl|(rw[<-HM.out];simp),rfl,by omega,hp,by show _=_;rw[<-HM.out,<-Nat.gcd_rec];exact hg.out⟩
   case measure =>
    have:=HM.out;first
    | (simp only[intOf,Int.toNat_natCast];omega)
    | (rw[<-Int.natCast_emod,this];simp only[intOf,Int.toNat_natCast];omega)
def yv (by' n : Nat) (e : Int) : Option (Nat × Int) :=
  if by' ≤ 1 then some (n, e)
  else if by' % 10 = 0 then yv (by' / 10) n (e - 1)
  else if by' % 2 = 0 then (if n * 5 < zt then yv (by' / 2) (n * 5) (e - 1) else none)
  else if by' % 5 = 0 then (if n * 2 < zt then yv (by' / 5) (n * 2) (e - 1) else none)
  else none
  termination_by by'
  decreasing_by all_goals omega
def jh (a b : Wd) : Option Wd := (yv (b.n / Nat.gcd a.n b.n) (a.n / Nat.gcd a.n b.n) (a.e - b.e)).map fun p => ⟨a.neg != b.neg, p.1, p.2⟩
set_option maxHeartbeats 1500000
def quR (neg : Bool) (by0 n0 : Nat) (e0 : Int) (QB B2 : Nat) (w0 : World) (v7 v9 : Value) (wr : World) : Prop :=
  (∃ (by' n k : Nat), v7 = .int .u64 (by' : Int) ∧ v9 = .bool true ∧ 1 ≤ by' ∧ by' * 2 ^ k ≤ by0 ∧ n < zt ∧ Hid (yv by' n (e0 - k) = yv by0 n0 e0) ∧ Row wr QB 85 (Wd.cells ⟨neg, n, e0 - k⟩) ∧ Row wr B2 85 xc ∧ Below w0.heap.size w0 wr) ∨
  (∃ by' : Nat, v7 = .int .u64 (by' : Int) ∧ v9 = .bool false ∧ yv by0 n0 e0 = none ∧ Row wr QB 85 (Wd.cells ⟨false, 0, -1⟩) ∧ Row wr B2 85 xc ∧ Below w0.heap.size w0 wr)
theorem pow_small {by' k by0:Nat} (h1:1<=by') (h:by'*2 ^ k<=by0) (hb:by0<18446744073709551616):k<64:=by
 apply Nat.lt_of_not_le;intro hk;have h2:2 ^ 64<=2 ^ k:=Nat.pow_le_pow_right (by omega) hk;have h3:1*2 ^ k<=by'*2 ^ k:=Nat.mul_le_mul_right _ h1
 omega
theorem Yy {by' k by0 d:Nat} (hd:2<=d) (h:by'*2 ^ k<=by0):by' / d*2 ^ (k+1)<=by0:=by
 have h1:by' / d*2<=by':=Nat.le_trans (Nat.mul_le_mul_left _ hd) (Nat.div_mul_le_self _ _)
 have h2:by' / d*2*2 ^ k<=by'*2 ^ k:=Nat.mul_le_mul_right _ h1
 rw[Nat.pow_succ,Nat.mul_comm (2 ^ k) 2,<-Nat.mul_assoc];omega
theorem quot_raw (an bn:Bool) (ah al bh bl g b1 n1:Nat) (ae be e1:Int) (hd:∀w,Calls Tryz.prog 151 #[.int .u64 (al:Int),.int .u64 (bl:Int)] w fun r w'=>r=.returned (.int .u64 (g:Int))/\w'=w) (hg:g≠0) (f1:IntKind.u64.wrap ((bl:Int) / (g:Int))=(b1:Int)) (f2:IntKind.u64.wrap ((al:Int) / (g:Int))=(n1:Int)) (f3:IntKind.i64.wrap (ae-be)=e1) (hb1:1<=b1) (hb2:b1<18446744073709551616) (hn1:n1<18446744073709551616) (he1 : -100000<=e1/\e1<=100000) (w:World):Calls Tryz.prog 112 #[wv an ah al ae,wv bn bh bl be] w fun r w'=>jG ((yv b1 n1 e1).map fun p=>⟨an != bn,p.1,p.2⟩) r/\Below w.heap.size w w':=by
 have hg0:((g:Int)==0)=false:=by simp;omega
 have hg1:¬ (g:Int)=0:=by omega
 have hg2:¬ g=0:=hg;have F1:Hid (IntKind.u64.wrap ((bl:Int) / (g:Int))=(b1:Int)):=f1;have F2:Hid (IntKind.u64.wrap ((al:Int) / (g:Int))=(n1:Int)):=f2;have F3:Hid (IntKind.i64.wrap (ae-be)=e1):=f3;clear f1 f2 f3 hg;unfold wv;go_enter Tryz.func112,Tryz.ntmps112;go_wp2_with fail;refine(hd _).mono ?_;rintro _ w1 ⟨rfl,hw1⟩;rw[hw1];clear hw1 w1 hd;obtain⟨hA,hC,hZ,hB⟩:=zw w _ _ _ _ 85 85 85 (Below.refl _ (((w.alloc (.cells #[.bool an,.int .u64 (ah:Int),.int .u64 (al:Int),.int .i64 ae] 85)).alloc (.cells #[.bool bn,.int .u64 (bh:Int),.int .u64 (bl:Int),.int .i64 be] 85)).alloc (.cells #[.bool false,.int .u64 0,.int .u64 0,.int .i64 0] 85)));generalize (((w.alloc (.cells #[.bool an,.int .u64 (ah:Int),.int .u64 (al:Int),.int .i64 ae] 85)).alloc (.cells #[.bool bn,.int .u64 (bh:Int),.int .u64 (bl:Int),.int .i64 be] 85)).alloc (.cells #[.bool false,.int .u64 0,.int .u64 0,.int .i64 0] 85))=W at *;obtain⟨a0,a1,a2,a3⟩:=hA.four;obtain⟨c0,c1,c2,c3⟩:=hC.four;go_wp2_with fail;rw[F1.out];have hS0:Below W.heap.size W W.drew:=(Below.refl _ W).drew;refine Ib W 16 18 ?_;refine Oh 0 hS0 ?_;refine Oh 1 hS0 ?_ (v:=.bool an) (y:=by intro wx hx;obtain⟨x0,x1,x2,x3⟩:=(hA.below hx hA.lt).four;go_simp<;>rfl);refine Oh 2 hS0 ?_;refine Oh 3 hS0 ?_ (v:=.bool bn) (y:=by intro wx hx;obtain⟨x0,x1,x2,x3⟩:=(hC.below hx hC.lt).four;go_simp<;>rfl);refine Oh 4 hS0 ?_ (v:=.bool (an != bn)) (y:=by intro wx hx;go_simp<;>(cases an<;>cases bn<;>rfl));refine Oh 5 hS0 ?_;refine Oh 6 hS0 ?_ (v:=.int .u64 (al:Int)) (y:=by intro wx hx;obtain⟨x0,x1,x2,x3⟩:=(hA.below hx hA.lt).four;go_simp<;>rfl);refine Oh 7 hS0 ?_;refine Oh 8 hS0 ?_ (v:=.int .u64 (n1:Int)) (y:=by intro wx hx;go_simp<;>exact F2.out);refine Oh 9 hS0 ?_;refine Oh 10 hS0 ?_ (v:=.int .i64 ae) (y:=by intro wx hx;obtain⟨x0,x1,x2,x3⟩:=(hA.below hx hA.lt).four;go_simp<;>rfl);refine Oh 11 hS0 ?_;refine Oh 12 hS0 ?_ (v:=.int .i64 be) (y:=by intro wx hx;obtain⟨x0,x1,x2,x3⟩:=(hC.below hx hC.lt).four;go_simp<;>rfl);refine Oh 13 hS0 ?_ (v:=.int .i64 e1) (y:=by intro wx hx;go_simp<;>exact F3.out);refine Oh 14 hS0 ?_;refine Oo 15 ?_;go_wp2_with fail;refine⟨fun _=>by first|exact((Below.refl _ W).drew).alloc (Nat.le_refl _) _|exact((Below.refl _ W).alloc (Nat.le_refl _) _).drew,?_⟩;refine Oo 16 ?_;go_wp2_with fail;refine⟨(fun h=>by simp at h),?_⟩;refine Oo 17 ?_;go_wp2_with fail;refine⟨(fun h=>by simp at h),?_⟩;refine Od ?_;go_wp2_with fail;have hQ0:Row (W.alloc (.cells #[.bool (an != bn),.int .u64 0,.int .u64 (n1:Int),.int .i64 e1] 85)).drew W.heap.size 85 #[.bool (an != bn),.int .u64 0,.int .u64 (n1:Int),.int .i64 e1]:=Row.new W 85 _;have hZ0:Row (W.alloc (.cells #[.bool (an != bn),.int .u64 0,.int .u64 (n1:Int),.int .i64 e1] 85)).drew (w.heap.size+2) 85 xc:=hZ.alloc _;have hB0:Below w.heap.size w (W.alloc (.cells #[.bool (an != bn),.int .u64 0,.int .u64 (n1:Int),.int .i64 e1] 85)).drew:=(hB.alloc hB.size _).drew;have hne:w.heap.size+2≠W.heap.size:=Nat.ne_of_lt hZ.lt;have hle:w.heap.size<=W.heap.size:=hB.size;clear a0 a1 a2 a3 c0 c1 c2 c3 hA hC hZ hB hS0 F1 F2 F3 hg0 hg1 hg2;go_loopw [7,9] (quR (an != bn) b1 n1 e1 W.heap.size (w.heap.size+2) w) (fun v7 v9 _=>ZF v9*(intOf v7).toNat)
 case atStart =>
  refine Or.inl ⟨b1,n1,0,rfl,rfl,hb1,by simp,by unfold zt;omega,?_,?_,hZ0,hB0⟩
  ·show _=_;rw[show e1-((0:Nat):Int)=e1 by omega]
  ·unfold Wd.cells;simp only;rw[show n1 / 18446744073709551616=0 by omega,show n1 % 18446744073709551616=n1 by omega,show e1-((0:Nat):Int)=e1 by omega];exact hQ0
 case round =>
  clear hQ0 hZ0 hB0;rcases hrel with ⟨by',n,k,rfl,rfl,hby1,hpw,hM,HQL,hQ,hZ,hB⟩|⟨by',rfl,rfl,hnone,hQ,hZ,hB⟩
  ·have hk64:=pow_small hby1 hpw hb2;have hby64:by'<18446744073709551616:=Nat.lt_of_le_of_lt (Nat.le_trans (Nat.le_mul_of_pos_right _ (Nat.pos_of_ne_zero (by simp[Nat.pow_eq_zero]))) hpw) hb2
   have HPW:Hid (by'*2 ^ k<=b1):=hpw;obtain⟨e0,he0⟩:∃e0,e1-(k:Int)=e0:=⟨_,rfl⟩;have HE0:Hid (e1-(k:Int)=e0):=he0;have be0 : -100100<=e0/\e0<=100100:=by omega
   unfold Wd.cells at hQ;simp only at hQ;obtain⟨nh,hnh⟩:∃q,n / 18446744073709551616=q:=⟨_,rfl⟩;obtain⟨nl,hnl⟩:∃q,n % 18446744073709551616=q:=⟨_,rfl⟩;rw[hnh,hnl,he0] at hQ;obtain⟨a0,a1,a2,a3⟩:=hQ.four;obtain⟨d0,d1,d2,d3⟩:=hZ.four;have z0:=hQ.frozen;have z1:=hZ.frozen;clear hpw he0 hk64;by_cases hgt:1<by'
   ·have t0:(1:Int)<(by':Int):=by omega
    by_cases h10:by' % 10=0
    ·have HOK:Hid (1<by'/\by' % 10=0/\by'<18446744073709551616):=⟨hgt,h10,hby64⟩;have t1:((by':Int) % 10==0)=true:=by simp;omega
     clear h10 hgt;obtain⟨by2,hby2⟩:∃q,by' / 10=q:=⟨_,rfl⟩
     have HBY:Hid (by' / 10=by2):=hby2;have HCA:Hid ((by':Int) / 10=(by2:Int)):=by show _=_;omega
     have HMM:Hid (n<zt):=hM;clear hby2 hM;go_wp2;have hfin:Row (wr.setCell ⟨W.heap.size,3,none⟩ (.int .i64 (e0-1))) W.heap.size 85 (Wd.cells ⟨an != bn,n,e1-((k+1:Nat):Int)⟩):=by unfold Wd.cells;simp only;rw[hnh,hnl,show e1-((k+1:Nat):Int)=e0-1 by have:=HE0.out;omega];exact hQ.set 3 _
     refine⟨Or.inl ⟨by2,n,k+1,by rw[<-HCA.out],rfl,?_,?_,HMM.out,?_,hfin,?_,?_⟩,?_⟩
     ·have:=HBY.out;have:=HOK.out;omega
     ·rw[<-HBY.out];exact Yy (by omega) HPW.out
     ·show _=_;rw[<-HQL.out];have h2:=HOK.out;rw[yv.eq_def by',if_neg (by omega),if_pos (by omega),HBY.out,show e1-((k+1:Nat):Int)=e1-(k:Int)-1 by omega]
     ·exact hZ.off (B':=W.heap.size) _ _ hne
     ·exact za hB _ _ hle
     ·have:=HBY.out;have:=HOK.out;rw[HCA.out];simp only[ZF,intOf,Int.toNat_natCast];omega
    ·by_cases h2:by' % 2=0
     ·have HOK:Hid (1<by'/\¬ by' % 10=0/\by' % 2=0/\by'<18446744073709551616):=⟨hgt,h10,h2,hby64⟩;have t1:((by':Int) % 10==0)=false:=by simp;omega
      have t2:((by':Int) % 2==0)=true:=by simp;omega
      clear h10 h2 hgt;have hTm:=Zf ⟨an != bn,n,e0⟩ 5 hM (by omega);simp only[Wd.val_eq] at hTm;unfold Wd.cells at hTm;simp only at hTm;rw[hnh,hnl] at hTm;obtain⟨by2,hby2⟩:∃q,by' / 2=q:=⟨_,rfl⟩
      have HBY:Hid (by' / 2=by2):=hby2;have hcast:(by':Int) / 2=(by2:Int):=by omega
      have HCA:Hid ((by':Int) / 2=(by2:Int)):=hcast;clear hby2 hcast;by_cases hfit:n*5<zt
      ·simp only[if_pos hfit] at hTm;unfold qg at hTm;simp only[Wd.val_eq] at hTm;unfold Wd.cells at hTm;simp only at hTm;obtain⟨H,hH⟩:∃ H,n*5 / 18446744073709551616=H:=⟨_,rfl⟩;obtain⟨L,hL⟩:∃ L,n*5 % 18446744073709551616=L:=⟨_,rfl⟩;simp only[hH,hL] at hTm;have hH':Hid (n*5 / 18446744073709551616=H):=hH;have hL':Hid (n*5 % 18446744073709551616=L):=hL;have HFT:Hid (n*5<zt):=hfit;clear hH hL hfit hM hnh hnl;go_wp2_with fail;refine(hTm _).mono ?_;rintro _ w2 ⟨rfl,hB3⟩;have hQ2:=hQ.below hB3 hQ.lt;have hZ2:=hZ.below hB3 hZ.lt;have hB2:=hB.trans (hB3.mono hB.size);clear a0 a1 a2 a3 d0 d1 d2 d3 z0 z1 hTm hB3;obtain⟨g0,g1,g2,g3⟩:=hQ2.four;have z2:=hQ2.frozen;go_wp2;have hfin:Row (((((w2.setCell ⟨W.heap.size,0,none⟩ (.bool (an != bn))).setCell ⟨W.heap.size,1,none⟩ (.int .u64 (H:Int))).setCell ⟨W.heap.size,2,none⟩ (.int .u64 (L:Int))).setCell ⟨W.heap.size,3,none⟩ (.int .i64 e0)).setCell ⟨W.heap.size,3,none⟩ (.int .i64 (e0-1))) W.heap.size 85 (Wd.cells ⟨an != bn,n*5,e1-((k+1:Nat):Int)⟩):=by unfold Wd.cells;simp only;rw[hH'.out,hL'.out,show e1-((k+1:Nat):Int)=e0-1 by have:=HE0.out;omega];exact(hQ2.set4 _ _ _ _).set 3 _
       refine⟨Or.inl ⟨by2,n*5,k+1,by rw[<-HCA.out],rfl,?_,?_,HFT.out,?_,hfin,?_,?_⟩,?_⟩
       ·have:=HBY.out;have:=HOK.out;omega
       ·rw[<-HBY.out];exact Yy (by omega) HPW.out
       ·show _=_;rw[<-HQL.out];have h2:=HOK.out;rw[yv.eq_def by'];rw[if_neg (by omega),if_neg (by omega),if_pos (by omega),if_pos HFT.out,HBY.out,show e1-((k+1:Nat):Int)=e1-(k:Int)-1 by omega]
       ·exact((((hZ2.off (B':=W.heap.size) _ _ hne).off (B':=W.heap.size) _ _ hne).off (B':=W.heap.size) _ _ hne).off (B':=W.heap.size) _ _ hne).off (B':=W.heap.size) _ _ hne
       ·repeat (refine za ?_ _ _ hle)
        exact hB2
       ·have:=HBY.out;have:=HOK.out;rw[HCA.out];simp only[ZF,intOf,Int.toNat_natCast];omega
      ·simp only[if_neg hfit] at hTm;unfold qg at hTm;simp only[wv] at hTm;have HFT:Hid (¬ n*5<zt):=hfit;clear hfit hM hnh hnl;go_wp2_with fail;refine(hTm _).mono ?_;rintro _ w2 ⟨rfl,hB3⟩;have hQ2:=hQ.below hB3 hQ.lt;have hZ2:=hZ.below hB3 hZ.lt;have hB2:=hB.trans (hB3.mono hB.size);clear a0 a1 a2 a3 d0 d1 d2 d3 z0 z1 hTm hB3;obtain⟨g0,g1,g2,g3⟩:=hQ2.four;have z2:=hQ2.frozen;go_wp2;have hfin:Row (((((w2.setCell ⟨W.heap.size,0,none⟩ (.bool false)).setCell ⟨W.heap.size,1,none⟩ (.int .u64 0)).setCell ⟨W.heap.size,2,none⟩ (.int .u64 0)).setCell ⟨W.heap.size,3,none⟩ (.int .i64 0)).setCell ⟨W.heap.size,3,none⟩ (.int .i64 (-1))) W.heap.size 85 (Wd.cells ⟨false,0,-1⟩):=(hQ2.set4 _ _ _ _).set 3 _;refine⟨Or.inr ⟨by2,by rw[<-HCA.out],rfl,?_,hfin,?_,?_⟩,?_⟩
       ·rw[<-HQL.out];have h2:=HOK.out;rw[yv.eq_def by'];rw[if_neg (by omega),if_neg (by omega),if_pos (by omega),if_neg HFT.out]
       ·exact((((hZ2.off (B':=W.heap.size) _ _ hne).off (B':=W.heap.size) _ _ hne).off (B':=W.heap.size) _ _ hne).off (B':=W.heap.size) _ _ hne).off (B':=W.heap.size) _ _ hne
       ·repeat (refine za ?_ _ _ hle)
        exact hB2
       ·have:=HOK.out;simp only[ZF,intOf,Int.toNat_natCast];omega
     ·by_cases h5:by' % 5=0
      ·have HOK:Hid (1<by'/\¬ by' % 10=0/\¬ by' % 2=0/\by' % 5=0/\by'<18446744073709551616):=⟨hgt,h10,h2,h5,hby64⟩;have t1:((by':Int) % 10==0)=false:=by simp;omega
       have t2:((by':Int) % 2==0)=false:=by simp;omega
       have t3:((by':Int) % 5==0)=true:=by simp;omega
       clear h10 h2 h5 hgt;have hTm:=Zf ⟨an != bn,n,e0⟩ 2 hM (by omega);simp only[Wd.val_eq] at hTm;unfold Wd.cells at hTm;simp only at hTm;rw[hnh,hnl] at hTm;obtain⟨by2,hby2⟩:∃q,by' / 5=q:=⟨_,rfl⟩
       have HBY:Hid (by' / 5=by2):=hby2;have hcast:(by':Int) / 5=(by2:Int):=by omega
       have HCA:Hid ((by':Int) / 5=(by2:Int)):=hcast;clear hby2 hcast;by_cases hfit:n*2<zt
       ·simp only[if_pos hfit] at hTm;unfold qg at hTm;simp only[Wd.val_eq] at hTm;unfold Wd.cells at hTm;simp only at hTm;obtain⟨H,hH⟩:∃ H,n*2 / 18446744073709551616=H:=⟨_,rfl⟩;obtain⟨L,hL⟩:∃ L,n*2 % 18446744073709551616=L:=⟨_,rfl⟩;simp only[hH,hL] at hTm;have hH':Hid (n*2 / 18446744073709551616=H):=hH;have hL':Hid (n*2 % 18446744073709551616=L):=hL;have HFT:Hid (n*2<zt):=hfit;clear hH hL hfit hM hnh hnl;go_wp2_with fail;refine(hTm _).mono ?_;rintro _ w2 ⟨rfl,hB3⟩;have hQ2:=hQ.below hB3 hQ.lt;have hZ2:=hZ.below hB3 hZ.lt;have hB2:=hB.trans (hB3.mono hB.size);clear a0 a1 a2 a3 d0 d1 d2 d3 z0 z1 hTm hB3;obtain⟨g0,g1,g2,g3⟩:=hQ2.four;have z2:=hQ2.frozen;go_wp2;have hfin:Row (((((w2.setCell ⟨W.heap.size,0,none⟩ (.bool (an != bn))).setCell ⟨W.heap.size,1,none⟩ (.int .u64 (H:Int))).setCell ⟨W.heap.size,2,none⟩ (.int .u64 (L:Int))).setCell ⟨W.heap.size,3,none⟩ (.int .i64 e0)).setCell ⟨W.heap.size,3,none⟩ (.int .i64 (e0-1))) W.heap.size 85 (Wd.cells ⟨an != bn,n*2,e1-((k+1:Nat):Int)⟩):=by unfold Wd.cells;simp only;rw[hH'.out,hL'.out,show e1-((k+1:Nat):Int)=e0-1 by have:=HE0.out;omega];exact(hQ2.set4 _ _ _ _).set 3 _
        refine⟨Or.inl ⟨by2,n*2,k+1,by rw[<-HCA.out],rfl,?_,?_,HFT.out,?_,hfin,?_,?_⟩,?_⟩
        ·have:=HBY.out;have:=HOK.out;omega
        ·rw[<-HBY.out];exact Yy (by omega) HPW.out
        ·show _=_;rw[<-HQL.out];have h2:=HOK.out;rw[yv.eq_def by'];rw[if_neg (by omega),if_neg (by omega),if_neg (by omega),if_pos (by omega),if_pos HFT.out,HBY.out,show e1-((k+1:Nat):Int)=e1-(k:Int)-1 by omega]
        ·exact((((hZ2.off (B':=W.heap.size) _ _ hne).off (B':=W.heap.size) _ _ hne).off (B':=W.heap.size) _ _ hne).off (B':=W.heap.size) _ _ hne).off (B':=W.heap.size) _ _ hne
        ·repeat (refine za ?_ _ _ hle)
         exact hB2
        ·have:=HBY.out;have:=HOK.out;rw[HCA.out];simp only[ZF,intOf,Int.toNat_natCast];omega
       ·simp only[if_neg hfit] at hTm;unfold qg at hTm;simp only[wv] at hTm;have HFT:Hid (¬ n*2<zt):=hfit;clear hfit hM hnh hnl;go_wp2_with fail;refine(hTm _).mono ?_;rintro _ w2 ⟨rfl,hB3⟩;have hQ2:=hQ.below hB3 hQ.lt;have hZ2:=hZ.below hB3 hZ.lt;have hB2:=hB.trans (hB3.mono hB.size);clear a0 a1 a2 a3 d0 d1 d2 d3 z0 z1 hTm hB3;obtain⟨g0,g1,g2,g3⟩:=hQ2.four;have z2:=hQ2.frozen;go_wp2;have hfin:Row (((((w2.setCell ⟨W.heap.size,0,none⟩ (.bool false)).setCell ⟨W.heap.size,1,none⟩ (.int .u64 0)).setCell ⟨W.heap.size,2,none⟩ (.int .u64 0)).setCell ⟨W.heap.size,3,none⟩ (.int .i64 0)).setCell ⟨W.heap.size,3,none⟩ (.int .i64 (-1))) W.heap.size 85 (Wd.cells ⟨false,0,-1⟩):=(hQ2.set4 _ _ _ _).set 3 _;refine⟨Or.inr ⟨by2,by rw[<-HCA.out],rfl,?_,hfin,?_,?_⟩,?_⟩
        ·rw[<-HQL.out];have h2:=HOK.out;rw[yv.eq_def by'];rw[if_neg (by omega),if_neg (by omega),if_neg (by omega),if_pos (by omega),if_neg HFT.out]
        ·exact((((hZ2.off (B':=W.heap.size) _ _ hne).off (B':=W.heap.size) _ _ hne).off (B':=W.heap.size) _ _ hne).off (B':=W.heap.size) _ _ hne).off (B':=W.heap.size) _ _ hne
        ·repeat (refine za ?_ _ _ hle)
         exact hB2
        ·have:=HOK.out;simp only[ZF,intOf,Int.toNat_natCast];omega
      ·have HOK:Hid (1<by'/\¬ by' % 10=0/\¬ by' % 2=0/\¬ by' % 5=0):=⟨hgt,h10,h2,h5⟩;have t1:((by':Int) % 10==0)=false:=by simp;omega
       have t2:((by':Int) % 2==0)=false:=by simp;omega
       have t3:((by':Int) % 5==0)=false:=by simp;omega
       clear h10 h2 h5 hgt;clear hM hnh hnl;go_wp2;refine bodyPost_ret (zd rfl (g:=w.heap.size+2) rfl rfl (zW (Row.set4 hZ _ _ _ _) rfl)) rfl ⟨?_,?_⟩
       ·have:yv b1 n1 e1=none:=by rw[<-HQL.out];have h2:=HOK.out;rw[yv.eq_def by',if_neg (by omega),if_neg (by omega),if_neg (by omega),if_neg (by omega)]
        rw[this];exact⟨⟨false,0,0⟩,false,rfl,by decide,by decide,by decide,rfl⟩
       ·exact zx hB (by omega) _ _ _ _
   ·have t0:¬ (1:Int)<(by':Int):=by omega
    have HOK:Hid (by'<=1):=by show _<=_;omega
    have HMM:Hid (n<zt):=hM;clear hgt;clear hM;go_wp2;refine bodyPost_ret (zd rfl (g:=w.heap.size+2) rfl rfl (zW (Row.set4 hZ _ _ _ _) rfl)) rfl ⟨?_,?_⟩
    ·have:yv b1 n1 e1=some (n,e1-(k:Int)):=by rw[<-HQL.out,yv.eq_def by',if_pos HOK.out]
     rw[this];refine⟨⟨an != bn,n,e1-(k:Int)⟩,true,?_,HMM.out,?_,?_,rfl⟩
     ·rw[Wd.val_eq];unfold Wd.cells;simp only;rw[hnh,hnl,HE0.out];rfl
     ·have:=HE0.out;simp only;omega
     ·have:=HE0.out;simp only;omega
    ·exact zx hB (by omega) _ _ _ _
  ·obtain⟨a0,a1,a2,a3⟩:=hQ.four;obtain⟨d0,d1,d2,d3⟩:=hZ.four;have z0:=hQ.frozen;have z1:=hZ.frozen;have HNN:Hid (yv b1 n1 e1=none):=hnone;clear hnone;by_cases hgt:(1:Int)<(by':Int)
   ·go_wp2;refine bodyPost_ret (zd rfl (g:=w.heap.size+2) rfl rfl (zW (Row.set4 hZ _ _ _ _) rfl)) rfl ⟨?_,?_⟩
    ·rw[HNN.out];exact⟨⟨false,0,-1⟩,false,rfl,by decide,by decide,by decide,rfl⟩
    ·exact zx hB (by omega) _ _ _ _
   ·go_wp2;refine bodyPost_ret (zd rfl (g:=w.heap.size+2) rfl rfl (zW (Row.set4 hZ _ _ _ _) rfl)) rfl ⟨?_,?_⟩
    ·rw[HNN.out];exact⟨⟨false,0,-1⟩,false,rfl,by decide,by decide,by decide,rfl⟩
    ·exact zx hB (by omega) _ _ _ _
set_option maxHeartbeats 800000
theorem divided_bad1 (f:FuncId) (c e c2 e2:Int) (he:¬ zo e) (w:World):Calls Tryz.prog 111 #[.func (.func f) #[] #[],dv c e,dv c2 e2] w fun r w'=>r=.returned (.tuple #[dv 0 0,.int .i64 1])/\Below w.heap.size w w':=by
 unfold dv;go_enter Tryz.func111,Tryz.ntmps111;go_wp2_with fail;obtain⟨_,_,_,hK,_⟩:=zP w _ _ _ _ _ 23 23 23 23 (Below.refl _ ((((w.alloc (.cells #[.int .i64 c,.int .i64 e] 23)).alloc (.cells #[.int .i64 c2,.int .i64 e2] 23)).alloc (.cells #[.int .i64 0,.int .i64 0] 23)).alloc (.cells #[.int .i64 c,.int .i64 e,.int .i64 c2,.int .i64 e2] 23)));refine(jf c e c2 e2 _ _ he hK).mono ?_;rintro _ w1 ⟨h1,rfl⟩;obtain⟨_,_,hZ,_,hB⟩:=zP w w1 _ _ _ _ _ _ _ _ h1;obtain⟨d0,d1⟩:=hZ.duo;have z:=hZ.frozen;clear h1;go_wp2;refine bodyPost_ret (zd rfl (g:=w.heap.size+2) rfl rfl (zm (Row.set2 hZ _ _) rfl)) rfl ⟨rfl,?_⟩;repeat (refine za ?_ _ _ (by omega))
 exact hB
theorem divided_bad2 (f:FuncId) (c e c2 e2:Int) (hc:I64 c) (he:zo e) (he2:¬ zo e2) (w:World):Calls Tryz.prog 111 #[.func (.func f) #[] #[],dv c e,dv c2 e2] w fun r w'=>r=.returned (.tuple #[dv 0 0,.int .i64 1])/\Below w.heap.size w w':=by
 unfold dv;go_enter Tryz.func111,Tryz.ntmps111;go_wp2_with fail;obtain⟨_,_,_,hK,_⟩:=zP w _ _ _ _ _ 23 23 23 23 (Below.refl _ ((((w.alloc (.cells #[.int .i64 c,.int .i64 e] 23)).alloc (.cells #[.int .i64 c2,.int .i64 e2] 23)).alloc (.cells #[.int .i64 0,.int .i64 0] 23)).alloc (.cells #[.int .i64 c,.int .i64 e,.int .i64 c2,.int .i64 e2] 23)));refine(je c e c2 e2 _ _ hc he he2 hK).mono ?_;rintro _ w1 ⟨h1,rfl⟩;obtain⟨_,_,hZ,_,hB⟩:=zP w w1 _ _ _ _ _ _ _ _ h1;obtain⟨d0,d1⟩:=hZ.duo;have z:=hZ.frozen;clear h1;go_wp2;refine bodyPost_ret (zd rfl (g:=w.heap.size+2) rfl rfl (zm (Row.set2 hZ _ _) rfl)) rfl ⟨rfl,?_⟩;repeat (refine za ?_ _ _ (by omega))
 exact hB
theorem divided_ok47 (c e c2 e2:Int) (o:Option Wd) (hc:I64 c) (he:zo e) (hc2:I64 c2) (he2:zo e2) (hnz:(zj c2 e2).n≠0) (hw:∀w,Calls Tryz.prog 112 #[(zj c e).val,(zj c2 e2).val] w fun r w'=>jG o r/\Below w.heap.size w w') (w:World):Calls Tryz.prog 111 #[.func (.func 112) #[] #[],dv c e,dv c2 e2] w fun r w'=>r=.returned (yf (yp o))/\Below w.heap.size w w':=by
 have hT:=fun K w (hK:Row w K 23 #[.int .i64 c,.int .i64 e,.int .i64 c2,.int .i64 e2])=>Yr c e c2 e2 K w hc he hc2 he2 hK;simp only[Wd.val_eq] at *;obtain⟨y0,y1,y2,y3,hy⟩:∃y0 y1 y2 y3,(zj c e).cells=#[y0,y1,y2,y3]:=⟨_,_,_,_,rfl⟩;obtain⟨z0,z1,z2,z3,hz⟩:∃y0 y1 y2 y3,(zj c2 e2).cells=#[y0,y1,y2,y3]:=⟨_,_,_,_,rfl⟩;rw[hy,hz] at hw;simp only[hy,hz] at hT;clear hc he hc2 he2;obtain⟨p,q,v,hdv⟩:=yK (yp o);rw[hdv];have HDV:Hid (yf (yp o)=.tuple #[.agg #[.int .i64 p,.int .i64 q],.int .i64 v]):=hdv;clear hdv;unfold dv;go_enter Tryz.func111,Tryz.ntmps111;go_wp2_with fail;obtain⟨_,_,_,hK,_⟩:=zP w _ _ _ _ _ 23 23 23 23 (Below.refl _ ((((w.alloc (.cells #[.int .i64 c,.int .i64 e] 23)).alloc (.cells #[.int .i64 c2,.int .i64 e2] 23)).alloc (.cells #[.int .i64 0,.int .i64 0] 23)).alloc (.cells #[.int .i64 c,.int .i64 e,.int .i64 c2,.int .i64 e2] 23)));refine(hT _ _ hK).mono ?_;rintro _ W ⟨h1,G,hG,rfl,hR⟩;obtain⟨_,_,hZ,_,hB⟩:=zP w W _ _ _ _ _ _ _ _ h1;have hGn:w.heap.size+2≠G:=by simp at hG;omega
 have hR:Row W G 85 #[y0,y1,y2,y3,z0,z1,z2,z3]:=hR;clear h1 hG hK hT;have hzz:∀w,Calls Tryz.prog 114 #[.agg #[z0,z1,z2,z3]] w fun r w'=>r=.returned (.bool false)/\Below w.heap.size w w':=by have:=Yj (zj c2 e2);rw[decide_eq_false hnz,Wd.val_eq,hz] at this;exact this
 obtain⟨g0,g1,g2,g3,g4,g5,g6,g7⟩:=hR.eight;go_wp2_with fail;refine(hzz _).mono ?_;rintro _ W' ⟨rfl,h1⟩;have hZ:=hZ.below h1 hZ.lt;have hR:=hR.below h1 hR.lt;have hB:=hB.trans (h1.mono hB.size);clear g0 g1 g2 g3 g4 g5 g6 g7 h1 hzz;go_wp2_with fail;have hS0:Below W'.heap.size W' W'.drew:=(Below.refl _ W').drew;refine Ib W' 10 15 ?_;refine Oh 0 hS0 ?_;refine Oh 1 hS0 ?_;refine Oh 2 hS0 ?_ (v:=.pointer (some ⟨G,0,none⟩));refine Oh 3 hS0 ?_ (v:=.agg #[y0,y1,y2,y3]) (y:=by intro wx hx;obtain⟨g0,g1,g2,g3,g4,g5,g6,g7⟩:=(hR.below hx hR.lt).eight;go_simp<;>rfl);refine Oh 4 hS0 ?_;refine Oh 5 hS0 ?_ (v:=.pointer (some ⟨G,4,none⟩));refine Oh 6 hS0 ?_ (v:=.agg #[z0,z1,z2,z3]) (y:=by intro wx hx;obtain⟨g0,g1,g2,g3,g4,g5,g6,g7⟩:=(hR.below hx hR.lt).eight;go_simp<;>rfl);refine Oo 7 ?_;go_wp2_with fail;refine(hw _).mono ?_;rintro _ w1 ⟨⟨x,t,rfl,x1,x2,x3,x4⟩,h1⟩;have hS1:=hS0.trans h1;have hTD:=jY x t x1 x3 x2;rw[show (if t=true then zy x.neg x.n x.e else none)=yp o by rw[x4];cases t<;>rfl] at hTD;rw[HDV.out] at hTD;obtain⟨d0,d1,d2,d3,hxv⟩:=qM x;rw[hxv] at hTD ⊢;clear h1 hw x1 x2 x3 x4 hxv;go_wp2_with fail;refine⟨fun _=>hS1,?_⟩;refine Oh 8 hS1 ?_;refine Oh 9 hS1 ?_;refine Oo 10 ?_;go_wp2_with fail;refine(hTD _).mono ?_;rintro _ w2 ⟨rfl,h2⟩;have hS2:=hS1.trans (h2.mono hS1.size);have hZ2:=hZ.below hS2 hZ.lt;have hB2:=hB.trans (hS2.mono hB.size);clear h2 hTD;go_wp2_with fail;refine⟨(fun h=>by simp at h),?_⟩;refine qt 11 (v := ?_) rfl (by kernel_rfl) (by kernel_rfl) rfl (fun _ _ _ h=>h) rfl (by intro wx;go_simp<;>rfl) ?_;refine qt 12 (v := ?_) rfl (by kernel_rfl) (by kernel_rfl) rfl (fun _ _ _ h=>h) rfl (by intro wx;go_simp<;>rfl) ?_;obtain⟨g0,g1⟩:=hZ2.duo;have z:=hZ2.frozen;refine Oo 13 ?_;go_wp2_with fail;refine⟨(fun h=>by simp at h),?_⟩;refine Oo 14 ?_;go_wp2_with fail;refine⟨(fun h=>by simp at h),?_⟩;refine Od ?_;go_wp2;refine bodyPost_ret (v:=.tuple #[.agg #[.int .i64 p,.int .i64 q],.int .i64 v]) (zd rfl (g:=w.heap.size+2) rfl rfl (zm (Row.set2 hZ2 _ _) rfl)) rfl ⟨rfl,?_⟩;repeat (refine za ?_ _ _ (by omega))
 exact hB2
theorem divided_zero (f:FuncId) (c e c2 e2:Int) (hc:I64 c) (he:zo e) (hc2:I64 c2) (he2:zo e2) (hnz:(zj c2 e2).n=0) (w:World):Calls Tryz.prog 111 #[.func (.func f) #[] #[],dv c e,dv c2 e2] w fun r w'=>r=.returned (.tuple #[dv 0 0,.int .i64 31])/\Below w.heap.size w w':=by
 have hT:=fun K w (hK:Row w K 23 #[.int .i64 c,.int .i64 e,.int .i64 c2,.int .i64 e2])=>Yr c e c2 e2 K w hc he hc2 he2 hK;obtain⟨y0,y1,y2,y3,hy⟩:∃y0 y1 y2 y3,(zj c e).cells=#[y0,y1,y2,y3]:=⟨_,_,_,_,rfl⟩;obtain⟨z0,z1,z2,z3,hz⟩:∃y0 y1 y2 y3,(zj c2 e2).cells=#[y0,y1,y2,y3]:=⟨_,_,_,_,rfl⟩;simp only[hy,hz] at hT;have hzz:∀w,Calls Tryz.prog 114 #[.agg #[z0,z1,z2,z3]] w fun r w'=>r=.returned (.bool true)/\Below w.heap.size w w':=by have:=Yj (zj c2 e2);rw[decide_eq_true hnz,Wd.val_eq,hz] at this;exact this
 clear hc he hc2 he2 hnz;unfold dv;go_enter Tryz.func111,Tryz.ntmps111;go_wp2_with fail;obtain⟨_,_,_,hK,_⟩:=zP w _ _ _ _ _ 23 23 23 23 (Below.refl _ ((((w.alloc (.cells #[.int .i64 c,.int .i64 e] 23)).alloc (.cells #[.int .i64 c2,.int .i64 e2] 23)).alloc (.cells #[.int .i64 0,.int .i64 0] 23)).alloc (.cells #[.int .i64 c,.int .i64 e,.int .i64 c2,.int .i64 e2] 23)));refine(hT _ _ hK).mono ?_;rintro _ W ⟨h1,G,hG,rfl,hR⟩;obtain⟨_,_,hZ,_,hB⟩:=zP w W _ _ _ _ _ _ _ _ h1;have hR:Row W G 85 #[y0,y1,y2,y3,z0,z1,z2,z3]:=hR;clear h1 hG hK hT;obtain⟨g0,g1,g2,g3,g4,g5,g6,g7⟩:=hR.eight;go_wp2_with fail;refine(hzz _).mono ?_;rintro _ W' ⟨rfl,h1⟩;have hZ:=hZ.below h1 hZ.lt;have hB:=hB.trans (h1.mono hB.size);clear g0 g1 g2 g3 g4 g5 g6 g7 h1 hzz;obtain⟨d0,d1⟩:=hZ.duo;have z:=hZ.frozen;go_wp2;refine bodyPost_ret (zd rfl (g:=w.heap.size+2) rfl rfl (zm (Row.set2 hZ _ _) rfl)) rfl ⟨rfl,?_⟩;repeat (refine za ?_ _ _ (by omega))
 exact hB
set_option maxHeartbeats 400000
theorem op_9 (c e c2 e2 p q v:Int) (h:∀w,Calls Tryz.prog 108 #[.func (.func 105) #[] #[],dv c e,dv c2 e2] w fun r w'=>r=.returned (.tuple #[.agg #[.int .i64 p,.int .i64 q],.int .i64 v])/\Below w.heap.size w w') (w:World):Calls Tryz.prog 64 #[dv c e,dv c2 e2] w fun r w'=>r=.returned (.tuple #[.agg #[.int .i64 p,.int .i64 q],.int .i64 v])/\Below w.heap.size w w':=by
 unfold dv at *;go_enter Tryz.func64,Tryz.ntmps64;go_wp2_with fail;refine(h _).mono ?_;rintro _ w1 ⟨rfl,h1⟩;obtain⟨_,_,hZ,hB⟩:=zw w w1 _ _ _ _ _ _ h1;obtain⟨d0,d1⟩:=hZ.duo;have z:=hZ.frozen;clear h1 h;go_wp2;refine bodyPost_ret (zd rfl (g:=w.heap.size+2) rfl rfl (zm (Row.set2 hZ _ _) rfl)) rfl ⟨rfl,?_⟩;repeat (refine za ?_ _ _ (by omega))
 exact hB
theorem op_11 (c e c2 e2 p q v:Int) (h:∀w,Calls Tryz.prog 108 #[.func (.func 109) #[] #[],dv c e,dv c2 e2] w fun r w'=>r=.returned (.tuple #[.agg #[.int .i64 p,.int .i64 q],.int .i64 v])/\Below w.heap.size w w') (w:World):Calls Tryz.prog 65 #[dv c e,dv c2 e2] w fun r w'=>r=.returned (.tuple #[.agg #[.int .i64 p,.int .i64 q],.int .i64 v])/\Below w.heap.size w w':=by
 unfold dv at *;go_enter Tryz.func65,Tryz.ntmps65;go_wp2_with fail;refine(h _).mono ?_;rintro _ w1 ⟨rfl,h1⟩;obtain⟨_,_,hZ,hB⟩:=zw w w1 _ _ _ _ _ _ h1;obtain⟨d0,d1⟩:=hZ.duo;have z:=hZ.frozen;clear h1 h;go_wp2;refine bodyPost_ret (zd rfl (g:=w.heap.size+2) rfl rfl (zm (Row.set2 hZ _ _) rfl)) rfl ⟨rfl,?_⟩;repeat (refine za ?_ _ _ (by omega))
 exact hB
theorem op_15 (c e c2 e2 p q v:Int) (h:∀w,Calls Tryz.prog 108 #[.func (.func 110) #[] #[],dv c e,dv c2 e2] w fun r w'=>r=.returned (.tuple #[.agg #[.int .i64 p,.int .i64 q],.int .i64 v])/\Below w.heap.size w w') (w:World):Calls Tryz.prog 66 #[dv c e,dv c2 e2] w fun r w'=>r=.returned (.tuple #[.agg #[.int .i64 p,.int .i64 q],.int .i64 v])/\Below w.heap.size w w':=by
 unfold dv at *;go_enter Tryz.func66,Tryz.ntmps66;go_wp2_with fail;refine(h _).mono ?_;rintro _ w1 ⟨rfl,h1⟩;obtain⟨_,_,hZ,hB⟩:=zw w w1 _ _ _ _ _ _ h1;obtain⟨d0,d1⟩:=hZ.duo;have z:=hZ.frozen;clear h1 h;go_wp2;refine bodyPost_ret (zd rfl (g:=w.heap.size+2) rfl rfl (zm (Row.set2 hZ _ _) rfl)) rfl ⟨rfl,?_⟩;repeat (refine za ?_ _ _ (by omega))
 exact hB
theorem XK (c e c2 e2 p q v:Int) (h:∀w,Calls Tryz.prog 111 #[.func (.func 112) #[] #[],dv c e,dv c2 e2] w fun r w'=>r=.returned (.tuple #[.agg #[.int .i64 p,.int .i64 q],.int .i64 v])/\Below w.heap.size w w') (w:World):Calls Tryz.prog 67 #[dv c e,dv c2 e2] w fun r w'=>r=.returned (.tuple #[.agg #[.int .i64 p,.int .i64 q],.int .i64 v])/\Below w.heap.size w w':=by
 unfold dv at *;go_enter Tryz.func67,Tryz.ntmps67;go_wp2_with fail;refine(h _).mono ?_;rintro _ w1 ⟨rfl,h1⟩;obtain⟨_,_,hZ,hB⟩:=zw w w1 _ _ _ _ _ _ h1;obtain⟨d0,d1⟩:=hZ.duo;have z:=hZ.frozen;clear h1 h;go_wp2;refine bodyPost_ret (zd rfl (g:=w.heap.size+2) rfl rfl (zm (Row.set2 hZ _ _) rfl)) rfl ⟨rfl,?_⟩;repeat (refine za ?_ _ _ (by omega))
 exact hB
theorem quotient_any (a b:Wd) (ha:a.n<18446744073709551616) (hb:b.n<18446744073709551616) (hb0:b.n≠0) (ea : -1000<=a.e/\a.e<=1000) (eb : -1000<=b.e/\b.e<=1000) (w:World):Calls Tryz.prog 112 #[a.val,b.val] w fun r w'=>jG (jh a b) r/\Below w.heap.size w w':=by
 have hd:=divisor_any a.n b.n ha hb;have hg:Nat.gcd a.n b.n≠0:=fun h=>hb0 (Nat.gcd_eq_zero_iff.1 h).2;have h1:Nat.gcd a.n b.n<=b.n:=Nat.gcd_le_right _ (by omega);have h2:1<=b.n / Nat.gcd a.n b.n:=(Nat.le_div_iff_mul_le (by omega)).2 (by omega);have h3:b.n / Nat.gcd a.n b.n<=b.n:=Nat.div_le_self _ _;have h4:a.n / Nat.gcd a.n b.n<=a.n:=Nat.div_le_self _ _;unfold Wd.val;rw[show a.n % 18446744073709551616=a.n by omega,show b.n % 18446744073709551616=b.n by omega];exact quot_raw a.neg b.neg _ a.n _ b.n (Nat.gcd a.n b.n) (b.n / Nat.gcd a.n b.n) (a.n / Nat.gcd a.n b.n) a.e b.e (a.e-b.e) hd hg (by rw[zU,<-Int.natCast_ediv];exact Int.emod_eq_of_lt (Int.natCast_nonneg _) (by omega)) (by rw[zU,<-Int.natCast_ediv];exact Int.emod_eq_of_lt (Int.natCast_nonneg _) (by omega)) (by simp[IntKind.wrap,IntKind.bits,IntKind.signed];omega) h2 (by omega) (by omega) (by omega) w
def Y5 : Value := .tuple #[dv 0 0, .int .i64 1]
theorem yC {c e:Int} (hc:I64 c) (he:zo e):(zj c e).n<18446744073709551616/\(zj c e).n<zt/\(-1000<=(zj c e).e/\(zj c e).e<=1000)/\EOk (zj c e):=by
 have h:=xa c e he.1 he.2 hc.1 hc.2;have h1:=h.big;have h2:=h.lo;have h3:=h.hi;refine⟨by omega,by unfold zt;omega,⟨by omega,by omega⟩,⟨by omega,by omega⟩⟩
def jV (e e2 : Int) (o : Option Wd) : Value := if (-18 ≤ e ∧ e ≤ 18) ∧ (-18 ≤ e2 ∧ e2 ≤ 18) then yf (yp o) else Y5
theorem Zc (e e2:Int) (o:Option Wd):∃p q v,jV e e2 o=.tuple #[.agg #[.int .i64 p,.int .i64 q],.int .i64 v]:=by
 unfold jV;split
 ·exact yK _
 ·exact⟨0,0,1,rfl⟩
theorem add_any (c e c2 e2:Int) (hc:I64 c) (hc2:I64 c2) (w:World):Calls Tryz.prog 64 #[dv c e,dv c2 e2] w fun r w'=>r=.returned (jV e e2 (qj (zj c e) (zj c2 e2)))/\Below w.heap.size w w':=by
 obtain⟨p,q,v,hv⟩:=Zc e e2 (qj (zj c e) (zj c2 e2));rw[hv];refine op_9 c e c2 e2 p q v (fun w => ?_) w;rw[<-hv];unfold jV;by_cases he:zo e
 ·by_cases he2:zo e2
  ·rw[if_pos ⟨he,he2⟩];obtain⟨a1,a2,a3,a4⟩:=yC hc he;obtain⟨b1,b2,b3,b4⟩:=yC hc2 he2;exact kf 105 (by simp) c e c2 e2 _ hc he hc2 he2 (fun w=>X2 _ _ a2 b2 a4 b4 w) w
  ·rw[if_neg (fun h=>he2 h.2)];exact jj 105 c e c2 e2 hc he he2 w
 ·rw[if_neg (fun h=>he h.1)];exact jk 105 c e c2 e2 he w
theorem sub_any (c e c2 e2:Int) (hc:I64 c) (hc2:I64 c2) (w:World):Calls Tryz.prog 65 #[dv c e,dv c2 e2] w fun r w'=>r=.returned (jV e e2 (qj (zj c e) (qw (zj c2 e2))))/\Below w.heap.size w w':=by
 obtain⟨p,q,v,hv⟩:=Zc e e2 (qj (zj c e) (qw (zj c2 e2)));rw[hv];refine op_11 c e c2 e2 p q v (fun w => ?_) w;rw[<-hv];unfold jV;by_cases he:zo e
 ·by_cases he2:zo e2
  ·rw[if_pos ⟨he,he2⟩];obtain⟨a1,a2,a3,a4⟩:=yC hc he;obtain⟨b1,b2,b3,b4⟩:=yC hc2 he2;exact kf 109 (by simp) c e c2 e2 _ hc he hc2 he2 (fun w=>less_any _ _ a2 b2 a4 b4 w) w
  ·rw[if_neg (fun h=>he2 h.2)];exact jj 109 c e c2 e2 hc he he2 w
 ·rw[if_neg (fun h=>he h.1)];exact jk 109 c e c2 e2 he w
theorem mul_any (c e c2 e2:Int) (hc:I64 c) (hc2:I64 c2) (w:World):Calls Tryz.prog 66 #[dv c e,dv c2 e2] w fun r w'=>r=.returned (jV e e2 (some (jt (zj c e) (zj c2 e2))))/\Below w.heap.size w w':=by
 obtain⟨p,q,v,hv⟩:=Zc e e2 (some (jt (zj c e) (zj c2 e2)));rw[hv];refine op_15 c e c2 e2 p q v (fun w => ?_) w;rw[<-hv];unfold jV;by_cases he:zo e
 ·by_cases he2:zo e2
  ·rw[if_pos ⟨he,he2⟩];obtain⟨a1,a2,a3,a4⟩:=yC hc he;obtain⟨b1,b2,b3,b4⟩:=yC hc2 he2;exact kf 110 (by simp) c e c2 e2 _ hc he hc2 he2 (fun w=>product_any _ _ a1 b1 a3 b3 w) w
  ·rw[if_neg (fun h=>he2 h.2)];exact jj 110 c e c2 e2 hc he he2 w
 ·rw[if_neg (fun h=>he h.1)];exact jk 110 c e c2 e2 he w
theorem ZA (c e:Int):(zj c e).n=0↔c=0:=by
 unfold zj zH yF;by_cases h:c=0
 ·subst h;simp
 ·rw[if_neg (by simp;omega)];obtain⟨k,a1,a2,a3,a4,a5⟩:=yj c.natAbs e (by omega);exact⟨fun h0=>absurd h0 a5,fun h0=>absurd h0 h⟩
def divV : Value := .tuple #[dv 0 0, .int .i64 31]
theorem div_any (c e c2 e2:Int) (hc:I64 c) (hc2:I64 c2) (h0:c2≠0) (w:World):Calls Tryz.prog 67 #[dv c e,dv c2 e2] w fun r w'=>r=.returned (jV e e2 (jh (zj c e) (zj c2 e2)))/\Below w.heap.size w w':=by
 obtain⟨p,q,v,hv⟩:=Zc e e2 (jh (zj c e) (zj c2 e2));rw[hv];refine XK c e c2 e2 p q v (fun w => ?_) w;rw[<-hv];unfold jV;by_cases he:zo e
 ·by_cases he2:zo e2
  ·rw[if_pos ⟨he,he2⟩];obtain⟨a1,a2,a3,a4⟩:=yC hc he;obtain⟨b1,b2,b3,b4⟩:=yC hc2 he2;have hz:(zj c2 e2).n≠0:=fun h=>h0 ((ZA c2 e2).1 h);exact divided_ok47 c e c2 e2 _ hc he hc2 he2 hz (fun w=>quotient_any _ _ a1 b1 hz a3 b3 w) w
  ·rw[if_neg (fun h=>he2 h.2)];exact divided_bad2 112 c e c2 e2 hc he he2 w
 ·rw[if_neg (fun h=>he h.1)];exact divided_bad1 112 c e c2 e2 he w
theorem div_zero (c e e2:Int) (hc:I64 c) (he:zo e) (he2:zo e2) (w:World):Calls Tryz.prog 67 #[dv c e,dv 0 e2] w fun r w'=>r=.returned divV∧Below w.heap.size w w':=XK c e 0 e2 0 0 31 (fun w=>divided_zero 112 c e 0 e2 hc he ⟨by omega,by omega⟩ he2 ((ZA 0 e2).2 rfl) w) w
theorem quot_found (Z : Nat) (E : Int) (hZ : Z ≤ 9223372036854775808) : ∀ (b n : Nat) (e : Int) (s t : Nat), 1 ≤ b → b < 18446744073709551616 → Nat.Coprime n b → n * 10 ^ s = Z * b * 10 ^ t → e - s = E - t →
    ∃ m f, yv b n e = some (m, f) ∧ ∃ s' t' : Nat, m * 10 ^ s' = Z * 10 ^ t' ∧ f - s' = E - t' := by
  intro b
  induction b using Nat.strongRecOn with
  | ind b ih =>
    intro n e s t hb1 hb2 hc hv he
    by_cases h1 : b ≤ 1
    · obtain rfl : b = 1 := by omega
      refine ⟨n, e, by rw [yv.eq_def, if_pos h1], s, t, by rw [hv, Nat.mul_one], he⟩
    · -- n is small, and b divides a power of ten
      have hst : t < s := by
        apply Nat.lt_of_not_le
        intro hle
        have hp := yx s
        have h2 : n = Z * b * 10 ^ (t - s) := by
          apply Nat.eq_of_mul_eq_mul_right hp
          rw [hv, Nat.mul_assoc (Z * b), ← Nat.pow_add]
          congr 2; omega
        have h3 : b ∣ n := ⟨Z * 10 ^ (t - s), by rw [h2, Nat.mul_comm Z b, Nat.mul_assoc]⟩
        have h4 : Nat.gcd n b = b := Nat.gcd_eq_right h3
        have h5 : Nat.gcd n b = 1 := hc
        omega
      have hv2 : n * 10 ^ (s - t) = Z * b := by
        have hp := yx t
        apply Nat.eq_of_mul_eq_mul_right hp
        rw [← hv, Nat.mul_assoc, ← Nat.pow_add]
        congr 2; omega
      have hn : n * 10 ≤ Z * b := by
        rw [← hv2]
        apply Nat.mul_le_mul_left
        have := Nat.pow_le_pow_right (n := 10) (i := 1) (j := s - t) (by omega) (by omega)
        simpa using this
      have hZb : Z * b ≤ 9223372036854775808 * 18446744073709551616 := Nat.mul_le_mul hZ (by omega)
      have hbd : b ∣ 10 ^ (s - t) := by
        have : b ∣ n * 10 ^ (s - t) := ⟨Z, by rw [hv2, Nat.mul_comm]⟩
        exact Nat.Coprime.dvd_of_dvd_mul_left (Nat.Coprime.symm hc) this
      by_cases h10 : b % 10 = 0
      · obtain ⟨b1, rfl⟩ : ∃ b1, b = 10 * b1 := ⟨b / 10, by omega⟩
        have hc1 : Nat.Coprime n b1 := Nat.Coprime.coprime_dvd_right ⟨10, by rw [Nat.mul_comm]⟩ hc
        obtain ⟨m, f, q1, s', t', q2, q3⟩ := ih b1 (by omega) n (e - 1) s (t + 1) (by omega) (by omega) hc1 (by rw [hv, Nat.pow_succ]; simp [Nat.mul_comm, Nat.mul_assoc]) (by omega)
        refine ⟨m, f, ?_, s', t', q2, q3⟩
        rw [yv.eq_def, if_neg h1, if_pos h10, show 10 * b1 / 10 = b1 by omega, q1]
      · by_cases h2 : b % 2 = 0
        · obtain ⟨b1, rfl⟩ : ∃ b1, b = 2 * b1 := ⟨b / 2, by omega⟩
          have hc1 : Nat.Coprime n b1 := Nat.Coprime.coprime_dvd_right ⟨2, by rw [Nat.mul_comm]⟩ hc
          have h5 : Nat.Coprime 5 b1 := by
            have : Nat.gcd 5 b1 ∣ 5 := Nat.gcd_dvd_left _ _
            have hle : Nat.gcd 5 b1 ≤ 5 := Nat.le_of_dvd (by omega) this
            have hd : Nat.gcd 5 b1 ∣ b1 := Nat.gcd_dvd_right _ _
            generalize hgg : Nat.gcd 5 b1 = g at *
            have : g = 0 ∨ g = 1 ∨ g = 2 ∨ g = 3 ∨ g = 4 ∨ g = 5 := by omega
            rcases this with rfl | rfl | rfl | rfl | rfl | rfl
            · omega
            · exact hgg
            · omega
            · omega
            · omega
            · obtain ⟨k, hk⟩ := hd; omega
          have hfit : n * 5 < zt := by unfold zt; omega
          obtain ⟨m, f, q1, s', t', q2, q3⟩ := ih b1 (by omega) (n * 5) (e - 1) s (t + 1) (by omega) (by omega) (Nat.Coprime.mul_left hc1 h5) (by
            rw [Nat.pow_succ, show n * 5 * 10 ^ s = n * 10 ^ s * 5 by rw [Nat.mul_assoc, Nat.mul_comm 5, ← Nat.mul_assoc], hv]
            rw [show Z * (2 * b1) * 10 ^ t * 5 = Z * b1 * (10 ^ t * 10) by
              rw [Nat.mul_assoc, Nat.mul_assoc, Nat.mul_assoc, Nat.mul_assoc, Nat.mul_left_comm 2, Nat.mul_left_comm 2]]) (by omega)
          refine ⟨m, f, ?_, s', t', q2, q3⟩
          rw [yv.eq_def, if_neg h1, if_neg h10, if_pos h2, if_pos hfit, show 2 * b1 / 2 = b1 by omega, q1]
        · by_cases h5 : b % 5 = 0
          · obtain ⟨b1, rfl⟩ : ∃ b1, b = 5 * b1 := ⟨b / 5, by omega⟩
            have hc1 : Nat.Coprime n b1 := Nat.Coprime.coprime_dvd_right ⟨5, by rw [Nat.mul_comm]⟩ hc
            have h22 : Nat.Coprime 2 b1 := by
              have hle : Nat.gcd 2 b1 ≤ 2 := Nat.le_of_dvd (by omega) (Nat.gcd_dvd_left _ _)
              have hd : Nat.gcd 2 b1 ∣ b1 := Nat.gcd_dvd_right _ _
              have hp : 0 < Nat.gcd 2 b1 := Nat.gcd_pos_of_pos_left _ (by omega)
              generalize hgg : Nat.gcd 2 b1 = g at *
              have : g = 1 ∨ g = 2 := by omega
              rcases this with rfl | rfl
              · exact hgg
              · obtain ⟨k, hk⟩ := hd; omega
            have hfit : n * 2 < zt := by unfold zt; omega
            obtain ⟨m, f, q1, s', t', q2, q3⟩ := ih b1 (by omega) (n * 2) (e - 1) s (t + 1) (by omega) (by omega) (Nat.Coprime.mul_left hc1 h22) (by
              rw [Nat.pow_succ, show n * 2 * 10 ^ s = n * 10 ^ s * 2 by rw [Nat.mul_assoc, Nat.mul_comm 2, ← Nat.mul_assoc], hv]
              rw [show Z * (5 * b1) * 10 ^ t * 2 = Z * b1 * (10 ^ t * 10) by
                rw [Nat.mul_assoc, Nat.mul_assoc, Nat.mul_assoc, Nat.mul_assoc, Nat.mul_left_comm 5, Nat.mul_left_comm 5]]) (by omega)
            refine ⟨m, f, ?_, s', t', q2, q3⟩
            rw [yv.eq_def, if_neg h1, if_neg h10, if_neg h2, if_pos h5, if_pos hfit, show 5 * b1 / 5 = b1 by omega, q1]
          · exfalso
            have hc10 : Nat.Coprime b 10 := by
              have hd : Nat.gcd b 10 ∣ 10 := Nat.gcd_dvd_right _ _
              have hdb : Nat.gcd b 10 ∣ b := Nat.gcd_dvd_left _ _
              have hle : Nat.gcd b 10 ≤ 10 := Nat.le_of_dvd (by omega) hd
              generalize hgg : Nat.gcd b 10 = g at *
              obtain ⟨k, hk⟩ := hdb
              have : g = 0 ∨ g = 1 ∨ g = 2 ∨ g = 3 ∨ g = 4 ∨ g = 5 ∨ g = 6 ∨ g = 7 ∨ g = 8 ∨ g = 9 ∨ g = 10 := by omega
              rcases this with rfl | rfl | rfl | rfl | rfl | rfl | rfl | rfl | rfl | rfl | rfl
              · omega
              · exact hgg
              all_goals omega
            have hcp : Nat.Coprime b (10 ^ (s - t)) := Nat.Coprime.pow_right _ hc10
            have hg : Nat.gcd b (10 ^ (s - t)) = b := Nat.gcd_eq_left hbd
            have hg1 : Nat.gcd b (10 ^ (s - t)) = 1 := hcp
            omega
set_option maxHeartbeats 800000
theorem size_f1 (an bn:Bool) (ah al bh bl:Nat) (ae be:Int) (hla:∀w,Calls Tryz.prog 145 #[wv an ah al ae,.int .i64 be] w fun r w'=>r=.returned (.tuple #[.agg #[.bool false,.int .u64 0,.int .u64 0,.int .i64 0],.bool false])/\Below w.heap.size w w') (w:World):Calls Tryz.prog 125 #[wv an ah al ae,wv bn bh bl be] w fun r w'=>r=.returned (.int .i64 1)/\Below w.heap.size w w':=by
 unfold wv at *;go_enter Tryz.func125,Tryz.ntmps125;go_wp2_with fail;refine(hla _).mono ?_;rintro _ w1 ⟨rfl,h1⟩;obtain⟨hA,hC,hB⟩:=zN w w1 _ _ _ _ h1;obtain⟨a0,a1,a2,a3⟩:=hA.four;obtain⟨b0,b1,b2,b3⟩:=hC.four;have z1:=hA.frozen;have z2:=hC.frozen;clear h1 hla;have hA:=hA.set4 (.bool false) (.int .u64 0) (.int .u64 0) (.int .i64 0);have hC:=hC.off4 (B':=w.heap.size) (by omega) (.bool false) (.int .u64 0) (.int .u64 0) (.int .i64 0);have hB:=zx hB (B':=w.heap.size) (by omega) (.bool false) (.int .u64 0) (.int .u64 0) (.int .i64 0);go_wp2;go_ret;exact⟨rfl,hB⟩
theorem size_f2 (an bn:Bool) (ah al bh bl:Nat) (ae be:Int) (sn:Bool) (sh sl:Nat) (se:Int) (hla:∀w,Calls Tryz.prog 145 #[wv an ah al ae,.int .i64 be] w fun r w'=>r=.returned (.tuple #[wv sn sh sl se,.bool true])/\Below w.heap.size w w') (hlb:∀w,Calls Tryz.prog 145 #[wv bn bh bl be,.int .i64 se] w fun r w'=>r=.returned (.tuple #[.agg #[.bool false,.int .u64 0,.int .u64 0,.int .i64 0],.bool false])/\Below w.heap.size w w') (w:World):Calls Tryz.prog 125 #[wv an ah al ae,wv bn bh bl be] w fun r w'=>r=.returned (.int .i64 (-1))/\Below w.heap.size w w':=by
 unfold wv at *;go_enter Tryz.func125,Tryz.ntmps125;go_wp2_with fail;refine(hla _).mono ?_;rintro _ w1 ⟨rfl,h1⟩;obtain⟨hA,hC,hB⟩:=zN w w1 _ _ _ _ h1;obtain⟨a0,a1,a2,a3⟩:=hA.four;obtain⟨b0,b1,b2,b3⟩:=hC.four;have z1:=hA.frozen;have z2:=hC.frozen;clear h1 hla;have hA:=hA.set4 (.bool sn) (.int .u64 (sh:Int)) (.int .u64 (sl:Int)) (.int .i64 se);have hC:=hC.off4 (B':=w.heap.size) (by omega) (.bool sn) (.int .u64 (sh:Int)) (.int .u64 (sl:Int)) (.int .i64 se);have hB:=zx hB (B':=w.heap.size) (by omega) (.bool sn) (.int .u64 (sh:Int)) (.int .u64 (sl:Int)) (.int .i64 se);go_wp2_with fail;refine(hlb _).mono ?_;rintro _ w2 ⟨rfl,h2⟩;clear a0 a1 a2 a3 b0 b1 b2 b3 z1 z2;have hA:=hA.below h2 hA.lt;have hC:=hC.below h2 hC.lt;have hB:=hB.trans (h2.mono hB.size);obtain⟨a0,a1,a2,a3⟩:=hA.four;obtain⟨b0,b1,b2,b3⟩:=hC.four;have z1:=hA.frozen;have z2:=hC.frozen;clear h2 hlb;have hC:=hC.set4 (.bool false) (.int .u64 0) (.int .u64 0) (.int .i64 0);have hA:=hA.off4 (B':=w.heap.size+1) (by omega) (.bool false) (.int .u64 0) (.int .u64 0) (.int .i64 0);have hB:=zx hB (B':=w.heap.size+1) (by omega) (.bool false) (.int .u64 0) (.int .u64 0) (.int .i64 0);go_wp2;go_ret;exact⟨rfl,hB⟩
theorem size_ok (an bn:Bool) (ah al bh bl:Nat) (ae be:Int) (sn tn:Bool) (sh sl th tl:Nat) (se te q:Int) (hla:∀w,Calls Tryz.prog 145 #[wv an ah al ae,.int .i64 be] w fun r w'=>r=.returned (.tuple #[wv sn sh sl se,.bool true])/\Below w.heap.size w w') (hlb:∀w,Calls Tryz.prog 145 #[wv bn bh bl be,.int .i64 se] w fun r w'=>r=.returned (.tuple #[wv tn th tl te,.bool true])/\Below w.heap.size w w') (hk:∀w,Calls Tryz.prog 156 #[wv sn sh sl se,wv tn th tl te] w fun r w'=>r=.returned (.int .i64 q)/\Below w.heap.size w w') (w:World):Calls Tryz.prog 125 #[wv an ah al ae,wv bn bh bl be] w fun r w'=>r=.returned (.int .i64 q)/\Below w.heap.size w w':=by
 unfold wv at *;go_enter Tryz.func125,Tryz.ntmps125;go_wp2_with fail;refine(hla _).mono ?_;rintro _ w1 ⟨rfl,h1⟩;obtain⟨hA,hC,hB⟩:=zN w w1 _ _ _ _ h1;obtain⟨a0,a1,a2,a3⟩:=hA.four;obtain⟨b0,b1,b2,b3⟩:=hC.four;have z1:=hA.frozen;have z2:=hC.frozen;clear h1 hla;have hA:=hA.set4 (.bool sn) (.int .u64 (sh:Int)) (.int .u64 (sl:Int)) (.int .i64 se);have hC:=hC.off4 (B':=w.heap.size) (by omega) (.bool sn) (.int .u64 (sh:Int)) (.int .u64 (sl:Int)) (.int .i64 se);have hB:=zx hB (B':=w.heap.size) (by omega) (.bool sn) (.int .u64 (sh:Int)) (.int .u64 (sl:Int)) (.int .i64 se);go_wp2_with fail;refine(hlb _).mono ?_;rintro _ w2 ⟨rfl,h2⟩;clear a0 a1 a2 a3 b0 b1 b2 b3 z1 z2;have hA:=hA.below h2 hA.lt;have hC:=hC.below h2 hC.lt;have hB:=hB.trans (h2.mono hB.size);obtain⟨a0,a1,a2,a3⟩:=hA.four;obtain⟨b0,b1,b2,b3⟩:=hC.four;have z1:=hA.frozen;have z2:=hC.frozen;clear h2 hlb;have hC:=hC.set4 (.bool tn) (.int .u64 (th:Int)) (.int .u64 (tl:Int)) (.int .i64 te);have hA:=hA.off4 (B':=w.heap.size+1) (by omega) (.bool tn) (.int .u64 (th:Int)) (.int .u64 (tl:Int)) (.int .i64 te);have hB:=zx hB (B':=w.heap.size+1) (by omega) (.bool tn) (.int .u64 (th:Int)) (.int .u64 (tl:Int)) (.int .i64 te);go_wp2_with fail;refine(hk _).mono ?_;rintro _ w3 ⟨rfl,h3⟩;go_wp2;go_ret;exact⟨rfl,hB.trans (h3.mono hB.size)⟩
theorem size_any (a b:Wd) (ha:a.n<zt) (hb:b.n<zt) (ea:EOk a) (eb:EOk b) (w:World):Calls Tryz.prog 125 #[a.val,b.val] w fun r w'=>r=.returned (.int .i64 (Zk a b))/\Below w.heap.size w w':=by
 unfold Zk;rcases Zt a b.e ha ea eb.1 with ⟨hl,hla⟩|⟨a',hl,hla⟩
 ·rw[hl];exact size_f1 a.neg b.neg _ _ _ _ a.e b.e hla w
 ·rw[hl];simp only;obtain⟨p1,p2,p3,p4,p5⟩:=ZU hl ha;have ea':EOk a':=by unfold EOk at *;omega
  rcases Zt b a'.e hb eb ea'.1 with ⟨hl2,hlb⟩|⟨b',hl2,hlb⟩
  ·rw[hl2];exact size_f2 a.neg b.neg _ _ _ _ a.e b.e a'.neg _ _ a'.e hla hlb w
  ·rw[hl2];simp only;exact size_ok a.neg b.neg _ _ _ _ a.e b.e a'.neg b'.neg _ _ _ _ a'.e b'.e _ hla hlb (bySize_any a' b') w
theorem Xu (x:Wd) (w:World):Calls Tryz.prog 100 #[x.val] w fun r w'=>r=.returned (.int .i64 (sgW x))/\Below w.heap.size w w':=by
 refine(sign_any x.neg (x.n / 18446744073709551616) (x.n % 18446744073709551616) x.e w).mono ?_;rintro r w' ⟨rfl,hB⟩;refine⟨?_,hB⟩;unfold sgW;have:(x.n / 18446744073709551616=0/\x.n % 18446744073709551616=0)↔x.n=0:=by omega
 simp only[this]
theorem Xw (x:Wd) : -1≤sgW x∧sgW x≤1:=by unfold sgW;split;omega;split<;>omega
theorem sizeW_bd (a b:Wd) : -1<=Zk a b/\Zk a b<=1:=by
 unfold Zk cN;split
 ·omega
 ·split
  ·omega
  ·repeat' split
   all_goals omega
theorem cmp_ok (c e c2 e2:Int) (hc:I64 c) (he:zo e) (hc2:I64 c2) (he2:zo e2) (w:World):Calls Tryz.prog 79 #[dv c e,dv c2 e2] w fun r w'=>r=.returned (.int .i64 (cmpW (zj c e) (zj c2 e2)))/\Below w.heap.size w w':=by
 have hT:=fun K w (hK:Row w K 23 #[.int .i64 c,.int .i64 e,.int .i64 c2,.int .i64 e2])=>Yr c e c2 e2 K w hc he hc2 he2 hK;have hs1:=Xu (zj c e);have hs2:=Xu (zj c2 e2);obtain⟨q1,q2,q3,q4⟩:=yC hc he;obtain⟨p1,p2,p3,p4⟩:=yC hc2 he2;have hz:=size_any (zj c e) (zj c2 e2) q2 p2 q4 p4;have b1:=Xw (zj c e);have b2:=Xw (zj c2 e2);have b3:=sizeW_bd (zj c e) (zj c2 e2);unfold cmpW at *;simp only[Wd.val_eq] at *;obtain⟨y0,y1,y2,y3,hy⟩:∃y0 y1 y2 y3,(zj c e).cells=#[y0,y1,y2,y3]:=⟨_,_,_,_,rfl⟩;obtain⟨z0,z1,z2,z3,hz'⟩:∃y0 y1 y2 y3,(zj c2 e2).cells=#[y0,y1,y2,y3]:=⟨_,_,_,_,rfl⟩;rw[hy] at hs1 hz;rw[hz'] at hs2 hz;simp only[hy,hz'] at hT;generalize sgW (zj c e)=s1 at *;generalize sgW (zj c2 e2)=s2 at *;generalize Zk (zj c e) (zj c2 e2)=q at *;clear hc he hc2 he2 hy hz' q1 q2 q3 q4 p1 p2 p3 p4;by_cases hne:s1=s2
 ·subst hne;have HV:Hid ((if s1≠s1 then (if s1<s1 then -1 else 1) else s1*q)=s1*q):=if_neg (by simp);rw[HV.out];have fm:Hid (wrap64 (s1*q)=s1*q):=by
   show _=_;have:s1 = -1\/s1=0\/s1=1:=by omega
   rcases this with rfl|rfl|rfl<;>(unfold wrap64;omega)
  have fm2:Hid (IntKind.i64.wrap (s1*q)=s1*q):=by
   show _=_;have:s1 = -1\/s1=0\/s1=1:=by omega
   have hd:s1*q = -q\/s1*q=0\/s1*q=q:=by rcases this with rfl|rfl|rfl<;>omega
   generalize s1*q=m at hd;simp[IntKind.wrap,IntKind.bits,IntKind.signed];omega
  clear b1 b2 b3;unfold dv;go_enter Tryz.func79,Tryz.ntmps79;go_wp2_with fail;obtain⟨_,_,hK,_⟩:=zw w _ _ _ _ 23 23 23 (Below.refl _ (((w.alloc (.cells #[.int .i64 c,.int .i64 e] 23)).alloc (.cells #[.int .i64 c2,.int .i64 e2] 23)).alloc (.cells #[.int .i64 c,.int .i64 e,.int .i64 c2,.int .i64 e2] 23)));refine(hT _ _ hK).mono ?_;rintro _ W ⟨h1,G,hG,rfl,hR⟩;obtain⟨_,_,_,hB⟩:=zw w W _ _ _ _ _ _ h1;have hR:Row W G 85 #[y0,y1,y2,y3,z0,z1,z2,z3]:=hR;clear h1 hG hK hT;obtain⟨g0,g1,g2,g3,g4,g5,g6,g7⟩:=hR.eight;go_wp2_with fail;refine(hs1 _).mono ?_;rintro _ W1 ⟨rfl,h1⟩;have hR:=hR.below h1 hR.lt;have hB:=hB.trans (h1.mono hB.size);clear h1 hs1 g0 g1 g2 g3 g4 g5 g6 g7;obtain⟨g0,g1,g2,g3,g4,g5,g6,g7⟩:=hR.eight;go_wp2_with fail;refine(hs2 _).mono ?_;rintro _ W2 ⟨rfl,h1⟩;have hR:=hR.below h1 hR.lt;have hB:=hB.trans (h1.mono hB.size);clear h1 g0 g1 g2 g3 g4 g5 g6 g7;obtain⟨g0,g1,g2,g3,g4,g5,g6,g7⟩:=hR.eight;go_wp2_with fail;have hS0:Below W2.heap.size W2 W2.drew:=(Below.refl _ W2).drew;refine Ib W2 8 10 ?_;refine Oh 0 hS0 ?_;refine Oh 1 hS0 ?_;refine Oh 2 hS0 ?_ (v:=.pointer (some ⟨G,0,none⟩));refine Oh 3 hS0 ?_ (v:=.agg #[y0,y1,y2,y3]) (y:=by intro wx hx;obtain⟨g0,g1,g2,g3,g4,g5,g6,g7⟩:=(hR.below hx hR.lt).eight;go_simp<;>rfl);refine Oh 4 hS0 ?_;refine Oh 5 hS0 ?_ (v:=.pointer (some ⟨G,4,none⟩));refine Oh 6 hS0 ?_ (v:=.agg #[z0,z1,z2,z3]) (y:=by intro wx hx;obtain⟨g0,g1,g2,g3,g4,g5,g6,g7⟩:=(hR.below hx hR.lt).eight;go_simp<;>rfl);refine Oo 7 ?_;go_wp2_with fail;refine(hz _).mono ?_;rintro _ W3 ⟨rfl,h3⟩;have hS1:=hS0.trans h3;go_wp2_with fail;refine⟨fun _=>hS1,?_⟩;refine Oo 8 ?_;go_wp2_with fail;refine⟨(fun h=>by simp at h),?_⟩;refine Oo 9 ?_;go_wp2_with fail;refine⟨(fun h=>by simp at h),?_⟩;refine Od ?_;go_wp2;first|rw[fm.out]|rw[fm2.out]|skip
  go_ret;exact⟨rfl,hB.trans (hS1.mono hB.size)⟩
 ·have HV:Hid ((if s1≠s2 then (if s1<s2 then -1 else 1) else s1*q)=Lib.compareInt s1 s2):=by
   show _=_;rw[if_pos hne];unfold Lib.compareInt;split
   ·rfl
   ·rw[if_pos (by omega)]
  rw[HV.out];have hn1:(s1 != s2)=true:=by simpa using hne
  have hcm:=Tryz.cmp_Compare_int s1 s2;clear b1 b2 b3 hne hz;unfold dv;go_enter Tryz.func79,Tryz.ntmps79;go_wp2_with fail;obtain⟨_,_,hK,_⟩:=zw w _ _ _ _ 23 23 23 (Below.refl _ (((w.alloc (.cells #[.int .i64 c,.int .i64 e] 23)).alloc (.cells #[.int .i64 c2,.int .i64 e2] 23)).alloc (.cells #[.int .i64 c,.int .i64 e,.int .i64 c2,.int .i64 e2] 23)));refine(hT _ _ hK).mono ?_;rintro _ W ⟨h1,G,hG,rfl,hR⟩;obtain⟨_,_,_,hB⟩:=zw w W _ _ _ _ _ _ h1;have hR:Row W G 85 #[y0,y1,y2,y3,z0,z1,z2,z3]:=hR;clear h1 hG hK hT;obtain⟨g0,g1,g2,g3,g4,g5,g6,g7⟩:=hR.eight;go_wp2_with fail;refine(hs1 _).mono ?_;rintro _ W1 ⟨rfl,h1⟩;have hR:=hR.below h1 hR.lt;have hB:=hB.trans (h1.mono hB.size);clear h1 hs1 g0 g1 g2 g3 g4 g5 g6 g7;obtain⟨g0,g1,g2,g3,g4,g5,g6,g7⟩:=hR.eight;go_wp2_with fail;refine(hs2 _).mono ?_;rintro _ W2 ⟨rfl,h1⟩;have hR:=hR.below h1 hR.lt;have hB:=hB.trans (h1.mono hB.size);clear h1 g0 g1 g2 g3 g4 g5 g6 g7;obtain⟨g0,g1,g2,g3,g4,g5,g6,g7⟩:=hR.eight;go_wp2_with fail;refine(hs2 _).mono ?_;rintro _ W3 ⟨rfl,h1⟩;have hB:=hB.trans (h1.mono hB.size);go_wp2_with fail;refine(hcm _).mono ?_;rintro _ W4 ⟨rfl,hw4⟩;rw[hw4];go_wp2;go_ret;exact⟨rfl,hB⟩
set_option maxHeartbeats 4000000
def jO : Wd := ⟨false, 1, 0⟩
def kT (x y : Wd) : Option Wd := if y.n * x.n < zt then some ⟨y.neg != x.neg, y.n * x.n, y.e + x.e⟩ else none
def xk (x : Wd) : Nat → Option Wd
  | 0 => some jO
  | k + 1 => (xk x k).bind (kT x)
theorem YA (x : Wd) (k : Nat) (h : xk x k = none) : ∀ j, xk x (k + j) = none
  | 0 => h
  | j + 1 => by
    show (xk x (k + j)).bind (kT x) = none
    rw [YA x k h j]
    rfl
def PW (w W : World) (K : Nat) (x p : Array Value) : Prop := Row W w.heap.size 85 x ∧ Row W (w.heap.size + 1) 85 #[.bool false, .int .u64 0, .int .u64 0, .int .i64 0] ∧ Row W K 85 p ∧ w.heap.size + 1 < K ∧ Below w.heap.size w W
theorem PW.next {w W W':World} {K:Nat} {x p:Array Value} (h:PW w W K x p) (b:Below W.heap.size W W'):PW w W' K x p:=⟨h.1.below b h.1.lt,h.2.1.below b h.2.1.lt,h.2.2.1.below b h.2.2.1.lt,h.2.2.2.1,h.2.2.2.2.trans (b.mono h.2.2.2.2.size)⟩
theorem PW.put {w W:World} {K:Nat} {x:Array Value} {a b c d:Value} (h:PW w W K x #[a,b,c,d]) (a' b' c' d' n' e':Value):PW w ((((((W.setCell ⟨K,0,none⟩ a').setCell ⟨K,1,none⟩ b').setCell ⟨K,2,none⟩ c').setCell ⟨K,3,none⟩ d').setCell ⟨K,0,none⟩ n').setCell ⟨K,3,none⟩ e') K x #[n',b',c',e']:=by
 obtain⟨h1,h2,h3,h4,h5⟩:=h;have n1:w.heap.size≠K:=by omega
 have n2:w.heap.size+1≠K:=by omega
 exact⟨(((((h1.off 0 a' n1).off 1 b' n1).off 2 c' n1).off 3 d' n1).off 0 n' n1).off 3 e' n1,(((((h2.off 0 a' n2).off 1 b' n2).off 2 c' n2).off 3 d' n2).off 0 n' n2).off 3 e' n2,((h3.set4 a' b' c' d').set 0 n').set 3 e',h4,za (za (za (za (za (za h5 0 a' (by omega)) 1 b' (by omega)) 2 c' (by omega)) 3 d' (by omega)) 0 n' (by omega)) 3 e' (by omega)⟩
theorem power_ok (xn:Bool) (m:Nat) (xe:Int) (hm:m<18446744073709551616) (he : -1000<=xe/\xe<=1000) (n:Nat) (hn:n<=64) (w:World):Calls Tryz.prog 116 #[.agg #[.bool xn,.int .u64 0,.int .u64 m,.int .i64 xe],.int .i64 (n:Int)] w fun r w'=>jG (xk ⟨xn,m,xe⟩ n) r/\Below w.heap.size w w':=by
 have HN:∀ V,Hid (Calls Tryz.prog 115 #[.int .i64 1,.int .i64 0] V fun r w'=>r=.returned (.agg #[.bool false,.int .u64 0,.int .u64 1,.int .i64 0])/\Below V.heap.size V w'):=fun V=>jP 1 0 (by decide) (by decide) V;have r0:=(Row.new w 85 #[.bool xn,.int .u64 0,.int .u64 m,.int .i64 xe]).alloc (.cells #[.bool false,.int .u64 0,.int .u64 0,.int .i64 0] 85);have r1:=Row.new1 w (.cells #[.bool xn,.int .u64 0,.int .u64 m,.int .i64 xe] 85) 85 #[.bool false,.int .u64 0,.int .u64 0,.int .i64 0];have b0:Below w.heap.size w ((w.alloc (.cells #[.bool xn,.int .u64 0,.int .u64 m,.int .i64 xe] 85)).alloc (.cells #[.bool false,.int .u64 0,.int .u64 0,.int .i64 0] 85)):=((Below.refl _ w).alloc (Nat.le_refl _) _).alloc (by simp) _;have hs0:((w.alloc (.cells #[.bool xn,.int .u64 0,.int .u64 m,.int .i64 xe] 85)).alloc (.cells #[.bool false,.int .u64 0,.int .u64 0,.int .i64 0] 85)).heap.size=w.heap.size+2:=by simp
 go_enter Tryz.func116,Tryz.ntmps116;go_upto_region 1 with fail
 generalize (w.alloc (.cells #[.bool xn,.int .u64 0,.int .u64 m,.int .i64 xe] 85)).alloc (.cells #[.bool false,.int .u64 0,.int .u64 0,.int .i64 0] 85)=W at *;have hW2:w.heap.size+1<W.heap.size:=by omega
 clear hs0;have hS:Below W.heap.size W W.drew:=(Below.refl _ W).drew;have ca:=fun wx (hx:Below W.heap.size W wx)=>(r0.below hx r0.lt).four;refine Ib W 6 7 ?_;refine Oh 1 hS ?_;refine Oh 2 hS ?_ (v:=.int .u64 0) (y:=by intro wx hx;obtain⟨z0,z1,z2,z3⟩:=ca wx hx;go_simp<;>rfl);refine Oh 3 hS ?_ (v:=.bool true) (y:=by intro wx hx;go_simp);refine zD 0 4 rfl rfl (by kernel_rfl) rfl rfl ?_ ?_
 ·go_wp2_with fail;refine Calls.mono (HN _).out ?_;rintro _ w1 ⟨rfl,b1⟩;have hS1:Below W.heap.size W w1:=hS.trans (b1.mono hS.size);go_wp2_with fail;refine⟨fun _=>hS1,?_⟩;refine Oo 4 ?_;go_wp2_with fail;refine⟨fun _=>hS1.alloc hS1.size _,?_⟩;refine Oo 5 ?_;go_wp2_with fail;refine⟨fun _=>hS1.alloc hS1.size _,?_⟩;refine Oo 6 ?_;go_wp2_with fail;refine⟨fun h=>absurd h (by decide),?_⟩;refine Od ?_;have hP:PW w (w1.alloc (.cells #[.bool false,.int .u64 0,.int .u64 1,.int .i64 0] 85)) w1.heap.size #[.bool xn,.int .u64 0,.int .u64 m,.int .i64 xe] jO.cells:=⟨(r0.below hS1 r0.lt).alloc _,(r1.below hS1 r1.lt).alloc _,Row.new w1 85 _,by have:=hS1.size;omega,(b0.trans (hS1.mono (by omega))).alloc (by have:=hS1.size;omega) _⟩;generalize w1.heap.size=K at *;generalize w1.alloc (.cells #[.bool false,.int .u64 0,.int .u64 1,.int .i64 0] 85)=W5 at *;clear hS ca hS1 b1 r0 r1 b0 HN;go_wp2_with fail;go_loopw [7,13] (fun v7 v13 wr=>∃(k:Nat) (f:Bool) (y:Wd),v7=.bool f/\v13=.int .i64 (k:Int)/\k<=n/\Hid (xk ⟨xn,m,xe⟩ k=if f then some y else none)/\y.n<zt/\(-1000*(k:Int)<=y.e/\y.e<=1000*(k:Int))/\Hid (PW w wr K #[.bool xn,.int .u64 0,.int .u64 m,.int .i64 xe] y.cells)) (fun _ v13 _=>(n-(intOf v13).toNat))
  case atStart=>exact⟨0,true,jO,rfl,rfl,Nat.zero_le _,rfl,by decide,by decide,hP⟩
  case round =>
   clear hP;obtain⟨k,f,⟨yg,q,ye⟩,rfl,rfl,hk,HK,hy,hye,HP⟩:=hrel;unfold Wd.cells at HP;simp only at HP hy hye;by_cases hlt:k<n
   ·cases f with
    | false =>
     have HPN:Hid (xk ⟨xn,m,xe⟩ n=none):=by have:=YA _ k HK.out (n-k);rwa [show k+(n-k)=n by omega] at this
     obtain⟨y0,y1,y2,y3⟩:=HP.out.2.1.four;have zf:=HP.out.2.1.frozen;have wl:=HP.out.2.1.lt;have hR:=Row.set4 HP.out.2.1 (.bool false) (.int .u64 0) (.int .u64 0) (.int .i64 0);have hB:=za (za (za (za HP.out.2.2.2.2 (B:=w.heap.size+1) 0 (.bool false) (by omega)) (B:=w.heap.size+1) 1 (.int .u64 0) (by omega)) (B:=w.heap.size+1) 2 (.int .u64 0) (by omega)) (B:=w.heap.size+1) 3 (.int .i64 0) (by omega);clear HK HP;go_wp2;refine bodyPost_ret (zd rfl (g:=w.heap.size+1) rfl rfl (zW hR rfl)) rfl ⟨⟨⟨false,0,0⟩,false,rfl,by decide,by decide,by decide,HPN.out⟩,hB⟩
    | true =>
     have HT:∀ V,Hid (Calls Tryz.prog 152 #[.agg #[.bool yg,.int .u64 ((q / 18446744073709551616:Nat):Int),.int .u64 ((q % 18446744073709551616:Nat):Int),.int .i64 ye],.int .u64 (m:Int)] V fun r w'=>r=.returned (qg (if q*m<zt then some ⟨yg,q*m,ye⟩ else none))/\Below V.heap.size V w'):=fun V=>Zf ⟨yg,q,ye⟩ m hy hm V;have HS:Hid (xk ⟨xn,m,xe⟩ (k+1)=if q*m<zt then some ⟨yg != xn,q*m,ye+xe⟩ else none):=by show (xk ⟨xn,m,xe⟩ k).bind (kT ⟨xn,m,xe⟩)=_;rw[HK.out];rfl
     have hw1:wrap64 (ye+xe)=ye+xe:=by unfold wrap64;omega
     have hw2:wrap64 (0+xe)=xe:=by unfold wrap64;omega
     generalize (q / 18446744073709551616:Nat)=a at *;generalize (q % 18446744073709551616:Nat)=b at *;obtain⟨y0,y1,y2,y3⟩:=HP.out.2.2.1.four;obtain⟨x0,x1,x2,x3⟩:=HP.out.1.four;have hKne:w.heap.size≠K:=by have:=HP.out.2.2.2.1;omega
     by_cases hfit:q*m<zt
     ·rw[if_pos hfit] at HS;simp only[if_pos hfit] at HT;have HT2:∀ V,Hid (Calls Tryz.prog 152 #[.agg #[.bool yg,.int .u64 (a:Int),.int .u64 (b:Int),.int .i64 ye],.int .u64 (m:Int)] V fun r w'=>r=.returned (.tuple #[.agg #[.bool yg,.int .u64 ((q*m / 18446744073709551616:Nat):Int),.int .u64 ((q*m % 18446744073709551616:Nat):Int),.int .i64 ye],.bool true])/\Below V.heap.size V w'):=HT;have HEND:Hid (∀ W,PW w W K #[.bool xn,.int .u64 0,.int .u64 m,.int .i64 xe] #[.bool (yg != xn),.int .u64 ((q*m / 18446744073709551616:Nat):Int),.int .u64 ((q*m % 18446744073709551616:Nat):Int),.int .i64 (ye+xe)]->PW w W K #[.bool xn,.int .u64 0,.int .u64 m,.int .i64 xe] (Wd.cells ⟨yg != xn,q*m,ye+xe⟩)):=fun W h=>h;generalize (q*m / 18446744073709551616:Nat)=c at *;generalize (q*m % 18446744073709551616:Nat)=d at *;clear HT HK;go_wp2_with fail;refine Calls.mono (HT2 _).out ?_;rintro _ w6 ⟨rfl,b6⟩;have h6:=HP.out.next b6
      clear y0 y1 y2 y3 x0 x1 x2 x3 HP b6 HT2;obtain⟨y0,y1,y2,y3⟩:=h6.2.2.1.four;obtain⟨x0,x1,x2,x3⟩:=h6.1.four;have zf:=h6.2.2.1.frozen;have wl:=h6.2.2.1.lt;go_wp2;exact⟨⟨k+1,true,⟨yg != xn,q*m,ye+xe⟩,rfl,by simp,by omega,HS,hfit,by simp only;omega,HEND.out _ (h6.put _ _ _ _ _ _)⟩,by simp[intOf];omega⟩
     ·rw[if_neg hfit] at HS;simp only[if_neg hfit] at HT;have HT2:∀ V,Hid (Calls Tryz.prog 152 #[.agg #[.bool yg,.int .u64 (a:Int),.int .u64 (b:Int),.int .i64 ye],.int .u64 (m:Int)] V fun r w'=>r=.returned (.tuple #[.agg #[.bool false,.int .u64 0,.int .u64 0,.int .i64 0],.bool false])/\Below V.heap.size V w'):=HT;clear HT HK;go_wp2_with fail;refine Calls.mono (HT2 _).out ?_;rintro _ w6 ⟨rfl,b6⟩;have h6:=HP.out.next b6
      clear y0 y1 y2 y3 x0 x1 x2 x3 HP b6 HT2;obtain⟨y0,y1,y2,y3⟩:=h6.2.2.1.four;obtain⟨x0,x1,x2,x3⟩:=h6.1.four;have zf:=h6.2.2.1.frozen;have wl:=h6.2.2.1.lt;have h7:=h6.put (.bool false) (.int .u64 0) (.int .u64 0) (.int .i64 0) (.bool xn) (.int .i64 xe);go_wp2;exact⟨⟨k+1,false,⟨xn,0,xe⟩,rfl,by simp,by omega,HS,by show 0<zt;decide,by simp only;omega,by rw[show Wd.cells ⟨xn,0,xe⟩=#[.bool xn,.int .u64 0,.int .u64 0,.int .i64 xe] by simp[Wd.cells]];exact h7⟩,by simp[intOf];omega⟩
   ·have hkn:k=n:=by omega
    subst hkn;have HWR:Hid (∀f',f'=f->jG (xk ⟨xn,m,xe⟩ k) (.returned (.tuple #[.agg #[.bool yg,.int .u64 ((q / 18446744073709551616:Nat):Int),.int .u64 ((q % 18446744073709551616:Nat):Int),.int .i64 ye],.bool f']))):=fun f' h=>by subst h;exact⟨⟨yg,q,ye⟩,f',rfl,hy,by simp only;omega,by simp only;omega,HK.out⟩
    clear HK;generalize (q / 18446744073709551616:Nat)=a at *;generalize (q % 18446744073709551616:Nat)=b at *;obtain⟨y0,y1,y2,y3⟩:=HP.out.2.1.four;obtain⟨x0,x1,x2,x3⟩:=HP.out.2.2.1.four;have zf:=HP.out.2.1.frozen;have wl:=HP.out.2.1.lt;have hR:=Row.set4 HP.out.2.1 (.bool yg) (.int .u64 (a:Int)) (.int .u64 (b:Int)) (.int .i64 ye);have hB:=za (za (za (za HP.out.2.2.2.2 (B:=w.heap.size+1) 0 (.bool yg) (by omega)) (B:=w.heap.size+1) 1 (.int .u64 (a:Int)) (by omega)) (B:=w.heap.size+1) 2 (.int .u64 (b:Int)) (by omega)) (B:=w.heap.size+1) 3 (.int .i64 ye) (by omega);clear HP;go_wp2;exact bodyPost_ret (zd (x:=.bool f) rfl (g:=w.heap.size+1) rfl rfl (zW hR rfl)) rfl ⟨HWR.out f rfl,hB⟩
 ·go_wp2_with fail;have hSa:Below W.heap.size W (W.drew.alloc (.cells #[.bool false,.int .u64 0,.int .u64 0,.int .i64 0] 85)):=hS.alloc hS.size _;have ka:Row (W.drew.alloc (.cells #[.bool false,.int .u64 0,.int .u64 0,.int .i64 0] 85)) W.heap.size 85 #[.bool false,.int .u64 0,.int .u64 0,.int .i64 0]:=Row.new W.drew 85 _;refine⟨fun _=>hSa,?_⟩;refine Oo 0 ?_;go_wp2_with fail;refine Calls.mono (HN _).out ?_;rintro _ w1 ⟨rfl,b1⟩;have hS1:Below W.heap.size W w1:=hSa.trans (b1.mono hSa.size);have kb:=ka.below b1 ka.lt;obtain⟨y0,y1,y2,y3⟩:=kb.four;have zf:=kb.frozen;have wl:=kb.lt;go_wp2_with fail;refine⟨fun _=>hS1,?_⟩;refine Oo 5 ?_;go_wp2_with fail;have hR5:=Row.set4 kb (.bool false) (.int .u64 0) (.int .u64 1) (.int .i64 0);have hn1:w.heap.size≠W.heap.size:=by omega
  have hn2:w.heap.size+1≠W.heap.size:=by omega
  have hB5:=za (za (za (za hS1 (B:=W.heap.size) 0 (.bool false) (Nat.le_refl _)) (B:=W.heap.size) 1 (.int .u64 0) (Nat.le_refl _)) (B:=W.heap.size) 2 (.int .u64 1) (Nat.le_refl _)) (B:=W.heap.size) 3 (.int .i64 0) (Nat.le_refl _);have hP:PW w ((((w1.setCell ⟨W.heap.size,0,none⟩ (.bool false)).setCell ⟨W.heap.size,1,none⟩ (.int .u64 0)).setCell ⟨W.heap.size,2,none⟩ (.int .u64 1)).setCell ⟨W.heap.size,3,none⟩ (.int .i64 0)) W.heap.size #[.bool xn,.int .u64 0,.int .u64 m,.int .i64 xe] jO.cells:=⟨r0.below hB5 r0.lt,r1.below hB5 r1.lt,hR5,by omega,b0.trans (hB5.mono (by omega))⟩;refine⟨fun _=>hB5,?_⟩;refine Oo 6 ?_;go_wp2_with fail;refine⟨fun h=>absurd h (by decide),?_⟩;refine Od ?_;clear hS ca hS1 b1 r0 r1 b0 HN hSa ka kb y0 y1 y2 y3 zf wl hR5 hn1 hn2 hB5;generalize W.heap.size=K at *;generalize ((((w1.setCell ⟨K,0,none⟩ (.bool false)).setCell ⟨K,1,none⟩ (.int .u64 0)).setCell ⟨K,2,none⟩ (.int .u64 1)).setCell ⟨K,3,none⟩ (.int .i64 0))=W5 at *;go_wp2_with fail;go_loopw [7,13] (fun v7 v13 wr=>∃(k:Nat) (f:Bool) (y:Wd),v7=.bool f/\v13=.int .i64 (k:Int)/\k<=n/\Hid (xk ⟨xn,m,xe⟩ k=if f then some y else none)/\y.n<zt/\(-1000*(k:Int)<=y.e/\y.e<=1000*(k:Int))/\Hid (PW w wr K #[.bool xn,.int .u64 0,.int .u64 m,.int .i64 xe] y.cells)) (fun _ v13 _=>(n-(intOf v13).toNat))
  case atStart=>exact⟨0,true,jO,rfl,rfl,Nat.zero_le _,rfl,by decide,by decide,hP⟩
  case round =>
   clear hP;obtain⟨k,f,⟨yg,q,ye⟩,rfl,rfl,hk,HK,hy,hye,HP⟩:=hrel;unfold Wd.cells at HP;simp only at HP hy hye;by_cases hlt:k<n
   ·cases f with
    | false =>
     have HPN:Hid (xk ⟨xn,m,xe⟩ n=none):=by have:=YA _ k HK.out (n-k);rwa [show k+(n-k)=n by omega] at this
     obtain⟨y0,y1,y2,y3⟩:=HP.out.2.1.four;have zf:=HP.out.2.1.frozen;have wl:=HP.out.2.1.lt;have hR:=Row.set4 HP.out.2.1 (.bool false) (.int .u64 0) (.int .u64 0) (.int .i64 0);have hB:=za (za (za (za HP.out.2.2.2.2 (B:=w.heap.size+1) 0 (.bool false) (by omega)) (B:=w.heap.size+1) 1 (.int .u64 0) (by omega)) (B:=w.heap.size+1) 2 (.int .u64 0) (by omega)) (B:=w.heap.size+1) 3 (.int .i64 0) (by omega);clear HK HP;go_wp2;refine bodyPost_ret (zd rfl (g:=w.heap.size+1) rfl rfl (zW hR rfl)) rfl ⟨⟨⟨false,0,0⟩,false,rfl,by decide,by decide,by decide,HPN.out⟩,hB⟩
    | true =>
     have HT:∀ V,Hid (Calls Tryz.prog 152 #[.agg #[.bool yg,.int .u64 ((q / 18446744073709551616:Nat):Int),.int .u64 ((q % 18446744073709551616:Nat):Int),.int .i64 ye],.int .u64 (m:Int)] V fun r w'=>r=.returned (qg (if q*m<zt then some ⟨yg,q*m,ye⟩ else none))/\Below V.heap.size V w'):=fun V=>Zf ⟨yg,q,ye⟩ m hy hm V;have HS:Hid (xk ⟨xn,m,xe⟩ (k+1)=if q*m<zt then some ⟨yg != xn,q*m,ye+xe⟩ else none):=by show (xk ⟨xn,m,xe⟩ k).bind (kT ⟨xn,m,xe⟩)=_;rw[HK.out];rfl
     have hw1:wrap64 (ye+xe)=ye+xe:=by unfold wrap64;omega
     have hw2:wrap64 (0+xe)=xe:=by unfold wrap64;omega
     generalize (q / 18446744073709551616:Nat)=a at *;generalize (q % 18446744073709551616:Nat)=b at *;obtain⟨y0,y1,y2,y3⟩:=HP.out.2.2.1.four;obtain⟨x0,x1,x2,x3⟩:=HP.out.1.four;have hKne:w.heap.size≠K:=by have:=HP.out.2.2.2.1;omega
     by_cases hfit:q*m<zt
     ·rw[if_pos hfit] at HS;simp only[if_pos hfit] at HT;have HT2:∀ V,Hid (Calls Tryz.prog 152 #[.agg #[.bool yg,.int .u64 (a:Int),.int .u64 (b:Int),.int .i64 ye],.int .u64 (m:Int)] V fun r w'=>r=.returned (.tuple #[.agg #[.bool yg,.int .u64 ((q*m / 18446744073709551616:Nat):Int),.int .u64 ((q*m % 18446744073709551616:Nat):Int),.int .i64 ye],.bool true])/\Below V.heap.size V w'):=HT;have HEND:Hid (∀ W,PW w W K #[.bool xn,.int .u64 0,.int .u64 m,.int .i64 xe] #[.bool (yg != xn),.int .u64 ((q*m / 18446744073709551616:Nat):Int),.int .u64 ((q*m % 18446744073709551616:Nat):Int),.int .i64 (ye+xe)]->PW w W K #[.bool xn,.int .u64 0,.int .u64 m,.int .i64 xe] (Wd.cells ⟨yg != xn,q*m,ye+xe⟩)):=fun W h=>h;generalize (q*m / 18446744073709551616:Nat)=c at *;generalize (q*m % 18446744073709551616:Nat)=d at *;clear HT HK;go_wp2_with fail;refine Calls.mono (HT2 _).out ?_;rintro _ w6 ⟨rfl,b6⟩;have h6:=HP.out.next b6
      clear y0 y1 y2 y3 x0 x1 x2 x3 HP b6 HT2;obtain⟨y0,y1,y2,y3⟩:=h6.2.2.1.four;obtain⟨x0,x1,x2,x3⟩:=h6.1.four;have zf:=h6.2.2.1.frozen;have wl:=h6.2.2.1.lt;go_wp2;exact⟨⟨k+1,true,⟨yg != xn,q*m,ye+xe⟩,rfl,by simp,by omega,HS,hfit,by simp only;omega,HEND.out _ (h6.put _ _ _ _ _ _)⟩,by simp[intOf];omega⟩
     ·rw[if_neg hfit] at HS;simp only[if_neg hfit] at HT;have HT2:∀ V,Hid (Calls Tryz.prog 152 #[.agg #[.bool yg,.int .u64 (a:Int),.int .u64 (b:Int),.int .i64 ye],.int .u64 (m:Int)] V fun r w'=>r=.returned (.tuple #[.agg #[.bool false,.int .u64 0,.int .u64 0,.int .i64 0],.bool false])/\Below V.heap.size V w'):=HT;clear HT HK;go_wp2_with fail;refine Calls.mono (HT2 _).out ?_;rintro _ w6 ⟨rfl,b6⟩;have h6:=HP.out.next b6
      clear y0 y1 y2 y3 x0 x1 x2 x3 HP b6 HT2;obtain⟨y0,y1,y2,y3⟩:=h6.2.2.1.four;obtain⟨x0,x1,x2,x3⟩:=h6.1.four;have zf:=h6.2.2.1.frozen;have wl:=h6.2.2.1.lt;have h7:=h6.put (.bool false) (.int .u64 0) (.int .u64 0) (.int .i64 0) (.bool xn) (.int .i64 xe);go_wp2;exact⟨⟨k+1,false,⟨xn,0,xe⟩,rfl,by simp,by omega,HS,by show 0<zt;decide,by simp only;omega,by rw[show Wd.cells ⟨xn,0,xe⟩=#[.bool xn,.int .u64 0,.int .u64 0,.int .i64 xe] by simp[Wd.cells]];exact h7⟩,by simp[intOf];omega⟩
   ·have hkn:k=n:=by omega
    subst hkn;have HWR:Hid (∀f',f'=f->jG (xk ⟨xn,m,xe⟩ k) (.returned (.tuple #[.agg #[.bool yg,.int .u64 ((q / 18446744073709551616:Nat):Int),.int .u64 ((q % 18446744073709551616:Nat):Int),.int .i64 ye],.bool f']))):=fun f' h=>by subst h;exact⟨⟨yg,q,ye⟩,f',rfl,hy,by simp only;omega,by simp only;omega,HK.out⟩
    clear HK;generalize (q / 18446744073709551616:Nat)=a at *;generalize (q % 18446744073709551616:Nat)=b at *;obtain⟨y0,y1,y2,y3⟩:=HP.out.2.1.four;obtain⟨x0,x1,x2,x3⟩:=HP.out.2.2.1.four;have zf:=HP.out.2.1.frozen;have wl:=HP.out.2.1.lt;have hR:=Row.set4 HP.out.2.1 (.bool yg) (.int .u64 (a:Int)) (.int .u64 (b:Int)) (.int .i64 ye);have hB:=za (za (za (za HP.out.2.2.2.2 (B:=w.heap.size+1) 0 (.bool yg) (by omega)) (B:=w.heap.size+1) 1 (.int .u64 (a:Int)) (by omega)) (B:=w.heap.size+1) 2 (.int .u64 (b:Int)) (by omega)) (B:=w.heap.size+1) 3 (.int .i64 ye) (by omega);clear HP;go_wp2;exact bodyPost_ret (zd (x:=.bool f) rfl (g:=w.heap.size+1) rfl rfl (zW hR rfl)) rfl ⟨HWR.out f rfl,hB⟩
theorem power_big (xn:Bool) (hi m:Nat) (xe:Int) (hh:¬ hi=0) (n:Int) (hn:0<n) (w:World):Calls Tryz.prog 116 #[.agg #[.bool xn,.int .u64 (hi:Int),.int .u64 m,.int .i64 xe],.int .i64 n] w fun r w'=>jG none r/\Below w.heap.size w w':=by
 have HN:∀ V,Hid (Calls Tryz.prog 115 #[.int .i64 1,.int .i64 0] V fun r w'=>r=.returned (.agg #[.bool false,.int .u64 0,.int .u64 1,.int .i64 0])/\Below V.heap.size V w'):=fun V=>jP 1 0 (by decide) (by decide) V;have hh2:((hi:Int)==0)=false:=by simp;omega
 have r0:=(Row.new w 85 #[.bool xn,.int .u64 (hi:Int),.int .u64 m,.int .i64 xe]).alloc (.cells #[.bool false,.int .u64 0,.int .u64 0,.int .i64 0] 85);have r1:=Row.new1 w (.cells #[.bool xn,.int .u64 (hi:Int),.int .u64 m,.int .i64 xe] 85) 85 #[.bool false,.int .u64 0,.int .u64 0,.int .i64 0];have b0:Below w.heap.size w ((w.alloc (.cells #[.bool xn,.int .u64 (hi:Int),.int .u64 m,.int .i64 xe] 85)).alloc (.cells #[.bool false,.int .u64 0,.int .u64 0,.int .i64 0] 85)):=((Below.refl _ w).alloc (Nat.le_refl _) _).alloc (by simp) _;have hs0:((w.alloc (.cells #[.bool xn,.int .u64 (hi:Int),.int .u64 m,.int .i64 xe] 85)).alloc (.cells #[.bool false,.int .u64 0,.int .u64 0,.int .i64 0] 85)).heap.size=w.heap.size+2:=by simp
 clear hh;go_enter Tryz.func116,Tryz.ntmps116;go_upto_region 1 with fail
 generalize (w.alloc (.cells #[.bool xn,.int .u64 (hi:Int),.int .u64 m,.int .i64 xe] 85)).alloc (.cells #[.bool false,.int .u64 0,.int .u64 0,.int .i64 0] 85)=W at *;have hW2:w.heap.size+1<W.heap.size:=by omega
 clear hs0;have hS:Below W.heap.size W W.drew:=(Below.refl _ W).drew;have ca:=fun wx (hx:Below W.heap.size W wx)=>(r0.below hx r0.lt).four;refine Ib W 6 7 ?_;refine Oh 1 hS ?_;refine Oh 2 hS ?_ (v:=.int .u64 (hi:Int)) (y:=by intro wx hx;obtain⟨z0,z1,z2,z3⟩:=ca wx hx;go_simp<;>rfl);refine Oh 3 hS ?_ (v:=.bool false) (y:=by intro wx hx;go_simp);refine zD 0 4 rfl rfl (by kernel_rfl) rfl rfl ?_ ?_
 ·go_wp2_with fail;refine Calls.mono (HN _).out ?_;rintro _ w1 ⟨rfl,b1⟩;have hS1:Below W.heap.size W w1:=hS.trans (b1.mono hS.size);go_wp2_with fail;refine⟨fun _=>hS1,?_⟩;refine Oo 4 ?_;go_wp2_with fail;refine⟨fun _=>hS1.alloc hS1.size _,?_⟩;refine Oo 5 ?_;go_wp2_with fail;refine⟨fun _=>hS1.alloc hS1.size _,?_⟩;refine Oo 6 ?_;go_wp2_with fail;refine⟨fun h=>absurd h (by decide),?_⟩;refine Od ?_;have hP:PW w (w1.alloc (.cells #[.bool false,.int .u64 0,.int .u64 1,.int .i64 0] 85)) w1.heap.size #[.bool xn,.int .u64 (hi:Int),.int .u64 m,.int .i64 xe] jO.cells:=⟨(r0.below hS1 r0.lt).alloc _,(r1.below hS1 r1.lt).alloc _,Row.new w1 85 _,by have:=hS1.size;omega,(b0.trans (hS1.mono (by omega))).alloc (by have:=hS1.size;omega) _⟩;generalize w1.heap.size=K at *;generalize w1.alloc (.cells #[.bool false,.int .u64 0,.int .u64 1,.int .i64 0] 85)=W5 at *;clear hS ca hS1 b1 r0 r1 b0 HN;go_wp2_with fail;refine wp_loop_rounds 1 ?_;rw[rounds_succ];obtain⟨t0,t1,t2,t3⟩:=hP.2.1.four;have tf:=hP.2.1.frozen;have tl:=hP.2.1.lt;have hR:=Row.set4 hP.2.1 (.bool false) (.int .u64 0) (.int .u64 0) (.int .i64 0);have hB:=za (za (za (za hP.2.2.2.2 (B:=w.heap.size+1) 0 (.bool false) (by omega)) (B:=w.heap.size+1) 1 (.int .u64 0) (by omega)) (B:=w.heap.size+1) 2 (.int .u64 0) (by omega)) (B:=w.heap.size+1) 3 (.int .i64 0) (by omega);clear hP;go_wp2;exact bodyPost_ret (zd (x:=.bool false) rfl (g:=w.heap.size+1) rfl rfl (zW hR rfl)) rfl ⟨⟨⟨false,0,0⟩,false,rfl,by decide,by decide,by decide,rfl⟩,hB⟩
 ·go_wp2_with fail;have hSa:Below W.heap.size W (W.drew.alloc (.cells #[.bool false,.int .u64 0,.int .u64 0,.int .i64 0] 85)):=hS.alloc hS.size _;have ka:Row (W.drew.alloc (.cells #[.bool false,.int .u64 0,.int .u64 0,.int .i64 0] 85)) W.heap.size 85 #[.bool false,.int .u64 0,.int .u64 0,.int .i64 0]:=Row.new W.drew 85 _;refine⟨fun _=>hSa,?_⟩;refine Oo 0 ?_;go_wp2_with fail;refine Calls.mono (HN _).out ?_;rintro _ w1 ⟨rfl,b1⟩;have hS1:Below W.heap.size W w1:=hSa.trans (b1.mono hSa.size);have kb:=ka.below b1 ka.lt;obtain⟨y0,y1,y2,y3⟩:=kb.four;have zf:=kb.frozen;have wl:=kb.lt;go_wp2_with fail;refine⟨fun _=>hS1,?_⟩;refine Oo 5 ?_;go_wp2_with fail;have hR5:=Row.set4 kb (.bool false) (.int .u64 0) (.int .u64 1) (.int .i64 0);have hB5:=za (za (za (za hS1 (B:=W.heap.size) 0 (.bool false) (Nat.le_refl _)) (B:=W.heap.size) 1 (.int .u64 0) (Nat.le_refl _)) (B:=W.heap.size) 2 (.int .u64 1) (Nat.le_refl _)) (B:=W.heap.size) 3 (.int .i64 0) (Nat.le_refl _);have hP:PW w ((((w1.setCell ⟨W.heap.size,0,none⟩ (.bool false)).setCell ⟨W.heap.size,1,none⟩ (.int .u64 0)).setCell ⟨W.heap.size,2,none⟩ (.int .u64 1)).setCell ⟨W.heap.size,3,none⟩ (.int .i64 0)) W.heap.size #[.bool xn,.int .u64 (hi:Int),.int .u64 m,.int .i64 xe] jO.cells:=⟨r0.below hB5 r0.lt,r1.below hB5 r1.lt,hR5,by omega,b0.trans (hB5.mono (by omega))⟩;refine⟨fun _=>hB5,?_⟩;refine Oo 6 ?_;go_wp2_with fail;refine⟨fun h=>absurd h (by decide),?_⟩;refine Od ?_;clear hS ca hS1 b1 r0 r1 b0 HN hSa ka kb y0 y1 y2 y3 zf wl hR5 hB5;generalize W.heap.size=K at *;generalize ((((w1.setCell ⟨K,0,none⟩ (.bool false)).setCell ⟨K,1,none⟩ (.int .u64 0)).setCell ⟨K,2,none⟩ (.int .u64 1)).setCell ⟨K,3,none⟩ (.int .i64 0))=W5 at *;go_wp2_with fail;refine wp_loop_rounds 1 ?_;rw[rounds_succ];obtain⟨t0,t1,t2,t3⟩:=hP.2.1.four;have tf:=hP.2.1.frozen;have tl:=hP.2.1.lt;have hR:=Row.set4 hP.2.1 (.bool false) (.int .u64 0) (.int .u64 0) (.int .i64 0);have hB:=za (za (za (za hP.2.2.2.2 (B:=w.heap.size+1) 0 (.bool false) (by omega)) (B:=w.heap.size+1) 1 (.int .u64 0) (by omega)) (B:=w.heap.size+1) 2 (.int .u64 0) (by omega)) (B:=w.heap.size+1) 3 (.int .i64 0) (by omega);clear hP;go_wp2;exact bodyPost_ret (zd (x:=.bool false) rfl (g:=w.heap.size+1) rfl rfl (zW hR rfl)) rfl ⟨⟨⟨false,0,0⟩,false,rfl,by decide,by decide,by decide,rfl⟩,hB⟩
theorem kg : ∀ (k b n : Nat) (e : Int) (m : Nat) (f : Int), 1 ≤ b → b < 2 ^ k → yv b n e = some (m, f) → ∃ t : Nat, f = e - t ∧ t ≤ k ∧ n * 10 ^ t = m * b
  | 0, b, n, e, m, f, h1, hk, _ => by simp at hk; omega
  | k + 1, b, n, e, m, f, h1, hk, h => by
    rw [yv.eq_def] at h
    by_cases hb : b ≤ 1
    · rw [if_pos hb] at h
      obtain rfl : b = 1 := by omega
      cases h
      exact ⟨0, by simp, by omega, by simp⟩
    · rw [if_neg hb] at h
      rw [Nat.pow_succ] at hk
      by_cases h10 : b % 10 = 0
      · rw [if_pos h10] at h
        obtain ⟨t, a1, a2, a3⟩ := kg k (b / 10) n (e - 1) m f (by omega) (by omega) h
        refine ⟨t + 1, by rw [a1]; omega, by omega, ?_⟩
        rw [Nat.pow_succ, ← Nat.mul_assoc, a3, Nat.mul_assoc]; congr 1; omega
      · rw [if_neg h10] at h
        by_cases h2 : b % 2 = 0
        · rw [if_pos h2] at h
          split at h
          · obtain ⟨t, a1, a2, a3⟩ := kg k (b / 2) (n * 5) (e - 1) m f (by omega) (by omega) h
            refine ⟨t + 1, by rw [a1]; omega, by omega, ?_⟩
            have e1 : m * b = m * (b / 2) * 2 := by rw [Nat.mul_assoc]; congr 1; omega
            rw [e1, ← a3, Nat.pow_succ]
            rw [show n * (10 ^ t * 10) = n * 10 ^ t * 10 by rw [Nat.mul_assoc], show n * 5 * 10 ^ t * 2 = n * 10 ^ t * (5 * 2) by rw [Nat.mul_right_comm n 5, Nat.mul_assoc]]
          · cases h
        · rw [if_neg h2] at h
          by_cases h5 : b % 5 = 0
          · rw [if_pos h5] at h
            split at h
            · obtain ⟨t, a1, a2, a3⟩ := kg k (b / 5) (n * 2) (e - 1) m f (by omega) (by omega) h
              refine ⟨t + 1, by rw [a1]; omega, by omega, ?_⟩
              have e1 : m * b = m * (b / 5) * 5 := by rw [Nat.mul_assoc]; congr 1; omega
              rw [e1, ← a3, Nat.pow_succ]
              rw [show n * (10 ^ t * 10) = n * 10 ^ t * 10 by rw [Nat.mul_assoc], show n * 2 * 10 ^ t * 5 = n * 10 ^ t * (2 * 5) by rw [Nat.mul_right_comm n 2, Nat.mul_assoc]]
            · cases h
          · rw [if_neg h5] at h; cases h
theorem pow_le_cancel {k2 b n:Nat} (hn:n≠0) (h:b=n*10 ^ k2) (hb:b<=9223372036854775808):k2<=18:=by
 apply Nat.le_of_lt_succ;apply Nat.lt_of_not_le;intro hk;have h1:=Nat.pow_le_pow_right (n:=10) (i:=19) (j:=k2) (by omega) hk;have h2:10 ^ k2<=n*10 ^ k2:=Nat.le_mul_of_pos_left _ (by omega);have:(10:Nat) ^ 19=10000000000000000000:=by decide
 omega
theorem quot_doc (neg:Bool) (a b n1 n2 k1 k2:Nat) (e:Int) (h1:a=n1*10 ^ k1) (h2:b=n2*10 ^ k2) (z1:n1≠0) (z2:n2≠0) (hb:b<=9223372036854775808):((yv (n2 / Nat.gcd n1 n2) (n1 / Nat.gcd n1 n2) (e+k1-k2)).bind fun p=>zy neg p.1 p.2)=if a*10 ^ 90 % b=0 then zy neg (a*10 ^ 90 / b) (e-90) else none:=by
 have hg:0<Nat.gcd n1 n2:=Nat.gcd_pos_of_pos_left _ (by omega);obtain⟨g,hgg⟩:∃g,Nat.gcd n1 n2=g:=⟨_,rfl⟩;obtain⟨p1,hp1⟩:∃p,n1 / g=p:=⟨_,rfl⟩;obtain⟨p2,hp2⟩:∃p,n2 / g=p:=⟨_,rfl⟩;have hco:Nat.Coprime p1 p2:=by rw[<-hp1,<-hp2,<-hgg];exact Nat.coprime_div_gcd_div_gcd hg
 rw[hgg] at hg ⊢;rw[hp1,hp2];have q1:n1=p1*g:=by rw[<-hp1];exact(Nat.div_mul_cancel (by rw[<-hgg];exact Nat.gcd_dvd_left _ _)).symm
 have q2:n2=p2*g:=by rw[<-hp2];exact(Nat.div_mul_cancel (by rw[<-hgg];exact Nat.gcd_dvd_right _ _)).symm
 have hp20:1<=p2:=by
  rcases Nat.eq_zero_or_pos p2 with h|h
  ·rw[h] at q2;omega
  ·exact h
 have hk2:=pow_le_cancel z2 h2 hb;have hb0:0<b:=by rw[h2];exact Nat.mul_pos (by omega) (yx _)
 have hn2b:n2<=b:=by rw[h2];exact Nat.le_mul_of_pos_right _ (yx _)
 have hp2n:p2<=n2:=by rw[q2];exact Nat.le_mul_of_pos_right _ hg
 cases hq:yv p2 p1 (e+k1-k2) with
 | some p =>
  obtain⟨m,f⟩:=p;have h64:(2:Nat) ^ 64=18446744073709551616:=by decide
  obtain⟨t,a1,a2,a3⟩:=kg 64 p2 p1 _ m f hp20 (by omega) hq;have e1:n1*10 ^ t=m*n2:=by rw[q1,q2,Nat.mul_right_comm,a3,Nat.mul_assoc]
  have e2:a*10 ^ 90=m*10 ^ (k1+90-t-k2)*b:=by
   rw[h1,h2];have x1:n1*10 ^ k1*10 ^ 90=n1*10 ^ t*10 ^ (k1+90-t):=by rw[Nat.mul_assoc,Nat.mul_assoc,<-Nat.pow_add,<-Nat.pow_add];congr 2;omega
   have x2:10 ^ (k1+90-t)=10 ^ (k1+90-t-k2)*10 ^ k2:=by rw[<-Nat.pow_add];congr 1;omega
   rw[x1,e1,x2];simp only[Nat.mul_assoc,Nat.mul_left_comm n2]
  rw[e2,Nat.mul_mod_left,if_pos rfl,Nat.mul_div_cancel _ hb0];show zy neg m f=_;rw[<-qi neg m f (k1+90-t-k2)];congr 1;rw[a1];omega
 | none =>
  show none=_;by_cases hd:a*10 ^ 90 % b=0
  ·rw[if_pos hd];cases ht:zy neg (a*10 ^ 90 / b) (e-90) with
   | none=>rfl
   | some p =>
    obtain⟨C,E⟩:=p;exfalso;have hqb:a*10 ^ 90 / b*b=a*10 ^ 90:=Nat.div_mul_cancel (Nat.dvd_of_mod_eq_zero hd);have ha0:a*10 ^ 90≠0:=by rw[h1];exact Nat.ne_of_gt (Nat.mul_pos (Nat.mul_pos (by omega) (yx _)) (yx _))
    have hq0:a*10 ^ 90 / b≠0:=by intro h;rw[h] at hqb;omega
    obtain⟨_,_,_,_,c1,c2,_,i,j,c3,c4⟩:=qh ht hq0;generalize a*10 ^ 90 / b=q at *;have e3:n1*10 ^ (k1+90+i)=C.natAbs*n2*10 ^ (j+k2):=by
     have x1:n1*10 ^ (k1+90+i)=a*10 ^ 90*10 ^ i:=by rw[h1,Nat.mul_assoc,Nat.mul_assoc,<-Nat.pow_add,<-Nat.pow_add];congr 2;omega
     rw[x1,<-hqb,h2,Nat.pow_add];have x2:q*(n2*10 ^ k2)*10 ^ i=q*10 ^ i*(n2*10 ^ k2):=Nat.mul_right_comm _ _ _;rw[x2,c3];simp only[Nat.mul_assoc,Nat.mul_left_comm n2]
    have e4:p1*10 ^ (k1+90+i)=C.natAbs*p2*10 ^ (j+k2):=by apply Nat.eq_of_mul_eq_mul_right hg;rw[Nat.mul_right_comm p1,<-q1,e3,q2,Nat.mul_right_comm _ _ g,<-Nat.mul_assoc]
    obtain⟨m,f,hm,_⟩:=quot_found C.natAbs E (by omega) p2 p1 (e+k1-k2) (k1+90+i) (j+k2) hp20 (by omega) hco e4 (by omega);rw[hq] at hm;cases hm
  ·rw[if_neg hd]
theorem Zj (c e:Int) (hc:c≠0):∃k:Nat,c.natAbs=(zj c e).n*10 ^ k/\(zj c e).e=e+k/\(zj c e).n≠0/\(zj c e).neg=decide (c<0)/\(k=0\/e+k<=18)/\((zj c e).n % 10≠0\/18<=(zj c e).e):=by
 unfold zj zH yF;rw[if_neg (by simp;omega)];obtain⟨k,a1,a2,a3,a4,a5⟩:=yj c.natAbs e (by omega);exact⟨k,a1,a2,a5,rfl,a3,a4⟩
theorem div_doc (c e c2 e2:Int) (h2 : -9223372036854775808<=c2/\c2<=9223372036854775807) (h0:c2≠0):yp (jh (zj c e) (zj c2 e2))=if c.natAbs*10 ^ 90 % c2.natAbs=0 then zy (decide (c<0) != decide (c2<0)) (c.natAbs*10 ^ 90 / c2.natAbs) (e-e2-90) else none:=by
 obtain⟨k2,b1,b2,b3,b4,_⟩:=Zj c2 e2 h0;by_cases hc:c=0
 ·subst hc;have d0:zj 0 e=⟨false,0,0⟩:=by unfold zj zH yF;simp
  rw[d0];unfold jh;simp only[Nat.gcd_zero_left,Nat.zero_div];rw[Nat.div_self (by omega),yv.eq_def,if_pos (Nat.le_refl _)];simp[yp,yt]
 ·obtain⟨k1,a1,a2,a3,a4,_⟩:=Zj c e hc;have h:=quot_doc (decide (c<0) != decide (c2<0)) c.natAbs c2.natAbs (zj c e).n (zj c2 e2).n k1 k2 (e-e2) a1 b1 a3 b3 (by omega);rw[<-h];unfold jh;rw[a4,b4,a2,b2,show e+(k1:Int)-(e2+k2)=e-e2+k1-k2 by omega];cases yv ((zj c2 e2).n / ((zj c e).n.gcd (zj c2 e2).n)) ((zj c e).n / ((zj c e).n.gcd (zj c2 e2).n)) (e-e2+k1-k2) with
  | none=>rfl
  | some p=>rfl
theorem odd_pow {v : Nat} (h : v % 2 ≠ 0) : ∀ k, v ^ k % 2 ≠ 0
  | 0 => by simp
  | k + 1 => by
    have := odd_pow h k
    rw [Nat.pow_succ, Nat.mul_mod]
    have h1 : v ^ k % 2 = 1 := by omega
    have h2 : v % 2 = 1 := by omega
    rw [h1, h2]; decide
theorem mod5_mul {a b:Nat} (ha:a % 5≠0) (hb:b % 5≠0):a*b % 5≠0:=by
 rw[Nat.mul_mod];have h1:a % 5=1\/a % 5=2\/a % 5=3\/a % 5=4:=by omega
 have h2:b % 5=1\/b % 5=2\/b % 5=3\/b % 5=4:=by omega
 rcases h1 with h1|h1|h1|h1<;>rcases h2 with h2|h2|h2|h2<;>rw[h1,h2]<;>decide
theorem five_pow {v : Nat} (h : v % 5 ≠ 0) : ∀ k, v ^ k % 5 ≠ 0
  | 0 => by simp
  | k + 1 => by rw [Nat.pow_succ]; exact mod5_mul (five_pow h k) h
theorem Y9 {v:Nat} (h:v % 10≠0) (k:Nat):v ^ k % 10≠0:=by
 by_cases h2:v % 2=0
 ·have:=five_pow (v:=v) (by omega) k;omega
 ·have:=odd_pow (v:=v) h2 k;omega
theorem qz:∀n:Nat,n≠0->∃u z:Nat,n=u*10 ^ z/\u % 10≠0:=by
 intro n;induction n using Nat.strongRecOn with
 | ind n ih =>
  intro hn;by_cases h:n % 10=0
  ·obtain⟨u,z,h1,h2⟩:=ih (n / 10) (by omega) (by omega);refine⟨u,z+1,?_,h2⟩;rw[Nat.pow_succ,<-Nat.mul_assoc,<-h1];omega
  ·exact⟨n,0,by simp,h⟩
theorem ks : ∀ (z z' u u' : Nat), u * 10 ^ z = u' * 10 ^ z' → u % 10 ≠ 0 → u' % 10 ≠ 0 → u = u' ∧ z = z'
  | 0, 0, u, u', h, _, _ => by simpa using h
  | 0, z' + 1, u, u', h, h1, _ => by
    rw [Nat.pow_succ, ← Nat.mul_assoc] at h
    simp at h; omega
  | z + 1, 0, u, u', h, _, h2 => by
    rw [Nat.pow_succ, ← Nat.mul_assoc] at h
    simp at h; omega
  | z + 1, z' + 1, u, u', h, h1, h2 => by
    rw [Nat.pow_succ, Nat.pow_succ, ← Nat.mul_assoc, ← Nat.mul_assoc] at h
    obtain ⟨a, b⟩ := ks z z' u u' (by omega) h1 h2
    exact ⟨a, by omega⟩
theorem km {u z A:Nat} (h:u*10 ^ z=10 ^ A) (hu:u % 10≠0):z<=A:=by
 obtain⟨u',z',h1,h2⟩:=qz u (by omega);apply Nat.le_of_not_lt;intro hlt;have h3:u*10 ^ (z-A)*10 ^ A=1*10 ^ A:=by rw[Nat.mul_assoc,<-Nat.pow_add,show z-A+A=z by omega,h,Nat.one_mul]
 have h4:=Nat.eq_of_mul_eq_mul_right (yx A) h3;have h5:10 ^ (z-A)=10 ^ (z-A-1)*10:=by rw[<-Nat.pow_succ];congr 1;omega
 rw[h5,<-Nat.mul_assoc] at h4;omega
theorem YD : ∀ (A x y : Nat), x * y = 10 ^ A → x % 10 ≠ 0 → y % 10 ≠ 0 → (x = 2 ^ A ∧ y = 5 ^ A) ∨ (x = 5 ^ A ∧ y = 2 ^ A)
  | 0, x, y, h, _, _ => by
    left
    have := Nat.eq_one_of_mul_eq_one_right (m := x) (n := y) (by simpa using h)
    have h2 := Nat.eq_one_of_mul_eq_one_left (m := x) (n := y) (by simpa using h)
    simp [this, h2]
  | A + 1, x, y, h, hx, hy => by
    have key : ∀ x' y' : Nat, x = 2 * x' → y = 5 * y' → x = 2 ^ (A + 1) ∧ y = 5 ^ (A + 1) := by
      intro x' y' e1 e2
      have h' : x' * y' = 10 ^ A := by
        have e : 10 * (x' * y') = 10 * 10 ^ A := by
          rw [Nat.pow_succ] at h
          rw [Nat.mul_comm 10 (10 ^ A), ← h, e1, e2]
          rw [Nat.mul_mul_mul_comm]
        omega
      rcases YD A x' y' h' (by omega) (by omega) with ⟨a, b⟩ | ⟨a, b⟩
      · exact ⟨by rw [e1, a, Nat.pow_succ, Nat.mul_comm], by rw [e2, b, Nat.pow_succ, Nat.mul_comm]⟩
      · cases A with
        | zero => simp at a b; subst a; subst b; exact ⟨by rw [e1], by rw [e2]⟩
        | succ A => rw [Nat.pow_succ] at a; omega
    have key2 : ∀ x' y' : Nat, x = 5 * x' → y = 2 * y' → x = 5 ^ (A + 1) ∧ y = 2 ^ (A + 1) := by
      intro x' y' e1 e2
      have h' : x' * y' = 10 ^ A := by
        have e : 10 * (x' * y') = 10 * 10 ^ A := by
          rw [Nat.pow_succ] at h
          rw [Nat.mul_comm 10 (10 ^ A), ← h, e1, e2]
          rw [Nat.mul_mul_mul_comm]
        omega
      rcases YD A x' y' h' (by omega) (by omega) with ⟨a, b⟩ | ⟨a, b⟩
      · cases A with
        | zero => simp at a b; subst a; subst b; exact ⟨by rw [e1], by rw [e2]⟩
        | succ A => rw [Nat.pow_succ] at a; omega
      · exact ⟨by rw [e1, a, Nat.pow_succ, Nat.mul_comm], by rw [e2, b, Nat.pow_succ, Nat.mul_comm]⟩
    have h2 : x % 2 = 0 ∨ y % 2 = 0 := by
      by_cases a : x % 2 = 0
      · left; exact a
      · by_cases b : y % 2 = 0
        · right; exact b
        · exfalso
          have c : x * y % 2 = 1 := by rw [Nat.mul_mod, show x % 2 = 1 by omega, show y % 2 = 1 by omega]
          rw [h, Nat.pow_succ] at c
          omega
    have h5 : x % 5 = 0 ∨ y % 5 = 0 := by
      by_cases a : x % 5 = 0
      · left; exact a
      · by_cases b : y % 5 = 0
        · right; exact b
        · exfalso
          have c := mod5_mul a b
          rw [h, Nat.pow_succ] at c
          omega
    rcases h2 with h2 | h2
    · left; exact key (x / 2) (y / 5) (by omega) (by omega)
    · right; exact key2 (x / 5) (y / 2) (by omega) (by omega)
theorem quot_mod:∀(b n:Nat) (e:Int) (m:Nat) (f:Int),n % 10≠0->(n % 2=0->b % 2≠0)->(n % 5=0->b % 5≠0)->yv b n e=some (m,f)->m % 10≠0:=by
 intro b;induction b using Nat.strongRecOn with
 | ind b ih =>
  intro n e m f hn i2 i5 h;rw[yv.eq_def] at h;by_cases hb:b<=1
  ·rw[if_pos hb] at h;cases h;exact hn
  ·rw[if_neg hb] at h;by_cases h10:b % 10=0
   ·rw[if_pos h10] at h;exact ih (b / 10) (by omega) n _ m f hn (by omega) (by omega) h
   ·rw[if_neg h10] at h;by_cases h2:b % 2=0
    ·rw[if_pos h2] at h;split at h
     ·exact ih (b / 2) (by omega) (n*5) _ m f (by omega) (by omega) (by omega) h
     ·cases h
    ·rw[if_neg h2] at h;by_cases h5:b % 5=0
     ·rw[if_pos h5] at h;split at h
      ·exact ih (b / 5) (by omega) (n*2) _ m f (by omega) (by omega) (by omega) h
      ·cases h
     ·rw[if_neg h5] at h;cases h
def Zq (b : Bool) (k : Nat) : Bool := b && (k % 2 == 1)
theorem negK_succ (b:Bool) (k:Nat):(Zq b k != b)=Zq b (k+1):=by
 unfold Zq;rcases Nat.mod_two_eq_zero_or_one k with h|h
 ·have:(k+1) % 2=1:=by omega
  rw[h,this];cases b<;>rfl
 ·have:(k+1) % 2=0:=by omega
  rw[h,this];cases b<;>rfl
theorem jv (x : Wd) : ∀ k, x.n ^ k < zt → xk x k = some ⟨Zq x.neg k, x.n ^ k, x.e * k⟩
  | 0, _ => by simp [xk, jO, Zq]
  | k + 1, h => by
    have hk : x.n ^ k < zt := by
      rcases Nat.eq_zero_or_pos x.n with h0 | h0
      · rw [h0]
        cases k with
        | zero => decide
        | succ k => rw [Nat.pow_succ]; simp [zt]
      · have := Nat.pow_le_pow_right (n := x.n) h0 (show k ≤ k + 1 by omega)
        omega
    show (xk x k).bind (kT x) = _
    rw [jv x k hk]
    show kT x _ = _
    unfold kT
    rw [Nat.pow_succ] at h ⊢
    simp only
    rw [if_pos h, negK_succ]
    congr 2
    rw [Int.natCast_add, Int.mul_add]; simp
theorem ZQ (x : Wd) : ∀ k, ¬ x.n ^ k < zt → xk x k = none
  | 0, h => by exact absurd (by decide : (1 : Nat) < zt) (by simpa using h)
  | k + 1, h => by
    show (xk x k).bind (kT x) = _
    by_cases hk : x.n ^ k < zt
    · rw [jv x k hk]
      show kT x _ = _
      unfold kT
      rw [Nat.pow_succ] at h
      simp only
      rw [if_neg h]
    · rw [ZQ x k hk]; rfl
theorem Yz (c : Int) (hc : c ≠ 0) : ∀ k : Nat, decide (c ^ k < 0) = Zq (decide (c < 0)) k
  | 0 => by simp [Zq]
  | k + 1 => by
    rw [← negK_succ, ← Yz c hc k, Int.pow_succ]
    have hk : c ^ k ≠ 0 := Int.pow_ne_zero hc
    by_cases h1 : c < 0
    · by_cases h2 : c ^ k < 0
      · have := Int.mul_pos_of_neg_of_neg h2 h1
        rw [decide_eq_true h1, decide_eq_true h2, decide_eq_false (by omega)]; rfl
      · have := Int.mul_neg_of_pos_of_neg (show 0 < c ^ k by omega) h1
        rw [decide_eq_true h1, decide_eq_false h2, decide_eq_true this]; rfl
    · by_cases h2 : c ^ k < 0
      · have := Int.mul_neg_of_neg_of_pos h2 (show 0 < c by omega)
        rw [decide_eq_false h1, decide_eq_true h2, decide_eq_true this]; rfl
      · have := Int.mul_pos (show 0 < c ^ k by omega) (show 0 < c by omega)
        rw [decide_eq_false h1, decide_eq_false h2, decide_eq_false (by omega)]; rfl
theorem pow_up (c e:Int) (k:Nat):yp (xk (zj c e) k)=zu (c ^ k) (e*k):=by
 by_cases hc:c=0
 ·subst hc;have d0:zj 0 e=⟨false,0,0⟩:=by unfold zj zH yF;simp
  rw[d0];cases k with
  | zero=>simp[xk,jO,yp,zu]
  | succ k =>
   rw[jv _ _ (by rw[Nat.pow_succ];simp[zt])];rw[Int.pow_succ,Nat.pow_succ];simp[yp,zu,yt]
 ·obtain⟨j,a1,a2,a3,a4,_,a6⟩:=Zj c e hc;generalize zj c e=y at *;have hv:zu (c ^ k) (e*k)=zy (Zq (decide (c<0)) k) (y.n ^ k) (y.e*k):=by unfold zu;rw[Yz c hc k,Int.natAbs_pow,a1,Nat.mul_pow,<-Nat.pow_mul];have:=qi (Zq (decide (c<0)) k) (y.n ^ k) (y.e*k) (j*k);rw[<-this];congr 1;rw[a2,Int.natCast_mul,Int.add_mul];omega
  rw[hv];by_cases hk:y.n ^ k<zt
  ·rw[jv y k hk,<-a4];rfl
  ·rw[ZQ y k hk];have hbig:9223372036854775808<y.n ^ k:=by unfold zt at hk;omega
   rw[qY _ _ _ ?_ hbig]
   ·rfl
   ·rcases a6 with h|h
    ·exact Or.inl (Y9 h k)
    ·cases k with
     | zero=>simp at hbig
     | succ k =>
      right;have:(1:Int)<=((k+1:Nat):Int):=by omega
      have h3:=Int.mul_le_mul_of_nonneg_left this (show (0:Int)<=y.e by omega);omega
def Q3 (y : Wd) (k : Nat) : Option (Int × Int) := yp ((jh jO y).bind fun f => if f.n < 18446744073709551616 then xk f k else none)
def Zz (sg : Bool) (u : Nat) (E : Int) : Option (Int × Int) := if 10 ^ 60 ≤ u then none else if 10 ^ 200 % u = 0 then zy sg (10 ^ 200 / u) (-E - 200) else none
theorem quot_one (y:Wd):jh jO y=(yv y.n 1 (0-y.e)).map fun p=>⟨y.neg,p.1,p.2⟩:=by
 unfold jh jO;simp
theorem pow_down (c e : Int) (hc : c ≠ 0) (hc2 : c.natAbs ≤ 9223372036854775808) (k : Nat) (hk : 1 ≤ k) (u z : Nat) (hu : c.natAbs ^ k = u * 10 ^ z) (hu10 : u % 10 ≠ 0) :
    Q3 (zj c e) k = Zz (Zq (decide (c < 0)) k) u (e * k + z) := by
  obtain ⟨k1, a1, a2, a3, a4, _, a6⟩ := Zj c e hc
  unfold Q3
  rw [quot_one]
  generalize zj c e = y at *
  have hyc : y.n ≤ c.natAbs := by rw [a1]; exact Nat.le_mul_of_pos_right _ (yx _)
  have hu2 : y.n ^ k * 10 ^ (k1 * k) = u * 10 ^ z := by rw [← hu, a1, Nat.mul_pow, ← Nat.pow_mul]
  have h64 : (2 : Nat) ^ 64 = 18446744073709551616 := by decide
  cases hq : yv y.n 1 (0 - y.e) with
  | some p =>
    obtain ⟨m, f⟩ := p
    obtain ⟨t, b1, b2, b3⟩ := kg 64 y.n 1 _ m f (by omega) (by omega) hq
    have hm10 := quot_mod y.n 1 _ m f (by decide) (by intro h; cases h) (by intro h; cases h) hq
    rw [Nat.one_mul] at b3
    have hmk := Y9 hm10 k
    have hP : yp (((some (⟨y.neg, m, f⟩ : Wd))).bind fun f => if f.n < 18446744073709551616 then xk f k else none) = zy (Zq (decide (c < 0)) k) (m ^ k) (f * k) := by
      have hmm : m ≤ m ^ k := Nat.le_self_pow (by omega) m
      show yp (if m < 18446744073709551616 then xk ⟨y.neg, m, f⟩ k else none) = _
      by_cases h1 : m < 18446744073709551616
      · rw [if_pos h1]
        by_cases h2 : m ^ k < zt
        · rw [jv ⟨y.neg, m, f⟩ k h2, a4]; rfl
        · rw [ZQ ⟨y.neg, m, f⟩ k h2, qY _ _ _ (Or.inl hmk) (by unfold zt at h2; omega)]; rfl
      · rw [if_neg h1, qY _ _ _ (Or.inl hmk) (by omega)]; rfl
    show yp (((some (⟨y.neg, m, f⟩ : Wd))).bind fun f => if f.n < 18446744073709551616 then xk f k else none) = _
    rw [hP]
    have hT : m ^ k * u * 10 ^ z = 10 ^ (t * k + k1 * k) := by
      rw [Nat.mul_assoc, ← hu2, ← Nat.mul_assoc, ← Nat.mul_pow, ← b3, ← Nat.pow_mul, ← Nat.pow_add]
    have hmu : m ^ k * u % 10 ≠ 0 ∨ m ^ k * u % 10 = 0 := by omega
    obtain ⟨A, hA, hzA⟩ : ∃ A, m ^ k * u = 10 ^ A ∧ A + z = t * k + k1 * k := by
      have hz : z ≤ t * k + k1 * k := by
        obtain ⟨w, v, hw, hw10⟩ := qz (m ^ k * u) (by intro h; rw [h] at hT; have := yx (t * k + k1 * k); omega)
        rw [hw, Nat.mul_assoc, ← Nat.pow_add] at hT
        have := km hT hw10
        omega
      refine ⟨t * k + k1 * k - z, ?_, by omega⟩
      apply Nat.eq_of_mul_eq_mul_right (yx z)
      rw [hT, ← Nat.pow_add]; congr 1; omega
    have hEx : f * k = -(e * k + z) - A := by
      have : ((A : Int) + z) = t * k + k1 * k := by exact_mod_cast hzA
      rw [b1, a2, Int.sub_mul, Int.sub_mul, Int.add_mul]; omega
    have hD : ∀ hA200 : A ≤ 200, 10 ^ 200 % u = 0 ∧ zy (Zq (decide (c < 0)) k) (10 ^ 200 / u) (-(e * k + z) - 200) = zy (Zq (decide (c < 0)) k) (m ^ k) (f * k) := by
      intro hA200
      have hu0 : 0 < u := by omega
      have e1 : 10 ^ 200 = m ^ k * 10 ^ (200 - A) * u := by
        rw [Nat.mul_right_comm, hA, ← Nat.pow_add]; congr 1; omega
      rw [e1, Nat.mul_mod_left, Nat.mul_div_cancel _ hu0]
      refine ⟨rfl, ?_⟩
      rw [← qi _ (m ^ k) (f * k) (200 - A), hEx]
      congr 1; omega
    unfold Zz
    have c60 : (10 : Nat) ^ 60 = 1000000000000000000000000000000000000000000000000000000000000 := by decide
    rcases YD A (m ^ k) u hA hmk hu10 with ⟨p1, p2⟩ | ⟨p1, p2⟩
    · by_cases hA85 : A ≤ 85
      · obtain ⟨d1, d2⟩ := hD (by omega)
        have : 5 ^ A ≤ 5 ^ 85 := Nat.pow_le_pow_right (by decide) hA85
        have c5 : (5 : Nat) ^ 85 = 258493941422821148397315216271863391739316284656524658203125 := by decide
        rw [if_neg (by omega), if_pos d1, d2]
      · have : 5 ^ 86 ≤ 5 ^ A := Nat.pow_le_pow_right (by decide) (by omega)
        have c5 : (5 : Nat) ^ 86 = 1292469707114105741986576081359316958696581423282623291015625 := by decide
        have : 2 ^ 86 ≤ 2 ^ A := Nat.pow_le_pow_right (by decide) (by omega)
        have c2 : (2 : Nat) ^ 86 = 77371252455336267181195264 := by decide
        rw [if_pos (by omega), qY _ _ _ (Or.inl hmk) (by omega)]
    · by_cases hA199 : A ≤ 199
      · obtain ⟨d1, d2⟩ := hD (by omega)
        have : 2 ^ A ≤ 2 ^ 199 := Nat.pow_le_pow_right (by decide) hA199
        have c2 : (2 : Nat) ^ 199 = 803469022129495137770981046170581301261101496891396417650688 := by decide
        rw [if_neg (by omega), if_pos d1, d2]
      · have : 2 ^ 200 ≤ 2 ^ A := Nat.pow_le_pow_right (by decide) (by omega)
        have c2 : (2 : Nat) ^ 200 = 1606938044258990275541962092341162602522202993782792835301376 := by decide
        have : 5 ^ 86 ≤ 5 ^ A := Nat.pow_le_pow_right (by decide) (by omega)
        have c5 : (5 : Nat) ^ 86 = 1292469707114105741986576081359316958696581423282623291015625 := by decide
        rw [if_pos (by omega), qY _ _ _ (Or.inl hmk) (by omega)]
  | none =>
    show none = _
    unfold Zz
    split
    · rfl
    · split
      · rename_i hd
        cases ht : zy (Zq (decide (c < 0)) k) (10 ^ 200 / u) (-(e * k + z) - 200) with
        | none => rfl
        | some p =>
          exfalso
          obtain ⟨C, E⟩ := p
          have hu0 : 0 < u := by omega
          have hqu : 10 ^ 200 / u * u = 10 ^ 200 := Nat.div_mul_cancel (Nat.dvd_of_mod_eq_zero hd)
          have hq0 : 10 ^ 200 / u ≠ 0 := by intro h; rw [h] at hqu; have := yx 200; omega
          obtain ⟨_, _, hC0, _, c1, c2, _, i, j, c3, _⟩ := qh ht hq0
          generalize 10 ^ 200 / u = q at *
          -- |C| u 10^j = 10^(200 + i)
          have hB0 : C.natAbs * u * 10 ^ j = 10 ^ (200 + i) := by
            rw [Nat.mul_right_comm, ← c3, Nat.mul_right_comm, hqu, ← Nat.pow_add]
          obtain ⟨C', r, hC', hC10⟩ := qz C.natAbs (by omega)
          have hB1 : C' * u * 10 ^ (r + j) = 10 ^ (200 + i) := by
            rw [← hB0, hC', Nat.pow_add]
            simp only [Nat.mul_assoc, Nat.mul_left_comm, Nat.mul_comm]
          obtain ⟨B, hB⟩ : ∃ B, C' * u = 10 ^ B := by
            obtain ⟨w, v, hw, hw10⟩ := qz (C' * u) (by
              intro h; rw [h] at hB1; have := yx (200 + i); omega)
            have hB2 := hB1
            rw [hw, Nat.mul_assoc, ← Nat.pow_add] at hB2
            have hle := km hB2 hw10
            refine ⟨200 + i - (r + j), ?_⟩
            apply Nat.eq_of_mul_eq_mul_right (yx (r + j))
            rw [hB1, ← Nat.pow_add]; congr 1; omega
          -- y.n = v 10^s, v^k = u
          obtain ⟨v, s, hv, hv10⟩ := qz y.n a3
          have hvk : v ^ k = u := by
            have h1 : v ^ k * 10 ^ (s * k + k1 * k) = u * 10 ^ z := by
              rw [← hu2, hv, Nat.mul_pow, ← Nat.pow_mul, Nat.mul_assoc, ← Nat.pow_add]
            exact (ks _ _ _ _ h1 (Y9 hv10 k) hu10).1
          have hvd : v ∣ 10 ^ B := by
            rw [← hB, ← hvk]
            obtain ⟨k', rfl⟩ : ∃ k', k = k' + 1 := ⟨k - 1, by omega⟩
            exact ⟨C' * v ^ k', by rw [Nat.pow_succ]; simp only [Nat.mul_left_comm, Nat.mul_comm]⟩
          obtain ⟨Z0, hZ0⟩ := hvd
          obtain ⟨Z, r2, hZ, hZ10⟩ := qz Z0 (by intro h; rw [h] at hZ0; have := yx B; omega)
          have hZv : Z * v * 10 ^ r2 = 10 ^ B := by rw [hZ0, hZ]; simp only [Nat.mul_assoc, Nat.mul_comm]
          obtain ⟨D, hD⟩ : ∃ D, Z * v = 10 ^ D := by
            obtain ⟨w, v2, hw, hw10⟩ := qz (Z * v) (by
              intro h; rw [h] at hZv; have := yx B; omega)
            have h2 := hZv
            rw [hw, Nat.mul_assoc, ← Nat.pow_add] at h2
            have hle := km h2 hw10
            refine ⟨B - r2, ?_⟩
            apply Nat.eq_of_mul_eq_mul_right (yx r2)
            rw [hZv, ← Nat.pow_add]; congr 1; omega
          have hZk : Z ^ k = C' := by
            have h1 : Z ^ k * u = 10 ^ (D * k) := by rw [← hvk, ← Nat.mul_pow, hD, ← Nat.pow_mul]
            have h2 : Z ^ k * 10 ^ B = C' * 10 ^ (D * k) := by
              rw [← hB, ← h1]; simp only [Nat.mul_assoc, Nat.mul_left_comm, Nat.mul_comm]
            exact (ks _ _ _ _ h2 (Y9 hZ10 k) hC10).1
          have hZle : Z ≤ 9223372036854775808 := by
            have h1 : Z ≤ Z ^ k := Nat.le_self_pow (by omega) Z
            have h2 : C' ≤ C.natAbs := by rw [hC']; exact Nat.le_mul_of_pos_right _ (yx _)
            omega
          obtain ⟨m, f, hmf, _⟩ := quot_found Z (0 - y.e - ((D + s : Nat) : Int)) hZle y.n 1 (0 - y.e) (D + s) 0 (by omega) (by omega) (Nat.coprime_one_left _) (by
            rw [Nat.one_mul, Nat.pow_zero, Nat.mul_one, hv, ← Nat.mul_assoc, hD, ← Nat.pow_add]) (by omega)
          rw [hq] at hmf; cases hmf
      · rfl
end Go.Proofs.YtnhflnpjepiceaaGreatDoor
