import Derived.Test.YtoncpcdepemlcaaGreatDoorWdv
import Derived.Shelf.Spec.BitsCarry
namespace Go.Proofs.YtoncpcdepemlcaaGreatDoor
set_option maxRecDepth 100000
set_option maxHeartbeats 1000000
open Go.RowKit
theorem below_drewN {N:Nat} {a w:World} (h:Below N a w) (q:Nat):Below N a (w.drewN q):=h.trans ⟨rfl,rfl,rfl,Nat.le_refl _,fun _ _=>rfl⟩
theorem below_set {N:Nat} {a w:World} (h:Below N a w) {B:Nat} (i:Nat) (v:Value) (hB:N≤B):Below N a (w.setCell ⟨B,i,none⟩ v):=((Kept.of_below (S:=(· < N)) h (fun _ h=>h)).setCell (p:=⟨B,i,none⟩) (fun (e:B<N)=>absurd e (by omega)) v).below (fun _ h=>h)
theorem Row.off {W:World} {B:Nat} {t:TypeId} {cs:Array Value} (h:Row W B t cs) {B':Nat} (i:Nat) (v:Value) (hne:B≠B'):Row (W.setCell ⟨B',i,none⟩ v) B t cs:=(Below.heap_setCell _ _ _ _ hne).trans h
theorem two_rows (w w1:World) (o1 o2:Array Value) (t1 t2:TypeId) (h:Below (((w.alloc (.cells o1 t1)).alloc (.cells o2 t2)).heap.size) ((w.alloc (.cells o1 t1)).alloc (.cells o2 t2)) w1):Row w1 w.heap.size t1 o1/\Row w1 (w.heap.size+1) t2 o2/\Below w.heap.size w w1:=by
 refine⟨((Row.new w t1 o1).alloc _).below h (by simp;omega),(Row.new1 w _ t2 o2).below h (by simp),?_⟩;exact(((Below.refl _ w).alloc (Nat.le_refl _) _).alloc (by simp) _).trans (h.mono (by simp;omega))
theorem tenth_raw (neg:Bool) (hi lo h' l' d:Nat) (e:Int) (hh:hi<18446744073709551616) (hl:lo<18446744073709551616) (he:e<9223372036854775807) (he0 : -9223372036854775808<=e) (e1:hi / 10=h') (e2:(hi % 10*18446744073709551616+lo) / 10=l') (e3:(hi % 10*18446744073709551616+lo) % 10=d) (w:World):Calls Tryz.prog 112 #[wv neg hi lo e] w fun r w'=>r=.returned (.tuple #[wv neg h' l' (e+1),.int .u64 (d:Int)])/\Below w.heap.size w w':=by
 have hd:∀w,Calls Tryz.prog 128 #[.int .u64 ((hi % 10:Nat):Int),.int .u64 lo,.int .u64 10] w fun r w'=>r=.returned (.tuple #[.int .u64 (l':Int),.int .u64 (d:Int)])/\∃q,w'=w.drewN q:=fun w=>by have:=div10_any (hi % 10) lo (by omega) hl w;rw[e2,e3] at this;exact this
 obtain⟨o,ho⟩:∃o,hi % 10=o:=⟨_,rfl⟩;rw[ho] at hd;have f1:Hid ((hi:Int) / 10=(h':Int)):=by show _=_;omega
 have f2:Hid ((hi:Int) % 10=(o:Int)):=by show _=_;omega
 clear e1 e2 e3 ho;unfold wv;go_enter Tryz.func112,Tryz.ntmps112;go_wp2_with fail;go_quiet (fail);go_wp2_with fail;rw[f1.out,f2.out];refine(hd _).mono ?_;rintro _ w1 ⟨rfl,q,hq⟩;obtain⟨hA,hZ,hB⟩:=two_rows w w1 _ _ _ _ (by rw[hq];exact⟨rfl,rfl,rfl,Nat.le_refl _,fun _ _=>rfl⟩);clear hq f1 f2 hd;obtain⟨c0,c1,c2,c3⟩:=hA.four;obtain⟨d0,d1,d2,d3⟩:=hZ.four;have z0:=hA.frozen;have z1:=hZ.frozen;have hne:w.heap.size≠w.heap.size+1:=by omega
 go_wp2;refine bodyPost_ret (ret_two rfl (g:=w.heap.size+1) rfl rfl (load57 (Row.set4 (((hZ.off _ _ (Ne.symm hne)).off _ _ (Ne.symm hne)).off _ _ (Ne.symm hne)) _ _ _ _) rfl)) rfl ⟨rfl,?_⟩;repeat (refine below_set ?_ _ _ (by omega))
 exact hB
theorem add64 (x y c:Nat) (hc:c<=1) (w:World):(callFunc 155 #[.int .u64 x,.int .u64 y,.int .u64 c]).run Tryz.prog w=.ok (.value (.tuple #[.int .u64 (((x+y+c) % 18446744073709551616:Nat):Int),.int .u64 (((x+y+c) / 18446744073709551616:Nat):Int)])) w:=by
 rw[run_callFunc_extern Tryz.func155 (by kernel_rfl) (by kernel_rfl) (by kernel_rfl) (e:=add64Entry) (by kernel_rfl),run_add64 x y c (by omega) (by omega) (by omega) (by omega)];simp only[Result.andThen];congr 5<;>omega
theorem times_ok (neg:Bool) (hi lo m x y v c:Nat) (e:Int) (hh:hi<18446744073709551616) (hl:lo<18446744073709551616) (hm:m<18446744073709551616) (e1:hi*m / 18446744073709551616=0) (e2:hi*m % 18446744073709551616=x) (e3:lo*m / 18446744073709551616=y) (e4:lo*m % 18446744073709551616=v) (e5:x+y=c) (e6:c<18446744073709551616) (w:World):Calls Tryz.prog 144 #[wv neg hi lo e,.int .u64 m] w fun r w'=>r=.returned (.tuple #[wv neg c v e,.bool true])/\Below w.heap.size w w':=by
 have m1:=Tryz.bits_Mul64 hi m hh hm;have m2:=Tryz.bits_Mul64 lo m hl hm;rw[e1,e2] at m1;rw[e3,e4] at m2;have ha:∀w,(callFunc 155 #[.int .u64 x,.int .u64 y,.int .u64 0]).run Tryz.prog w=.ok (.value (.tuple #[.int .u64 (c:Int),.int .u64 0])) w:=fun w=>by have:=add64 x y 0 (by omega) w;rw[show (x+y+0) % 18446744073709551616=c by omega,show (x+y+0) / 18446744073709551616=0 by omega] at this;exact this
 unfold wv;clear e1 e2 e3 e4 e5;go_enter Tryz.func144,Tryz.ntmps144;go_wp2_with fail;refine(m1 _).mono ?_;rintro _ w1 ⟨rfl,hw1⟩;rw[hw1];clear hw1 w1;go_wp2_with fail;refine(m2 _).mono ?_;rintro _ w1 ⟨rfl,hw1⟩;rw[hw1];clear hw1 w1;go_wp2_with fail;try simp only[ha]
 clear ha m1 m2;go_wp2;refine bodyPost_ret (ret_two rfl (g:=w.heap.size+1) rfl rfl (load57 (Row.new1 w _ 125 _) rfl)) rfl ⟨rfl,?_⟩;exact(((Below.refl _ w).alloc (Nat.le_refl _) _).alloc (by simp) _)
theorem times_over (neg:Bool) (hi lo m o x y v c k:Nat) (e:Int) (hh:hi<18446744073709551616) (hl:lo<18446744073709551616) (hm:m<18446744073709551616) (e1:hi*m / 18446744073709551616=o) (e2:hi*m % 18446744073709551616=x) (e3:lo*m / 18446744073709551616=y) (e4:lo*m % 18446744073709551616=v) (e5:(x+y) % 18446744073709551616=c) (e6:(x+y) / 18446744073709551616=k) (e7:o≠0\/k≠0) (w:World):Calls Tryz.prog 144 #[wv neg hi lo e,.int .u64 m] w fun r w'=>r=.returned (.tuple #[wv false 0 0 0,.bool false])/\Below w.heap.size w w':=by
 have m1:=Tryz.bits_Mul64 hi m hh hm;have m2:=Tryz.bits_Mul64 lo m hl hm;rw[e1,e2] at m1;rw[e3,e4] at m2;have ha:∀w,(callFunc 155 #[.int .u64 x,.int .u64 y,.int .u64 0]).run Tryz.prog w=.ok (.value (.tuple #[.int .u64 (c:Int),.int .u64 (k:Int)])) w:=fun w=>by have:=add64 x y 0 (by omega) w;rw[Nat.add_zero,e5,e6] at this;exact this
 unfold wv;clear e1 e2 e3 e4 e5 e6;by_cases ho:o=0
 ·have hk:((k:Int) != 0)=true:=by simp;omega
  have ho2:((o:Int) != 0)=false:=by simp;omega
  clear e7 ho;go_enter Tryz.func144,Tryz.ntmps144;go_wp2_with fail;refine(m1 _).mono ?_;rintro _ w1 ⟨rfl,hw1⟩;rw[hw1];clear hw1 w1;go_wp2_with fail;refine(m2 _).mono ?_;rintro _ w1 ⟨rfl,hw1⟩;rw[hw1];clear hw1 w1;go_wp2;refine bodyPost_ret (ret_two rfl (g:=w.heap.size+1) rfl rfl (load57 (Row.new1 w _ 125 _) rfl)) rfl ⟨rfl,?_⟩;exact(((Below.refl _ w).alloc (Nat.le_refl _) _).alloc (by simp) _)
 ·have ho2:((o:Int) != 0)=true:=by simp;omega
  clear e7 ho;go_enter Tryz.func144,Tryz.ntmps144;go_wp2_with fail;refine(m1 _).mono ?_;rintro _ w1 ⟨rfl,hw1⟩;rw[hw1];clear hw1 w1;go_wp2_with fail;refine(m2 _).mono ?_;rintro _ w1 ⟨rfl,hw1⟩;rw[hw1];clear hw1 w1;go_wp2;refine bodyPost_ret (ret_two rfl (g:=w.heap.size+1) rfl rfl (load57 (Row.new1 w _ 125 _) rfl)) rfl ⟨rfl,?_⟩;exact(((Below.refl _ w).alloc (Nat.le_refl _) _).alloc (by simp) _)
theorem times_any (neg:Bool) (hi lo m:Nat) (e:Int) (hh:hi<18446744073709551616) (hl:lo<18446744073709551616) (hm:m<18446744073709551616) (w:World):Calls Tryz.prog 144 #[wv neg hi lo e,.int .u64 m] w fun r w'=>r=.returned (if (hi*18446744073709551616+lo)*m<M128 then .tuple #[wv neg ((hi*18446744073709551616+lo)*m / 18446744073709551616) ((hi*18446744073709551616+lo)*m % 18446744073709551616) e,.bool true] else .tuple #[wv false 0 0 0,.bool false])/\Below w.heap.size w w':=by
 have e0:(hi*18446744073709551616+lo)*m=hi*m*18446744073709551616+lo*m:=by rw[Nat.add_mul,Nat.mul_assoc,Nat.mul_comm 18446744073709551616 m,<-Nat.mul_assoc]
 rw[e0];have k1:=times_ok neg hi lo m (hi*m % 18446744073709551616) (lo*m / 18446744073709551616) (lo*m % 18446744073709551616) (hi*m % 18446744073709551616+lo*m / 18446744073709551616) e hh hl hm;have k2:=times_over neg hi lo m (hi*m / 18446744073709551616) (hi*m % 18446744073709551616) (lo*m / 18446744073709551616) (lo*m % 18446744073709551616) _ ((hi*m % 18446744073709551616+lo*m / 18446744073709551616) / 18446744073709551616) e hh hl hm rfl rfl rfl rfl rfl rfl;generalize hi*m=A at *;generalize lo*m=B at *;unfold M128;by_cases h:A*18446744073709551616+B<340282366920938463463374607431768211456
 ·rw[if_pos h];have:=k1 (by omega) rfl rfl rfl rfl (by omega) w;refine this.mono ?_;rintro r w' ⟨rfl,hB⟩;refine⟨?_,hB⟩;rw[show (A*18446744073709551616+B) / 18446744073709551616=A % 18446744073709551616+B / 18446744073709551616 by omega,show (A*18446744073709551616+B) % 18446744073709551616=B % 18446744073709551616 by omega]
 ·rw[if_neg h];exact k2 (by omega) w
def Wd.val (w : Wd) : Value := wv w.neg (w.n / 18446744073709551616) (w.n % 18446744073709551616) w.e
def pairV (o : Option Wd) : Value := match o with | some w => .tuple #[w.val, .bool true] | none => .tuple #[wv false 0 0 0, .bool false]
theorem tenth_any (x:Wd) (h:x.n<M128) (he:x.e<9223372036854775807) (he0 : -9223372036854775808<=x.e) (w:World):Calls Tryz.prog 112 #[x.val] w fun r w'=>r=.returned (.tuple #[Wd.val ⟨x.neg,x.n / 10,x.e+1⟩,.int .u64 ((x.n % 10:Nat):Int)])/\Below w.heap.size w w':=by
 unfold M128 at h;unfold Wd.val;obtain⟨neg,n,e⟩:=x;simp only at *;exact tenth_raw neg (n / 18446744073709551616) (n % 18446744073709551616) _ _ _ e (by omega) (by omega) he he0 (by omega) (by omega) (by omega) w
theorem times_W (x:Wd) (m:Nat) (h:x.n<M128) (hm:m<18446744073709551616) (w:World):Calls Tryz.prog 144 #[x.val,.int .u64 m] w fun r w'=>r=.returned (pairV (if x.n*m<M128 then some ⟨x.neg,x.n*m,x.e⟩ else none))/\Below w.heap.size w w':=by
 obtain⟨neg,n,e⟩:=x;have:=times_any neg (n / 18446744073709551616) (n % 18446744073709551616) m e (by unfold M128 at h;simp only at h;omega) (by omega) hm w;rw[show n / 18446744073709551616*18446744073709551616+n % 18446744073709551616=n by omega] at this;refine this.mono ?_;rintro r w' ⟨rfl,hB⟩;refine⟨?_,hB⟩;simp only;split<;>rfl
set_option maxHeartbeats 2000000
def Wd.cells (y : Wd) : Array Value := #[.bool y.neg, .int .u64 ((y.n / 18446744073709551616 : Nat) : Int), .int .u64 ((y.n % 18446744073709551616 : Nat) : Int), .int .i64 y.e]
theorem Wd.val_eq (y:Wd):y.val=.agg y.cells:=rfl
def zeroCells : Array Value := #[.bool false, .int .u64 0, .int .u64 0, .int .i64 0]
def eCell (B : Nat) (w : World) : Int := match w.cell? ⟨B, 3, none⟩ with | some (.int _ x) => x | _ => 0
def boolN : Value → Nat | .bool true => 1 | _ => 0
theorem eCell_row {W:World} {B:Nat} {t:TypeId} {y:Wd} (h:Row W B t y.cells):eCell B W=y.e:=by
 unfold eCell;rw[h.cell (i:=3) (v:=.int .i64 y.e) rfl]
def lowR (neg : Bool) (n : Nat) (e t : Int) (B0 B1 : Nat) (w0 : World) (v : Value) (wr : World) : Prop :=
  (∃ k : Nat, (k = 0 ∨ (k : Int) ≤ e - t) ∧ n * 10 ^ k < M128 ∧ v = .bool true ∧ Row wr B0 125 (Wd.cells ⟨neg, n * 10 ^ k, e - k⟩) ∧ Row wr B1 125 zeroCells ∧ Below w0.heap.size w0 wr) ∨
  (v = .bool false ∧ Row wr B0 125 zeroCells ∧ Row wr B1 125 zeroCells ∧ t < e ∧ ¬ n * 10 ^ (e - t).toNat < M128 ∧ Below w0.heap.size w0 wr)
theorem lowered_any (x:Wd) (t:Int) (h:x.n<M128) (he:x.e<=9223372036854775807) (he0 : -9223372036854775808<=x.e) (ht : -9223372036854775808<=t) (w:World):Calls Tryz.prog 125 #[x.val,.int .i64 t] w fun r w'=>r=.returned (pairV (lowW x t))/\Below w.heap.size w w':=by
 obtain⟨neg,n,e⟩:=x;simp only at h he he0;rw[Wd.val_eq];unfold Wd.cells;simp only;obtain⟨hi,hhi⟩:∃hi,n / 18446744073709551616=hi:=⟨_,rfl⟩;obtain⟨lo,hlo⟩:∃lo,n % 18446744073709551616=lo:=⟨_,rfl⟩;rw[hhi,hlo];have HHI:Hid (n / 18446744073709551616=hi):=hhi;have HLO:Hid (n % 18446744073709551616=lo):=hlo;clear hhi hlo;go_enter Tryz.func125,Tryz.ntmps125;go_wp2_with fail;go_loopw [6] (lowR neg n e t w.heap.size (w.heap.size+1) w) (fun v wr=>boolN v*(1+(eCell w.heap.size wr-t).toNat))
 case atStart => refine Or.inl ⟨0,Or.inl rfl,by simpa using h,rfl,?_,Row.new1 w _ 125 _,((Below.refl _ w).alloc (Nat.le_refl _) _).alloc (by simp) _⟩;unfold Wd.cells;simp only[Nat.pow_zero,Nat.mul_one];rw[HHI.out,HLO.out,show e-((0:Nat):Int)=e by omega];exact(Row.new w 125 _).alloc _
 case round =>
  rcases hrel with ⟨k,hk,hM,rfl,hA,hZ,hB⟩|⟨rfl,hA,hZ,hte,hM,hB⟩
  ·obtain⟨a0,a1,a2,a3⟩:=hA.four;obtain⟨d0,d1,d2,d3⟩:=hZ.four;have z0:=hA.frozen;have z1:=hZ.frozen;have hEC:=eCell_row hA;have hk':Hid (k=0\/(k:Int)<=e-t):=hk;have hM':Hid (n*10 ^ k<M128):=hM;have hne:w.heap.size≠w.heap.size+1:=by omega
   obtain⟨nk,hnk⟩:∃nk,n*10 ^ k=nk:=⟨_,rfl⟩;obtain⟨ek,hek⟩:∃ek,e-(k:Int)=ek:=⟨_,rfl⟩;have hek0:Hid (e-(k:Int)=ek):=hek;have hnk0:Hid (n*10 ^ k=nk):=hnk;have b1 : -9223372036854775808<=ek:=by omega
   have b2:ek<=9223372036854775807:=by omega
   by_cases hgt:t<ek
   ·obtain⟨ek',hek'⟩:∃ek',ek-1=ek':=⟨_,rfl⟩;have f1:wrap64 (ek-1)=ek':=by unfold wrap64;omega
    have hT:=times_W ⟨neg,nk,ek'⟩ 10 (by rw[<-hnk];exact hM) (by omega);rw[Wd.val_eq] at hT;unfold Wd.cells at hT hA;simp only[hnk,hek] at hT hA a0 a1 a2 a3;have hEK:Hid (ek-1=ek'):=hek';obtain⟨hi',hhi⟩:∃hi,nk / 18446744073709551616=hi:=⟨_,rfl⟩;obtain⟨lo',hlo⟩:∃lo,nk % 18446744073709551616=lo:=⟨_,rfl⟩;rw[hhi,hlo] at hT hA;rw[hhi] at a1;rw[hlo] at a2;have hA2:Row (wr.setCell ⟨w.heap.size,3,none⟩ (.int .i64 ek')) w.heap.size 125 #[.bool neg,.int .u64 (hi':Int),.int .u64 (lo':Int),.int .i64 ek']:=hA.set 3 _;have hZ2:Row (wr.setCell ⟨w.heap.size,3,none⟩ (.int .i64 ek')) (w.heap.size+1) 125 zeroCells:=hZ.off _ _ (Ne.symm hne);have hB2:Below w.heap.size w (wr.setCell ⟨w.heap.size,3,none⟩ (.int .i64 ek')):=below_set hB _ _ (Nat.le_refl _);have hs:w.heap.size+1<(wr.setCell ⟨w.heap.size,3,none⟩ (.int .i64 ek')).heap.size:=hZ2.lt;clear hnk hek hek' hk hM he he0 ht h HHI HLO hhi hlo;by_cases hlt:nk*10<M128
    ·simp only[if_pos hlt] at hT;unfold pairV at hT;simp only[Wd.val_eq] at hT;unfold Wd.cells at hT;simp only at hT;obtain⟨H,hH⟩:∃ H,nk*10 / 18446744073709551616=H:=⟨_,rfl⟩;obtain⟨L,hL⟩:∃ L,nk*10 % 18446744073709551616=L:=⟨_,rfl⟩;simp only[hH,hL] at hT;have hH':Hid (nk*10 / 18446744073709551616=H):=hH;have hL':Hid (nk*10 % 18446744073709551616=L):=hL;have HLT:Hid (nk*10<M128):=hlt;clear hH hL hlt;go_wp2_with fail;try rw[f1]
     refine(hT _).mono ?_;rintro _ w2 ⟨rfl,hB3⟩;have hA3:=hA2.below hB3 hA2.lt;have hZ3:=hZ2.below hB3 hZ2.lt;have hB4:=hB2.trans (hB3.mono (by omega));obtain⟨g0,g1,g2,g3⟩:=hA3.four;have z2:=hA3.frozen;clear a0 a1 a2 a3 d0 d1 d2 d3 z0 z1 hT hA hA2 hZ2;go_wp2;have hfin:Row ((((w2.setCell ⟨w.heap.size,0,none⟩ (.bool neg)).setCell ⟨w.heap.size,1,none⟩ (.int .u64 (H:Int))).setCell ⟨w.heap.size,2,none⟩ (.int .u64 (L:Int))).setCell ⟨w.heap.size,3,none⟩ (.int .i64 ek')) w.heap.size 125 (Wd.cells ⟨neg,n*10 ^ (k+1),e-((k+1:Nat):Int)⟩):=by unfold Wd.cells;simp only;rw[Nat.pow_succ,<-Nat.mul_assoc,hnk0.out,hH'.out,hL'.out,show e-((k+1:Nat):Int)=ek' by have:=hEK.out;have:=hek0.out;omega];exact hA3.set4 _ _ _ _
     refine⟨Or.inl ⟨k+1,Or.inr ?_,?_,rfl,hfin,?_,?_⟩,?_⟩
     ·have:=hek0.out;omega
     ·rw[Nat.pow_succ,<-Nat.mul_assoc,hnk0.out];exact HLT.out
     ·exact(((hZ3.off _ _ (Ne.symm hne)).off _ _ (Ne.symm hne)).off _ _ (Ne.symm hne)).off _ _ (Ne.symm hne)
     ·repeat (refine below_set ?_ _ _ (Nat.le_refl _))
      exact hB4
     ·rw[eCell_row hfin,hEC];have:=hek0.out;simp only[boolN];omega
    ·simp only[if_neg hlt] at hT;unfold pairV at hT;simp only[wv] at hT;have HLT:Hid (¬ nk*10<M128):=hlt;clear hlt;go_wp2_with fail;try rw[f1]
     refine(hT _).mono ?_;rintro _ w2 ⟨rfl,hB3⟩;have hA3:=hA2.below hB3 hA2.lt;have hZ3:=hZ2.below hB3 hZ2.lt;have hB4:=hB2.trans (hB3.mono (by omega));obtain⟨g0,g1,g2,g3⟩:=hA3.four;have z2:=hA3.frozen;clear a0 a1 a2 a3 d0 d1 d2 d3 z0 z1 hT hA hA2 hZ2;go_wp2;have hfin:Row ((((w2.setCell ⟨w.heap.size,0,none⟩ (.bool false)).setCell ⟨w.heap.size,1,none⟩ (.int .u64 0)).setCell ⟨w.heap.size,2,none⟩ (.int .u64 0)).setCell ⟨w.heap.size,3,none⟩ (.int .i64 0)) w.heap.size 125 (Wd.cells ⟨false,0,0⟩):=hA3.set4 _ _ _ _;refine⟨Or.inr ⟨rfl,hfin,?_,?_,?_,?_⟩,?_⟩
     ·exact(((hZ3.off _ _ (Ne.symm hne)).off _ _ (Ne.symm hne)).off _ _ (Ne.symm hne)).off _ _ (Ne.symm hne)
     ·have:=hek0.out;omega
     ·have h1:=HLT.out;have h2:nk*10<=n*10 ^ (e-t).toNat:=by rw[<-hnk0.out,Nat.mul_assoc,<-Nat.pow_succ];exact Nat.mul_le_mul_left _ (Nat.pow_le_pow_right (by omega) (by have:=hek0.out;omega))
      omega
     ·repeat (refine below_set ?_ _ _ (Nat.le_refl _))
      exact hB4
     ·rw[eCell_row hfin,hEC];simp only[boolN];omega
   ·have hm:(e-(k:Int)<=t):=by omega
    have HF:Hid (pairV (lowW ⟨neg,n,e⟩ t)=.tuple #[Wd.val ⟨neg,nk,ek⟩,.bool true]):=by
     show _=_;unfold lowW;simp only;by_cases hk0:k=0
     ·subst hk0;rw[if_pos (by omega),<-hnk,<-hek];simp[pairV]
     ·rw[if_neg (by omega),show (e-t).toNat=k by omega,if_pos hM,hnk];simp only[pairV];rw[show t=ek by omega]
    unfold Wd.cells at hA;simp only[hnk,hek] at hA a0 a1 a2 a3;obtain⟨hi',hhi⟩:∃hi,nk / 18446744073709551616=hi:=⟨_,rfl⟩;obtain⟨lo',hlo⟩:∃lo,nk % 18446744073709551616=lo:=⟨_,rfl⟩;have hhi':Hid (nk / 18446744073709551616=hi'):=hhi;have hlo':Hid (nk % 18446744073709551616=lo'):=hlo;rw[hhi] at a1;rw[hlo] at a2;clear hnk hek hk hM he he0 ht h HHI HLO hhi hlo hm;go_wp2;refine bodyPost_ret (ret_two rfl (g:=w.heap.size+1) rfl rfl (load57 (Row.set4 hZ _ _ _ _) rfl)) rfl ⟨?_,?_⟩
    ·rw[HF.out,Wd.val_eq];unfold Wd.cells;simp only;rw[hhi'.out,hlo'.out];rfl
    ·repeat (refine below_set ?_ _ _ (by omega))
     exact hB
  ·obtain⟨a0,a1,a2,a3⟩:=hA.four;obtain⟨d0,d1,d2,d3⟩:=hZ.four;have z0:=hA.frozen;have z1:=hZ.frozen;have HF:Hid (pairV (lowW ⟨neg,n,e⟩ t)=.tuple #[wv false 0 0 0,.bool false]):=by show _=_;unfold lowW;rw[if_neg (by simp only;omega),if_neg hM];rfl
   clear hM hte h he he0 ht;go_wp2;refine bodyPost_ret (ret_two rfl (g:=w.heap.size+1) rfl rfl (load57 (Row.set4 hZ _ _ _ _) rfl)) rfl ⟨by rw[HF.out];rfl,?_⟩;repeat (refine below_set ?_ _ _ (by omega))
   exact hB
set_option maxHeartbeats 800000
def shR (neg : Bool) (n : Nat) (e : Int) (B0 B1 : Nat) (w0 : World) (_ : Value) (wr : World) : Prop :=
  ∃ y : Wd, y.neg = neg ∧ strip y.n y.e = strip n e ∧ y.n ≠ 0 ∧ y.n < M128 ∧ e ≤ y.e ∧ (y.e = e ∨ y.e ≤ 18) ∧ Row wr B0 125 y.cells ∧ Row wr B1 125 zeroCells ∧ Below w0.heap.size w0 wr
theorem zero_W (x:Wd) (w:World):Calls Tryz.prog 107 #[x.val] w fun r w'=>r=.returned (.bool (decide (x.n=0)))/\Below w.heap.size w w':=by
 refine(zero_any x.neg (x.n / 18446744073709551616) (x.n % 18446744073709551616) x.e w).mono ?_;rintro r w' ⟨rfl,hB⟩;refine⟨?_,hB⟩;congr 2;rw[decide_eq_decide];omega
theorem short_any (x:Wd) (h:x.n<M128) (he:x.e<=9223372036854775807) (he0 : -9223372036854775808<=x.e) (w:World):Calls Tryz.prog 106 #[x.val] w fun r w'=>r=.returned (shortW x).val/\Below w.heap.size w w':=by
 have hz:=zero_W x;obtain⟨neg,n,e⟩:=x;simp only at h he he0 hz;simp only[Wd.val_eq] at hz ⊢;unfold Wd.cells at hz;simp only at hz;rw[show (Wd.mk neg n e).cells=#[.bool neg,.int .u64 ((n / 18446744073709551616:Nat):Int),.int .u64 ((n % 18446744073709551616:Nat):Int),.int .i64 e] from rfl];obtain⟨hi,hhi⟩:∃hi,n / 18446744073709551616=hi:=⟨_,rfl⟩;obtain⟨lo,hlo⟩:∃lo,n % 18446744073709551616=lo:=⟨_,rfl⟩;rw[hhi,hlo] at hz ⊢;have HHI:Hid (n / 18446744073709551616=hi):=hhi;have HLO:Hid (n % 18446744073709551616=lo):=hlo;clear hhi hlo;by_cases hn:n=0
 ·have HF:Hid ((shortW ⟨neg,n,e⟩).cells=#[.bool false,.int .u64 0,.int .u64 0,.int .i64 0]):=by show _=_;unfold shortW;rw[if_pos hn];rfl
  rw[decide_eq_true hn] at hz;rw[HF.out];clear hn HHI HLO;go_enter Tryz.func106,Tryz.ntmps106;go_wp2_with fail;refine(hz _).mono ?_;rintro _ w1 ⟨rfl,hB⟩;obtain⟨hA,hZ,hB⟩:=two_rows w w1 _ _ _ _ hB;obtain⟨d0,d1,d2,d3⟩:=hZ.four;have z1:=hZ.frozen;go_wp2;refine bodyPost_ret (ret_one rfl (g:=w.heap.size+1) rfl (load57 (Row.set4 hZ _ _ _ _) rfl)) rfl ⟨rfl,?_⟩;repeat (refine below_set ?_ _ _ (by omega))
  exact hB
 ·have HF:Hid ((shortW ⟨neg,n,e⟩).cells=Wd.cells ⟨neg,(strip n e).1,(strip n e).2⟩):=by show _=_;unfold shortW;rw[if_neg hn]
  rw[decide_eq_false hn] at hz;have HN:Hid (n≠0):=hn;clear hn;go_enter Tryz.func106,Tryz.ntmps106;go_wp2_with fail;refine(hz _).mono ?_;rintro _ w1 ⟨rfl,hB⟩;obtain⟨hA,hZ,hB⟩:=two_rows w w1 _ _ _ _ hB;clear hz;go_wp2_with fail;go_loopw [4] (shR neg n e w.heap.size (w.heap.size+1) w) (fun _ wr=>(18-eCell w.heap.size wr).toNat)
  case atStart => refine⟨⟨neg,n,e⟩,rfl,rfl,HN.out,h,Int.le_refl _,Or.inl rfl,?_,hZ,hB⟩;unfold Wd.cells;simp only;rw[HHI.out,HLO.out];exact hA
  case round =>
   obtain⟨⟨neg',m,f⟩,rfl,hS,hm0,hmM,hle,hf,hA,hZ,hB⟩:=hrel;simp only at hS hm0 hmM hle hf;obtain⟨a0,a1,a2,a3⟩:=hA.four;obtain⟨d0,d1,d2,d3⟩:=hZ.four;have z0:=hA.frozen;have z1:=hZ.frozen;have hEC:=eCell_row hA;have hne:w.heap.size≠w.heap.size+1:=by omega
   have hT:=tenth_any ⟨neg',m,f⟩ hmM;simp only[Wd.val_eq] at hT;unfold Wd.cells at hT hA;simp only at hT hA a0 a1 a2 a3 hEC;obtain⟨hi',hhi⟩:∃hi,m / 18446744073709551616=hi:=⟨_,rfl⟩;obtain⟨lo',hlo⟩:∃lo,m % 18446744073709551616=lo:=⟨_,rfl⟩;have hhi':Hid (m / 18446744073709551616=hi'):=hhi;have hlo':Hid (m % 18446744073709551616=lo'):=hlo;rw[hhi,hlo] at hT hA;rw[hhi] at a1;rw[hlo] at a2;clear hhi hlo;by_cases hlt:f<18
   ·have hT:=hT (by omega) (by omega);obtain⟨m',hm'⟩:∃m',m / 10=m':=⟨_,rfl⟩;obtain⟨dg,hdg⟩:∃dg,m % 10=dg:=⟨_,rfl⟩;rw[hm',hdg] at hT;obtain⟨H,hH⟩:∃ H,m' / 18446744073709551616=H:=⟨_,rfl⟩;obtain⟨L,hL⟩:∃ L,m' % 18446744073709551616=L:=⟨_,rfl⟩;rw[hH,hL] at hT;obtain⟨f',hf'⟩:∃f',f+1=f':=⟨_,rfl⟩;rw[hf'] at hT;have hH':Hid (m' / 18446744073709551616=H):=hH;have hL':Hid (m' % 18446744073709551616=L):=hL;have hM':Hid (m / 10=m'):=hm';have hD':Hid (m % 10=dg):=hdg;have hF':Hid (f+1=f'):=hf';have hMM:Hid (m≠0/\m<M128):=⟨hm0,hmM⟩;have hSS:Hid (strip m f=strip n e):=hS;have hlf:Hid (e<=f/\(f=e\/f<=18)):=⟨hle,hf⟩;have hbz:∀ W,Below wr.heap.size wr W->Row W w.heap.size 125 #[.bool neg',.int .u64 (hi':Int),.int .u64 (lo':Int),.int .i64 f]/\Row W (w.heap.size+1) 125 zeroCells/\Below w.heap.size w W:=fun W hW => ⟨hA.below hW hA.lt,hZ.below hW hZ.lt,hB.trans (hW.mono (by have:=hZ.lt;omega))⟩
    clear hH hL hm' hdg hf' hm0 hmM hS hle hf he he0 h HHI HLO;by_cases hd0:dg=0
    ·subst hd0;go_wp2_with fail;refine(hT _).mono ?_;rintro _ w2 ⟨rfl,hB2⟩;obtain⟨hA2,hZ2,hB3⟩:=hbz w2 hB2;have hlt2:w.heap.size<w2.heap.size:=hA2.lt;have z3:=hA2.frozen;obtain⟨g0,g1,g2,g3⟩:=hA2.four;clear a0 a1 a2 a3 d0 d1 d2 d3 z0 z1 hT;go_wp2;have hfin:Row (((((w2.setCell ⟨w.heap.size,0,none⟩ (.bool neg')).setCell ⟨w.heap.size,1,none⟩ (.int .u64 (H:Int))).setCell ⟨w.heap.size,2,none⟩ (.int .u64 (L:Int))).setCell ⟨w.heap.size,3,none⟩ (.int .i64 f')).alloc (.cells #[.bool neg',.int .u64 (H:Int),.int .u64 (L:Int),.int .i64 f'] 125)) w.heap.size 125 (Wd.cells ⟨neg',m',f'⟩):=by unfold Wd.cells;simp only;rw[hH'.out,hL'.out];exact(hA2.set4 _ _ _ _).alloc _
     have q1:=hMM.out;have q2:=hM'.out;have q3:=hD'.out;have q4:=hF'.out;have q5:=hlf.out;refine⟨⟨⟨neg',m',f'⟩,rfl,?_,?_,?_,?_,?_,hfin,?_,?_⟩,?_⟩
     ·simp only;rw[<-hSS.out,<-q2,<-q4,<-strip_go m f (by omega)]
     ·simp only;omega
     ·simp only;omega
     ·simp only;omega
     ·simp only;omega
     ·exact((((hZ2.off _ _ (Ne.symm hne)).off _ _ (Ne.symm hne)).off _ _ (Ne.symm hne)).off _ _ (Ne.symm hne)).alloc _
     ·refine Below.alloc ?_ (by simp[World.setCell];omega) _;repeat (refine below_set ?_ _ _ (Nat.le_refl _))
      exact hB3
     ·rw[eCell_row hfin,hEC];simp only;omega
    ·have hd1:((dg:Int) != 0)=true:=by simp;omega
     have HST:Hid (strip n e=(m,f)):=by show _=_;rw[<-hSS.out];exact strip_fix m f (Or.inl (by rw[hD'.out];exact hd0))
     clear hd0;go_wp2_with fail;refine(hT _).mono ?_;rintro _ w2 ⟨rfl,hB2⟩;obtain⟨hA2,hZ2,hB3⟩:=hbz w2 hB2;have hlt2:w.heap.size<w2.heap.size:=hA2.lt;have hlt3:w.heap.size+1<w2.heap.size:=hZ2.lt;have z3:=hZ2.frozen;obtain⟨g0,g1,g2,g3⟩:=hA2.four;obtain⟨k0,k1,k2,k3⟩:=hZ2.four;clear a0 a1 a2 a3 d0 d1 d2 d3 z0 z1 hT;go_wp2;refine bodyPost_ret (ret_one rfl (g:=w.heap.size+1) rfl (load57 ((Row.set4 hZ2 _ _ _ _).alloc _) rfl)) rfl ⟨?_,?_⟩
     ·rw[HF.out,HST.out];unfold Wd.cells;simp only;rw[hhi'.out,hlo'.out]
     ·refine Below.alloc ?_ (by simp[World.setCell];omega) _;repeat (refine below_set ?_ _ _ (by omega))
      exact hB3
   ·have HST:Hid (strip n e=(m,f)):=by show _=_;rw[<-hS];exact strip_fix m f (Or.inr (by omega))
    clear hT hS hm0 hmM hle hf he he0 h HHI HLO hEC;go_wp2;refine bodyPost_ret (ret_one rfl (g:=w.heap.size+1) rfl (load57 (Row.set4 hZ _ _ _ _) rfl)) rfl ⟨?_,?_⟩
    ·rw[HF.out,HST.out];unfold Wd.cells;simp only;rw[hhi'.out,hlo'.out]
    ·repeat (refine below_set ?_ _ _ (by omega))
     exact hB
end Go.Proofs.YtoncpcdepemlcaaGreatDoor
