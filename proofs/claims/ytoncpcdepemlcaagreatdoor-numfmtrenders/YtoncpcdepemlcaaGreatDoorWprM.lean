import Derived.Test.YtoncpcdepemlcaaGreatDoorWbsM
import Derived.Test.YtoncpcdepemlcaaGreatDoorCox
import Derived.Test.YtoncpcdepemlcaaGreatDoorMem
namespace Go.Proofs.YtoncpcdepemlcaaGreatDoor
open Go.RowKit Go.Shelf
attribute [local go_sem] Oper.semAt_some
def D4 : List (Int × Int) := [(0, 48), (-1, 48), (-2, 48), (-3, 53)]
end Go.Proofs.YtoncpcdepemlcaaGreatDoor
namespace Go.Proofs.YtoncpcdepemlcaaGreatDoor
open Go.RowKit Go.Shelf
attribute [local go_sem] Oper.semAt_some
def outB : List (Int × Int) → List Int
  | [] => []
  | x :: xs => (if x.1 = -1 then [46] else []) ++ [x.2] ++ outB xs
end Go.Proofs.YtoncpcdepemlcaaGreatDoor
namespace Go.Proofs.YtoncpcdepemlcaaGreatDoor
open Go.RowKit
theorem w0:within 0:=⟨by decide,by decide⟩
set_option maxRecDepth 100000
set_option maxHeartbeats 400000
open Go.RowKit
def rightB (p q : Int) : Bool := if p = 0 then decide (q = 0) else decide (-18 ≤ q ∧ q ≤ 18) && (decide (p % 10 ≠ 0) || decide (q = 18))
theorem tmod_dec (p:Int):decide (p % 10≠0)=(Int.tmod p 10 != 0):=by
 have h:p % 10=0↔Int.tmod p 10=0:=⟨fun h=>Int.tmod_eq_zero_of_dvd (Int.dvd_of_emod_eq_zero h),fun h=>Int.emod_eq_zero_of_dvd (Int.dvd_of_tmod_eq_zero h)⟩;by_cases h1:Int.tmod p 10=0
 ·rw[decide_eq_false (by simpa using h.2 h1),h1];rfl
 ·rw[decide_eq_true (show p % 10≠0 from fun e=>h1 (h.1 e))];simp[h1]
theorem tmod_wrap (p:Int):wrap64 (Int.tmod p 10)=Int.tmod p 10:=by
 have e1:=Int.natAbs_tmod p 10;have e2:(Int.tmod p 10).natAbs<10:=by rw[e1];exact Nat.mod_lt _ (by decide)
 unfold wrap64;omega
theorem right_any (p q:Int) (hp:I64 p) (w:World):Calls Tryz.prog 42 #[.agg #[.int .i64 p,.int .i64 q]] w fun r w'=>r=.returned (.bool (rightB p q))/\Below w.heap.size w w':=by
 have hb0:∀o,Below w.heap.size w (w.alloc o):=fun o=>(Below.refl _ w).alloc (Nat.le_refl _) _;have hp1:=hp.1;have hp2:=hp.2;unfold rightB;by_cases h0:p=0
 ·subst h0;rw[if_pos rfl];clear hp hp1 hp2;by_cases hq:q=0
  ·subst hq;go_enter Tryz.func42,Tryz.ntmps42;go_wp2;go_ret;exact⟨rfl,hb0 _⟩
  ·have hq2:(q==0)=false:=by simpa using hq
   rw[decide_eq_false hq];go_enter Tryz.func42,Tryz.ntmps42;go_wp2;go_ret;exact⟨by first|rfl|simp[hq2],hb0 _⟩
 ·rw[if_neg h0,tmod_dec];have HI:∀b,decide (-18<=q/\q<=18)=b->Hid (decide (-18<=q/\q<=18)=b):=fun _ h=>h;have ht:=tmod_wrap p;clear hp;cases hw:decide (-18<=q/\q<=18) with
  | false =>
   have HI:=HI _ hw;clear hw;go_enter Tryz.func42,Tryz.ntmps42;go_wp2_with (go_at_call 74;refine(within_any _ _).mono ?_;rintro _ w10 ⟨rfl,hw10⟩;rw[hw10,HI.out];clear hw10 w10);go_ret;exact⟨rfl,hb0 _⟩
  | true =>
   have HI:=HI _ hw;clear hw;by_cases h1:Int.tmod p 10=0
   ·by_cases h2:q=18
    ·subst h2;rw[h1];go_enter Tryz.func42,Tryz.ntmps42;go_wp2_with (go_at_call 74;refine(within_any _ _).mono ?_;rintro _ w10 ⟨rfl,hw10⟩;rw[hw10,HI.out];clear hw10 w10);go_ret;exact⟨by first|rfl|simp,hb0 _⟩
    ·have h3:(q==18)=false:=by simpa using h2
     rw[h1,decide_eq_false h2];go_enter Tryz.func42,Tryz.ntmps42;go_wp2_with (go_at_call 74;refine(within_any _ _).mono ?_;rintro _ w10 ⟨rfl,hw10⟩;rw[hw10,HI.out];clear hw10 w10);go_ret;exact⟨by first|rfl|simp[h3],hb0 _⟩
   ·have h3:(Int.tmod p 10 != 0)=true:=by simpa using h1
    have h4:(wrap64 (Int.tmod p 10) != 0)=true:=by rw[ht];exact h3
    rw[h3];go_enter Tryz.func42,Tryz.ntmps42;go_wp2_with (go_at_call 74;refine(within_any _ _).mono ?_;rintro _ w10 ⟨rfl,hw10⟩;rw[hw10,HI.out];clear hw10 w10);go_ret;exact⟨by first|rfl|simp,hb0 _⟩
def Rt (p q : Int) : Prop := p % 10 ≠ 0 ∨ (q = 18 ∧ p ≠ 0) ∨ (p = 0 ∧ q = 0)
theorem tell_rt {c e C E:Int} (h:tell c e=some (C,E)):Rt C E:=by
 obtain⟨_,_,_,_,h5,h6,_⟩:=tell_some h;unfold Rt;by_cases h0:C=0
 ·have hc:=h6.2 h0;subst hc;have:(C,E)=(0,0):=by simpa [tell,tellW_zero] using h.symm
  cases this;exact .inr (.inr ⟨rfl,rfl⟩)
 ·omega
theorem right_rt {p q:Int} (hq:within q) (hr:Rt p q):rightB p q=true:=by
 unfold rightB;have h1 : -18<=q/\q<=18:=hq;unfold Rt at hr;by_cases h0:p=0
 ·rw[if_pos h0];exact decide_eq_true (by omega)
 ·rw[if_neg h0,decide_eq_true h1];by_cases h2:p % 10≠0
  ·rw[decide_eq_true h2];rfl
  ·rw[decide_eq_true (show q=18 by omega)];simp
theorem sign_ok (c e:Int) (hc:I64 c) (he:within e) (w:World):Calls Tryz.prog 48 #[.agg #[.int .i64 c,.int .i64 e]] w fun r w'=>r=.returned (.int .i64 (sgW (decW c e)))/\Below w.heap.size w w':=by
 have hT:=fun K w (hK:Row w K 38 #[.int .i64 c,.int .i64 e])=>taken1 c e K w hc he hK;have hs:=sign_W (decW c e);simp only[Wd.val_eq] at hs;obtain⟨y0,y1,y2,y3,hy⟩:∃y0 y1 y2 y3,(decW c e).cells=#[y0,y1,y2,y3]:=⟨_,_,_,_,rfl⟩;simp only[hy] at hT hs;generalize sgW (decW c e)=sg at *;clear hy;go_enter Tryz.func48,Tryz.ntmps48;go_wp2_with fail;have hK:=Row.new1 w (.cells #[.int .i64 c,.int .i64 e] 38) 38 #[.int .i64 c,.int .i64 e];refine(hT _ _ hK).mono ?_;rintro _ W ⟨h1,G,hG,rfl,hR⟩;obtain⟨_,_,hB⟩:=two_rows w W _ _ _ _ h1;obtain⟨x0,x1,x2,x3⟩:=hR.four;clear h1 hG hK hT;go_wp2_with fail;refine(hs _).mono ?_;rintro _ W2 ⟨rfl,h2⟩;go_wp2;go_ret;exact⟨rfl,hB.trans (h2.mono hB.size)⟩
theorem VW_dec' (c e:Int) (he:within e):V (-18) (sc (decW c e)) (decW c e).e=V (-18) c e:=sc_dec (-18) c e he.1
def D2 (p q : Int) : Value := .agg #[.int .i64 p, .int .i64 q]
set_option maxHeartbeats 600000
theorem neg_ok (c e:Int) (hc:I64 c) (he:within e) (w:World):Calls Tryz.prog 81 #[dv c e] w fun r w'=>r=.returned (decV (tell (-V (-18) c e) (-18)))/\Below w.heap.size w w':=by
 have hT:=fun K w (hK:Row w K 38 #[.int .i64 c,.int .i64 e])=>taken1 c e K w hc he hK;obtain⟨b1,b2,b3,b4⟩:=dec_bounds hc he;have hs:=turned_W (decW c e);have hTD:=told_true (turnW (decW c e)) b2 b4.2 b4.1;have hv:tellW (turnW (decW c e)).neg (turnW (decW c e)).n (turnW (decW c e)).e=tell (-V (-18) c e) (-18):=by rw[<-tell_sc,sc_turn,show (turnW (decW c e)).e=(decW c e).e from rfl,<-tell_V (-18) _ _ (sh_dec c e he.1 he.2 hc.1 hc.2).lo,V_neg,VW_dec' c e he]
 rw[hv] at hTD;obtain⟨p,q,v,hdv⟩:=decV_form (tell (-V (-18) c e) (-18));rw[hdv] at hTD ⊢;clear hdv hv b1 b2 b3 b4;simp only[Wd.val_eq] at hs hTD;obtain⟨y0,y1,y2,y3,hy⟩:∃y0 y1 y2 y3,(decW c e).cells=#[y0,y1,y2,y3]:=⟨_,_,_,_,rfl⟩;obtain⟨z0,z1,z2,z3,hz⟩:∃y0 y1 y2 y3,(turnW (decW c e)).cells=#[y0,y1,y2,y3]:=⟨_,_,_,_,rfl⟩;simp only[hy,hz] at hT hs hTD;clear hy hz hc he;unfold dv;go_enter Tryz.func81,Tryz.ntmps81;go_wp2_with fail;obtain⟨_,_,hK,_⟩:=three_rows w _ _ _ _ 38 38 38 (Below.refl _ (((w.alloc (.cells #[.int .i64 c,.int .i64 e] 38)).alloc (.cells #[.int .i64 0,.int .i64 0] 38)).alloc (.cells #[.int .i64 c,.int .i64 e] 38)));refine(hT _ _ hK).mono ?_;rintro _ W ⟨h1,G,hG,rfl,hR⟩;obtain⟨_,hZ,_,hB⟩:=three_rows w W _ _ _ _ _ _ h1;obtain⟨x0,x1,x2,x3⟩:=hR.four;clear h1 hG hK hT;go_wp2_with fail;refine(hs _).mono ?_;rintro _ W2 ⟨rfl,h2⟩;have hZ:=hZ.below h2 hZ.lt;have hB:=hB.trans (h2.mono hB.size);clear h2 hs x0 x1 x2 x3;go_wp2_with fail;refine(hTD _).mono ?_;rintro _ W3 ⟨rfl,h3⟩;have hZ:=hZ.below h3 hZ.lt;have hB:=hB.trans (h3.mono hB.size);obtain⟨d0,d1⟩:=hZ.duo;have z:=hZ.frozen;clear h3 hTD;go_wp2;refine bodyPost_ret (ret_two rfl (g:=w.heap.size+1) rfl rfl (load23 (Row.set2 hZ _ _) rfl)) rfl ⟨rfl,?_⟩;repeat (refine below_set ?_ _ _ (by omega))
 exact hB
theorem neg_bad (c e:Int) (he:¬ within e) (w:World):Calls Tryz.prog 81 #[dv c e] w fun r w'=>r=.returned argV/\Below w.heap.size w w':=by
 unfold argV dv;go_enter Tryz.func81,Tryz.ntmps81;go_wp2_with fail;obtain⟨_,_,hK,_⟩:=three_rows w _ _ _ _ 38 38 38 (Below.refl _ (((w.alloc (.cells #[.int .i64 c,.int .i64 e] 38)).alloc (.cells #[.int .i64 0,.int .i64 0] 38)).alloc (.cells #[.int .i64 c,.int .i64 e] 38)));refine(taken1_bad c e _ _ he hK).mono ?_;rintro _ w1 ⟨h1,rfl⟩;obtain⟨_,hZ,_,hB⟩:=three_rows w w1 _ _ _ _ _ _ h1;obtain⟨d0,d1⟩:=hZ.duo;have z:=hZ.frozen;clear h1;go_wp2;refine bodyPost_ret (ret_two rfl (g:=w.heap.size+1) rfl rfl (load23 (Row.set2 hZ _ _) rfl)) rfl ⟨rfl,?_⟩;repeat (refine below_set ?_ _ _ (by omega))
 exact hB
set_option maxHeartbeats 1200000
theorem sign_bad (c e:Int) (he:¬ within e) (w:World):Calls Tryz.prog 48 #[.agg #[.int .i64 c,.int .i64 e]] w fun r w'=>r=.returned (.int .i64 0)/\Below w.heap.size w w':=by
 have hK:=Row.new1 w (.cells #[.int .i64 c,.int .i64 e] 38) 38 #[.int .i64 c,.int .i64 e];have hT:=taken1_bad c e _ _ he hK;clear he;go_enter Tryz.func48,Tryz.ntmps48;go_wp2_with fail;refine hT.mono ?_;rintro _ w1 ⟨h1,rfl⟩;obtain⟨_,_,hB⟩:=two_rows w w1 _ _ _ _ h1;clear h1 hT hK;go_wp2;go_ret;exact⟨rfl,hB⟩
theorem psign_any (c e:Int) (hc:I64 c) (w:World):Calls Tryz.prog 48 #[.agg #[.int .i64 c,.int .i64 e]] w fun r w'=>r=.returned (.int .i64 (if -18<=e/\e<=18 then (V (-18) c e).sign else 0))/\Below w.heap.size w w':=by
 by_cases h : -18<=e/\e<=18
 ·rw[if_pos h];have h1:within e:=h;have:=sign_ok c e hc h1 w;rw[<-VW_sign] at this;unfold VW at this;rw[VW_dec' c e h1] at this;exact this
 ·rw[if_neg h];exact sign_bad c e h w
end Go.Proofs.YtoncpcdepemlcaaGreatDoor
