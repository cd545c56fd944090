import Derived.Test.YtnhflnpjepiceaaGreatDoorWbsM
import Derived.Test.YtnhflnpjepiceaaGreatDoorCox
import Derived.Test.YtnhflnpjepiceaaGreatDoorMem
namespace Go.Proofs.YtnhflnpjepiceaaGreatDoor
open Go.RowKit Go.Shelf
attribute [local go_sem] Oper.semAt_some
end Go.Proofs.YtnhflnpjepiceaaGreatDoor
namespace Go.Proofs.YtnhflnpjepiceaaGreatDoor
open Go.RowKit Go.Shelf
attribute [local go_sem] Oper.semAt_some
def zM : List (Int × Int) → List Int
  | [] => []
  | x :: xs => (if x.1 = -1 then [46] else []) ++ [x.2] ++ zM xs
end Go.Proofs.YtnhflnpjepiceaaGreatDoor
namespace Go.Proofs.YtnhflnpjepiceaaGreatDoor
open Go.RowKit
set_option maxRecDepth 100000
set_option maxHeartbeats 400000
open Go.RowKit
def zL (p q : Int) : Bool := if p = 0 then decide (q = 0) else decide (-18 ≤ q ∧ q ≤ 18) && (decide (p % 10 ≠ 0) || decide (q = 18))
theorem tmod_dec (p:Int):decide (p % 10≠0)=(Int.tmod p 10 != 0):=by
 have h:p % 10=0↔Int.tmod p 10=0:=⟨fun h=>Int.tmod_eq_zero_of_dvd (Int.dvd_of_emod_eq_zero h),fun h=>Int.emod_eq_zero_of_dvd (Int.dvd_of_tmod_eq_zero h)⟩;by_cases h1:Int.tmod p 10=0
 ·rw[decide_eq_false (by simpa using h.2 h1),h1];rfl
 ·rw[decide_eq_true (show p % 10≠0 from fun e=>h1 (h.1 e))];simp[h1]
theorem tmod_wrap (p:Int):wrap64 (Int.tmod p 10)=Int.tmod p 10:=by
 have e1:=Int.natAbs_tmod p 10;have e2:(Int.tmod p 10).natAbs<10:=by rw[e1];exact Nat.mod_lt _ (by decide)
 unfold wrap64;omega
theorem right_any (p q:Int) (hp:I64 p) (w:World):Calls Tryz.prog 43 #[.agg #[.int .i64 p,.int .i64 q]] w fun r w'=>r=.returned (.bool (zL p q))/\Below w.heap.size w w':=by
 have hb0:∀o,Below w.heap.size w (w.alloc o):=fun o=>(Below.refl _ w).alloc (Nat.le_refl _) _;have hp1:=hp.1;have hp2:=hp.2;unfold zL;by_cases h0:p=0
 ·subst h0;rw[if_pos rfl];clear hp hp1 hp2;by_cases hq:q=0
  ·subst hq;go_enter Tryz.func43,Tryz.ntmps43;go_wp2;go_ret;exact⟨rfl,hb0 _⟩
  ·have hq2:(q==0)=false:=by simpa using hq
   rw[decide_eq_false hq];go_enter Tryz.func43,Tryz.ntmps43;go_wp2;go_ret;exact⟨by first|rfl|simp[hq2],hb0 _⟩
 ·rw[if_neg h0,tmod_dec];have HI:∀b,decide (-18<=q/\q<=18)=b->Hid (decide (-18<=q/\q<=18)=b):=fun _ h=>h;have ht:=tmod_wrap p;clear hp;cases hw:decide (-18<=q/\q<=18) with
  | false =>
   have HI:=HI _ hw;clear hw;go_enter Tryz.func43,Tryz.ntmps43;go_wp2_with (go_at_call 86;refine(yi _ _).mono ?_;rintro _ w10 ⟨rfl,hw10⟩;rw[hw10,HI.out];clear hw10 w10);go_ret;exact⟨rfl,hb0 _⟩
  | true =>
   have HI:=HI _ hw;clear hw;by_cases h1:Int.tmod p 10=0
   ·by_cases h2:q=18
    ·subst h2;rw[h1];go_enter Tryz.func43,Tryz.ntmps43;go_wp2_with (go_at_call 86;refine(yi _ _).mono ?_;rintro _ w10 ⟨rfl,hw10⟩;rw[hw10,HI.out];clear hw10 w10);go_ret;exact⟨by first|rfl|simp,hb0 _⟩
    ·have h3:(q==18)=false:=by simpa using h2
     rw[h1,decide_eq_false h2];go_enter Tryz.func43,Tryz.ntmps43;go_wp2_with (go_at_call 86;refine(yi _ _).mono ?_;rintro _ w10 ⟨rfl,hw10⟩;rw[hw10,HI.out];clear hw10 w10);go_ret;exact⟨by first|rfl|simp[h3],hb0 _⟩
   ·have h3:(Int.tmod p 10 != 0)=true:=by simpa using h1
    have h4:(wrap64 (Int.tmod p 10) != 0)=true:=by rw[ht];exact h3
    rw[h3];go_enter Tryz.func43,Tryz.ntmps43;go_wp2_with (go_at_call 86;refine(yi _ _).mono ?_;rintro _ w10 ⟨rfl,hw10⟩;rw[hw10,HI.out];clear hw10 w10);go_ret;exact⟨by first|rfl|simp,hb0 _⟩
def Rt (p q : Int) : Prop := p % 10 ≠ 0 ∨ (q = 18 ∧ p ≠ 0) ∨ (p = 0 ∧ q = 0)
theorem tell_rt {c e C E:Int} (h:zu c e=some (C,E)):Rt C E:=by
 obtain⟨_,_,_,_,h5,h6,_⟩:=qX h;unfold Rt;by_cases h0:C=0
 ·have hc:=h6.2 h0;subst hc;have:(C,E)=(0,0):=by simpa [zu,yt] using h.symm
  cases this;exact .inr (.inr ⟨rfl,rfl⟩)
 ·omega
theorem right_rt {p q:Int} (hq:zo q) (hr:Rt p q):zL p q=true:=by
 unfold zL;have h1 : -18<=q/\q<=18:=hq;unfold Rt at hr;by_cases h0:p=0
 ·rw[if_pos h0];exact decide_eq_true (by omega)
 ·rw[if_neg h0,decide_eq_true h1];by_cases h2:p % 10≠0
  ·rw[decide_eq_true h2];rfl
  ·rw[decide_eq_true (show q=18 by omega)];simp
theorem qU (c e:Int) (he:zo e):V (-18) (sc (zj c e)) (zj c e).e=V (-18) c e:=sc_dec (-18) c e he.1
set_option maxHeartbeats 1200000
theorem cmp_bad (c e c2 e2:Int) (hc:I64 c) (hb:¬ (zo e/\zo e2)) (w:World):Calls Tryz.prog 79 #[dv c e,dv c2 e2] w fun r w'=>r=.returned (.int .i64 0)/\Below w.heap.size w w':=by
 have hT:∀ K W,Row W K 23 #[.int .i64 c,.int .i64 e,.int .i64 c2,.int .i64 e2]->Calls Tryz.prog 94 #[.slice (some ⟨K,0,none⟩) 2 2] W fun r w'=>Below W.heap.size W w'/\r=.returned (.tuple #[.slice none 0 0,.int .i64 1]):=fun K W hK=>by
  by_cases he:zo e
  ·exact je c e c2 e2 K W hc he (fun h=>hb ⟨he,h⟩) hK
  ·exact jf c e c2 e2 K W he hK
 clear hc hb;unfold dv;go_enter Tryz.func79,Tryz.ntmps79;go_wp2_with fail;obtain⟨_,_,hK,_⟩:=zw w _ _ _ _ 23 23 23 (Below.refl _ (((w.alloc (.cells #[.int .i64 c,.int .i64 e] 23)).alloc (.cells #[.int .i64 c2,.int .i64 e2] 23)).alloc (.cells #[.int .i64 c,.int .i64 e,.int .i64 c2,.int .i64 e2] 23)));refine(hT _ _ hK).mono ?_;rintro _ w1 ⟨h1,rfl⟩;obtain⟨_,_,_,hB⟩:=zw w w1 _ _ _ _ _ _ h1;clear h1 hT hK;go_wp2;go_ret;exact⟨rfl,hB⟩
theorem pcmp_any (c e d f:Int) (hc:I64 c) (hd:I64 d) (w:World):Calls Tryz.prog 79 #[.agg #[.int .i64 c,.int .i64 e],.agg #[.int .i64 d,.int .i64 f]] w fun r w'=>r=.returned (.int .i64 (if (-18<=e/\e<=18)/\(-18<=f/\f<=18) then (V (-18) c e-V (-18) d f).sign else 0))/\Below w.heap.size w w':=by
 by_cases h:(-18<=e/\e<=18)/\(-18<=f/\f<=18)
 ·rw[if_pos h];have h1:zo e:=h.1;have h2:zo f:=h.2;have:=cmp_ok c e d f hc h1 hd h2 w;rw[cmp_eq _ _ (xa c e h1.1 h1.2 hc.1 hc.2) (xa d f h2.1 h2.2 hd.1 hd.2)] at this;unfold VW at this;rw[qU c e h1,qU d f h2] at this;exact this
 ·rw[if_neg h];exact cmp_bad c e d f hc h w
set_option maxHeartbeats 600000
theorem neg_ok (c e:Int) (hc:I64 c) (he:zo e) (w:World):Calls Tryz.prog 84 #[dv c e] w fun r w'=>r=.returned (yf (zu (-V (-18) c e) (-18)))/\Below w.heap.size w w':=by
 have hT:=fun K w (hK:Row w K 23 #[.int .i64 c,.int .i64 e])=>Ys c e K w hc he hK;obtain⟨b1,b2,b3,b4⟩:=yC hc he;have hs:=turned_W (zj c e);have hTD:=told_true (qw (zj c e)) b2 b4.2 b4.1;have hv:zy (qw (zj c e)).neg (qw (zj c e)).n (qw (zj c e)).e=zu (-V (-18) c e) (-18):=by rw[<-jJ,sc_turn,show (qw (zj c e)).e=(zj c e).e from rfl,<-jZ (-18) _ _ (xa c e he.1 he.2 hc.1 hc.2).lo,V_neg,qU c e he]
 rw[hv] at hTD;obtain⟨p,q,v,hdv⟩:=yK (zu (-V (-18) c e) (-18));rw[hdv] at hTD ⊢;clear hdv hv b1 b2 b3 b4;simp only[Wd.val_eq] at hs hTD;obtain⟨y0,y1,y2,y3,hy⟩:∃y0 y1 y2 y3,(zj c e).cells=#[y0,y1,y2,y3]:=⟨_,_,_,_,rfl⟩;obtain⟨z0,z1,z2,z3,hz⟩:∃y0 y1 y2 y3,(qw (zj c e)).cells=#[y0,y1,y2,y3]:=⟨_,_,_,_,rfl⟩;simp only[hy,hz] at hT hs hTD;clear hy hz hc he;unfold dv;go_enter Tryz.func84,Tryz.ntmps84;go_wp2_with fail;obtain⟨_,_,hK,_⟩:=zw w _ _ _ _ 23 23 23 (Below.refl _ (((w.alloc (.cells #[.int .i64 c,.int .i64 e] 23)).alloc (.cells #[.int .i64 0,.int .i64 0] 23)).alloc (.cells #[.int .i64 c,.int .i64 e] 23)));refine(hT _ _ hK).mono ?_;rintro _ W ⟨h1,G,hG,rfl,hR⟩;obtain⟨_,hZ,_,hB⟩:=zw w W _ _ _ _ _ _ h1;obtain⟨x0,x1,x2,x3⟩:=hR.four;clear h1 hG hK hT;go_wp2_with fail;refine(hs _).mono ?_;rintro _ W2 ⟨rfl,h2⟩;have hZ:=hZ.below h2 hZ.lt;have hB:=hB.trans (h2.mono hB.size);clear h2 hs x0 x1 x2 x3;go_wp2_with fail;refine(hTD _).mono ?_;rintro _ W3 ⟨rfl,h3⟩;have hZ:=hZ.below h3 hZ.lt;have hB:=hB.trans (h3.mono hB.size);obtain⟨d0,d1⟩:=hZ.duo;have z:=hZ.frozen;clear h3 hTD;go_wp2;refine bodyPost_ret (zd rfl (g:=w.heap.size+1) rfl rfl (zm (Row.set2 hZ _ _) rfl)) rfl ⟨rfl,?_⟩;repeat (refine za ?_ _ _ (by omega))
 exact hB
theorem neg_bad (c e:Int) (he:¬ zo e) (w:World):Calls Tryz.prog 84 #[dv c e] w fun r w'=>r=.returned Y5/\Below w.heap.size w w':=by
 unfold Y5 dv;go_enter Tryz.func84,Tryz.ntmps84;go_wp2_with fail;obtain⟨_,_,hK,_⟩:=zw w _ _ _ _ 23 23 23 (Below.refl _ (((w.alloc (.cells #[.int .i64 c,.int .i64 e] 23)).alloc (.cells #[.int .i64 0,.int .i64 0] 23)).alloc (.cells #[.int .i64 c,.int .i64 e] 23)));refine(taken1_bad c e _ _ he hK).mono ?_;rintro _ w1 ⟨h1,rfl⟩;obtain⟨_,hZ,_,hB⟩:=zw w w1 _ _ _ _ _ _ h1;obtain⟨d0,d1⟩:=hZ.duo;have z:=hZ.frozen;clear h1;go_wp2;refine bodyPost_ret (zd rfl (g:=w.heap.size+1) rfl rfl (zm (Row.set2 hZ _ _) rfl)) rfl ⟨rfl,?_⟩;repeat (refine za ?_ _ _ (by omega))
 exact hB
end Go.Proofs.YtnhflnpjepiceaaGreatDoor
