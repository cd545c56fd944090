import Derived.Test.YtnhflnpjepiceaaGreatDoorPqzM
import Derived.Test.YtnhflnpjepiceaaGreatDoorWprM
import Derived.Deep.CutBlock
import Derived.Deep.DeepCutAuto
import Derived.Test.YtnhflnpjepiceaaGreatDoorVrtM
import Derived.Test.YtnhflnpjepiceaaGreatDoorUfsM
namespace Go.Proofs.YtnhflnpjepiceaaGreatDoor
set_option maxRecDepth 100000
set_option maxHeartbeats 2000000
open Go.RowKit
theorem right_tell (c e:Int) (hc:I64 c) (he:zo e):∃p q,zu c e=some (p,q)/\zL c e=(decide (p=c)&&decide (q=e)):=by
 refine⟨_,_,ZM c e hc he,?_⟩;have hrt:=tell_rt (ZM c e hc he);by_cases hr:Rt c e
 ·rw[right_rt he hr];have hfix:zj c e=yF c e:=by
   unfold zj zH;unfold Rt at hr;by_cases h0:c=0
   ·have he0:e=0:=by omega
    subst h0 he0;rfl
   ·rw[if_neg (by unfold yF;simp;omega)];have:zJ (yF c e).n (yF c e).e=((yF c e).n,(yF c e).e):=x7 _ _ (by unfold yF;simp only;omega);rw[this]
  have h1:sc (zj c e)=c:=by
   rw[hfix];unfold sc yF;simp only;by_cases h:c<0
   ·rw[decide_eq_true h,if_pos rfl];omega
   ·rw[decide_eq_false h,if_neg (by simp)];omega
  have h2:(zj c e).e=e:=by rw[hfix];rfl
  rw[h1,h2];simp
 ·have h1:zL c e=false:=by
   cases hb:zL c e with
   | false=>rfl
   | true =>
    exfalso;apply hr;unfold zL at hb;unfold Rt;by_cases h0:c=0
    ·rw[if_pos h0] at hb;exact .inr (.inr ⟨h0,of_decide_eq_true hb⟩)
    ·rw[if_neg h0] at hb;simp at hb;rcases hb.2 with h|h
     ·exact .inl h
     ·exact .inr (.inl ⟨h,h0⟩)
  rw[h1];cases hd:(decide (sc (zj c e)=c)&&decide ((zj c e).e=e)) with
  | false=>rfl
  | true =>
   exfalso;simp at hd;rw[hd.1,hd.2] at hrt;exact hr hrt
theorem rright_bad (c e:Int) (he:¬ zo e) (w:World):Calls Tryz.prog 46 #[.agg #[.int .i64 c,.int .i64 e]] w fun r w'=>r=.returned (.bool false)/\Below w.heap.size w w':=by
 have b0:∀o,Below w.heap.size w (w.alloc o):=fun o=>(Below.refl _ w).alloc (Nat.le_refl _) _;by_cases h1:e < -18
 ·clear he;go_enter Tryz.func46,Tryz.ntmps46;go_wp2;go_ret;exact⟨rfl,b0 _⟩
 ·have h2:18<e:=by unfold zo at he;omega
  clear he;go_enter Tryz.func46,Tryz.ntmps46;go_wp2;go_ret;exact⟨rfl,b0 _⟩
theorem rright_ok (c e:Int) (hc:I64 c) (he:zo e) (w:World):Calls Tryz.prog 46 #[.agg #[.int .i64 c,.int .i64 e]] w fun r w'=>r=.returned (.bool (zL c e))/\Below w.heap.size w w':=by
 obtain⟨p,q,hpq,hrb⟩:=right_tell c e hc he;obtain⟨h1,h2⟩ : -18<=e/\e<=18:=he;rw[hrb];have HL:Hid ((digs c.natAbs).length<=500):=Nat.le_trans (zC _ 19 (by unfold I64 at hc;omega)) (by decide);have HOF:∀ V,Hid (Calls Tryz.prog 89 #[.int .i64 c] V _):=fun V=>ZT c hc V;have HTE:∀ V s,zr V s (digs c.natAbs)->Hid (Calls Tryz.prog 88 #[.agg #[.bool (decide (c<0)),s,.int .i64 e]] V fun r w'=>r=.returned (.tuple #[.agg #[.int .i64 p,.int .i64 q],.int .i64 0])/\Below V.heap.size V w'):=fun V s h=>by have:=xE c e _ V ⟨s,rfl,h⟩ (by omega) (by omega) HL.out;rw[hpq] at this;exact this
 have r1:=Row.new w 23 #[.int .i64 c,.int .i64 e];have b0:=(Below.refl _ w).alloc (Nat.le_refl _) (.cells #[.int .i64 c,.int .i64 e] 23);clear hpq hrb hc;go_enter Tryz.func46,Tryz.ntmps46;go_upto_region 3 with fail
 generalize w.alloc (.cells #[.int .i64 c,.int .i64 e] 23)=W at *;have hS:Below W.heap.size W W.drew:=(Below.refl _ W).drew;have ca:∀wx,Below W.heap.size W wx->wx.cell? ⟨w.heap.size,0,none⟩=some (.int .i64 c)/\wx.cell? ⟨w.heap.size,1,none⟩=some (.int .i64 e):=fun wx hx=>(r1.below hx r1.lt).duo;refine Ib W 13 13 ?_;refine Oh 0 hS ?_;refine Oh 1 hS ?_ (v:=.int .i64 c) (y:=by intro wx hx;obtain⟨x0,x1⟩:=ca wx hx;go_simp<;>rfl);refine Oh 3 hS ?_;refine Oh 4 hS ?_ (v:=.int .i64 e) (y:=by intro wx hx;obtain⟨x0,x1⟩:=ca wx hx;go_simp<;>rfl);refine zD 2 10 rfl rfl (by kernel_rfl) rfl rfl ?_ ?_
 ·go_wp2_with fail;refine Calls.mono (HOF _).out ?_;rintro _ w2 ⟨v2,rfl,hV2,b2⟩;obtain⟨s2,rfl,hD2⟩:=hV2;obtain⟨_,a3,c3,rfl,_,_⟩:=id hD2;have hS2:Below W.heap.size W w2:=hS.trans (b2.mono hS.size);unfold bv;obtain⟨sg,HSG⟩:∃sg,Hid (decide (c<0)=sg):=⟨_,rfl⟩;obtain⟨n3,HN3⟩:∃n3,Hid ((digs c.natAbs).length=n3):=⟨_,rfl⟩;have HTE:=HTE;rw[HSG.out] at HTE;rw[HN3.out] at hD2;rw[HSG.out,HN3.out];clear b2 HOF;go_wp2_with fail;refine⟨fun _=>hS2,?_⟩;refine Oh 5 hS2 ?_ (v:=.agg #[.bool sg,.slice a3 n3 c3,.int .i64 e]);refine zD 6 10 rfl rfl (by kernel_rfl) rfl rfl ?_ ?_
  ·go_wp2_with fail;refine Calls.mono (HTE _ _ hD2).out ?_;rintro _ w4 ⟨rfl,b4⟩;have hS24:Below W.heap.size W w4:=hS2.trans (b4.mono hS2.size);clear b4 HTE;go_wp2_with fail;refine⟨fun _=>hS24,?_⟩;refine Oh 7 hS24 ?_ (v:=.tuple #[.agg #[.int .i64 p,.int .i64 q],.int .i64 0]);refine Oh 8 hS24 ?_ (v:=.agg #[.int .i64 p,.int .i64 q]);refine Oh 9 hS24 ?_ (v:=.int .i64 0);refine Oo 10 ?_;go_wp2_with fail;have kr:=Row.new w4 23 #[.int .i64 0,.int .i64 0];have hS24a:Below W.heap.size W (w4.alloc (.cells #[.int .i64 0,.int .i64 0] 23)):=hS24.alloc hS24.size _;have kl:W.heap.size<=w4.heap.size:=hS24.size;have kb:Below w4.heap.size w4 (w4.alloc (.cells #[.int .i64 0,.int .i64 0] 23)):=(Below.refl _ _).alloc (Nat.le_refl _) _;refine⟨fun _=>hS24a,?_⟩;generalize w4.alloc (.cells #[.int .i64 0,.int .i64 0] 23)=kw at *;generalize hK:w4.heap.size=K at *;have wl:=kr.lt;obtain⟨x0,x1⟩:=kr.duo;have zf:=kr.frozen;have hZ:=Row.set2 kr (.int .i64 p) (.int .i64 q);have hR1:=r1.below hS24a r1.lt;have hKne:w.heap.size≠K:=by have:=r1.lt;omega
   have hZ1:=(hR1.kept ((Kept.refl (fun b=>b≠K) _).setCell (p:=⟨K,0,none⟩) (by simp) (.int .i64 p)) hKne).kept ((Kept.refl (fun b=>b≠K) _).setCell (p:=⟨K,1,none⟩) (by simp) (.int .i64 q)) hKne;have hBe:=b0.trans (hS24a.mono b0.size);have hBf:=za (za hBe (B:=K) 0 (.int .i64 p) (by have:=b0.size;omega)) (B:=K) 1 (.int .i64 q) (by have:=b0.size;omega);have hSf:=za (za hS24a (B:=K) 0 (.int .i64 p) (by omega)) (B:=K) 1 (.int .i64 q) (by omega);refine Oo 11 ?_;go_wp2_with fail;refine⟨fun _=>hSf,?_⟩;refine Oo 12 ?_;go_wp2_with fail;refine⟨fun _=>hSf,?_⟩;refine Od ?_;obtain⟨z0,z1⟩:=hZ.duo;obtain⟨z2,z3⟩:=hZ1.duo;clear x0 x1 zf hZ hZ1 hR1 hSf wl;by_cases e1:p=c
   ·subst e1;by_cases e2:q=e
    ·subst e2;go_wp2;go_ret;exact⟨by first|rfl|simp,hBf⟩
    ·go_wp2;go_ret;exact⟨by first|rfl|(rw[decide_eq_false e2,Bool.and_false];rfl),hBf⟩
   ·by_cases e2:q=e
    ·subst e2;go_wp2;go_ret;exact⟨by first|rfl|(rw[decide_eq_false e1];rfl),hBf⟩
    ·go_wp2;go_ret;exact⟨by first|rfl|(rw[decide_eq_false e1];rfl),hBf⟩
  ·go_wp2_with fail;have kr:=Row.new w2 23 #[.int .i64 0,.int .i64 0];have hS2a:Below W.heap.size W (w2.alloc (.cells #[.int .i64 0,.int .i64 0] 23)):=hS2.alloc hS2.size _;have kl:W.heap.size<=w2.heap.size:=hS2.size;have kb:Below w2.heap.size w2 (w2.alloc (.cells #[.int .i64 0,.int .i64 0] 23)):=(Below.refl _ _).alloc (Nat.le_refl _) _;refine⟨fun _=>hS2a,?_⟩;have hD3:=hD2.below kb;generalize w2.alloc (.cells #[.int .i64 0,.int .i64 0] 23)=kw at *;generalize hK:w2.heap.size=K at *;refine Oo 6 ?_;go_wp2_with fail;refine Calls.mono (HTE _ _ hD3).out ?_;rintro _ w4 ⟨rfl,b4⟩;have hS2a4:Below W.heap.size W w4:=hS2a.trans (b4.mono hS2a.size);have kr4:=kr.below b4 kr.lt;clear b4 HTE;go_wp2_with fail;refine⟨fun _=>hS2a4,?_⟩;refine Oh 7 hS2a4 ?_ (v:=.tuple #[.agg #[.int .i64 p,.int .i64 q],.int .i64 0]);refine Oh 8 hS2a4 ?_ (v:=.agg #[.int .i64 p,.int .i64 q]);refine Oh 9 hS2a4 ?_ (v:=.int .i64 0);have wl:=kr4.lt;obtain⟨x0,x1⟩:=kr4.duo;have zf:=kr4.frozen;have hZ:=Row.set2 kr4 (.int .i64 p) (.int .i64 q);have hR1:=r1.below hS2a4 r1.lt;have hKne:w.heap.size≠K:=by have:=r1.lt;omega
   have hZ1:=(hR1.kept ((Kept.refl (fun b=>b≠K) _).setCell (p:=⟨K,0,none⟩) (by simp) (.int .i64 p)) hKne).kept ((Kept.refl (fun b=>b≠K) _).setCell (p:=⟨K,1,none⟩) (by simp) (.int .i64 q)) hKne;have hBe:=b0.trans (hS2a4.mono b0.size);have hBf:=za (za hBe (B:=K) 0 (.int .i64 p) (by have:=b0.size;omega)) (B:=K) 1 (.int .i64 q) (by have:=b0.size;omega);have hSf:=za (za hS2a4 (B:=K) 0 (.int .i64 p) (by omega)) (B:=K) 1 (.int .i64 q) (by omega);refine Oo 11 ?_;go_wp2_with fail;refine⟨fun _=>hSf,?_⟩;refine Oo 12 ?_;go_wp2_with fail;refine⟨fun _=>hSf,?_⟩;refine Od ?_;obtain⟨z0,z1⟩:=hZ.duo;obtain⟨z2,z3⟩:=hZ1.duo;clear x0 x1 zf hZ hZ1 hR1 hSf wl;by_cases e1:p=c
   ·subst e1;by_cases e2:q=e
    ·subst e2;go_wp2;go_ret;exact⟨by first|rfl|simp,hBf⟩
    ·go_wp2;go_ret;exact⟨by first|rfl|(rw[decide_eq_false e2,Bool.and_false];rfl),hBf⟩
   ·by_cases e2:q=e
    ·subst e2;go_wp2;go_ret;exact⟨by first|rfl|(rw[decide_eq_false e1];rfl),hBf⟩
    ·go_wp2;go_ret;exact⟨by first|rfl|(rw[decide_eq_false e1];rfl),hBf⟩
 ·go_wp2_with fail;have kr:Row (W.alloc (.cells #[.int .i64 0,.int .i64 0] 23)).drew W.heap.size 23 #[.int .i64 0,.int .i64 0]:=Row.new W 23 #[.int .i64 0,.int .i64 0];have hSa:Below W.heap.size W (W.alloc (.cells #[.int .i64 0,.int .i64 0] 23)).drew:=((Below.refl _ W).alloc (Nat.le_refl _) _).drew;have kl:W.heap.size<=W.heap.size:=Nat.le_refl _;refine⟨fun _=>hSa,?_⟩;generalize (W.alloc (.cells #[.int .i64 0,.int .i64 0] 23)).drew=kw at *;refine Oo 2 ?_;go_wp2_with fail;refine Calls.mono (HOF _).out ?_;rintro _ w2 ⟨v2,rfl,hV2,b2⟩;obtain⟨s2,rfl,hD2⟩:=hV2;obtain⟨_,a3,c3,rfl,_,_⟩:=id hD2;have hSa2:Below W.heap.size W w2:=hSa.trans (b2.mono hSa.size);have kr2:=kr.below b2 kr.lt;unfold bv;obtain⟨sg,HSG⟩:∃sg,Hid (decide (c<0)=sg):=⟨_,rfl⟩;obtain⟨n3,HN3⟩:∃n3,Hid ((digs c.natAbs).length=n3):=⟨_,rfl⟩;have HTE:=HTE;rw[HSG.out] at HTE;rw[HN3.out] at hD2;rw[HSG.out,HN3.out];clear b2 HOF;go_wp2_with fail;refine⟨fun _=>hSa2,?_⟩;refine Oh 5 hSa2 ?_ (v:=.agg #[.bool sg,.slice a3 n3 c3,.int .i64 e]);refine Oo 6 ?_;go_wp2_with fail;refine Calls.mono (HTE _ _ hD2).out ?_;rintro _ w4 ⟨rfl,b4⟩;have hSa24:Below W.heap.size W w4:=hSa2.trans (b4.mono hSa2.size);have kr4:=kr2.below b4 kr2.lt;clear b4 HTE;go_wp2_with fail;refine⟨fun _=>hSa24,?_⟩;refine Oh 7 hSa24 ?_ (v:=.tuple #[.agg #[.int .i64 p,.int .i64 q],.int .i64 0]);refine Oh 8 hSa24 ?_ (v:=.agg #[.int .i64 p,.int .i64 q]);refine Oh 9 hSa24 ?_ (v:=.int .i64 0);have wl:=kr4.lt;obtain⟨x0,x1⟩:=kr4.duo;have zf:=kr4.frozen;have hZ:=Row.set2 kr4 (.int .i64 p) (.int .i64 q);have hR1:=r1.below hSa24 r1.lt;have hKne:w.heap.size≠W.heap.size:=by have:=r1.lt;omega
  have hZ1:=(hR1.kept ((Kept.refl (fun b=>b≠W.heap.size) _).setCell (p:=⟨W.heap.size,0,none⟩) (by simp) (.int .i64 p)) hKne).kept ((Kept.refl (fun b=>b≠W.heap.size) _).setCell (p:=⟨W.heap.size,1,none⟩) (by simp) (.int .i64 q)) hKne;have hBe:=b0.trans (hSa24.mono b0.size);have hBf:=za (za hBe (B:=W.heap.size) 0 (.int .i64 p) (by have:=b0.size;omega)) (B:=W.heap.size) 1 (.int .i64 q) (by have:=b0.size;omega);have hSf:=za (za hSa24 (B:=W.heap.size) 0 (.int .i64 p) (by omega)) (B:=W.heap.size) 1 (.int .i64 q) (by omega);refine Oo 11 ?_;go_wp2_with fail;refine⟨fun _=>hSf,?_⟩;refine Oo 12 ?_;go_wp2_with fail;refine⟨fun _=>hSf,?_⟩;refine Od ?_;obtain⟨z0,z1⟩:=hZ.duo;obtain⟨z2,z3⟩:=hZ1.duo;clear x0 x1 zf hZ hZ1 hR1 hSf wl;by_cases e1:p=c
  ·subst e1;by_cases e2:q=e
   ·subst e2;go_wp2;go_ret;exact⟨by first|rfl|simp,hBf⟩
   ·go_wp2;go_ret;exact⟨by first|rfl|(rw[decide_eq_false e2,Bool.and_false];rfl),hBf⟩
  ·by_cases e2:q=e
   ·subst e2;go_wp2;go_ret;exact⟨by first|rfl|(rw[decide_eq_false e1];rfl),hBf⟩
   ·go_wp2;go_ret;exact⟨by first|rfl|(rw[decide_eq_false e1];rfl),hBf⟩
theorem rright_any (c e:Int) (hc:I64 c) (w:World):Calls Tryz.prog 46 #[.agg #[.int .i64 c,.int .i64 e]] w fun r w'=>r=.returned (.bool (zL c e))/\Below w.heap.size w w':=by
 by_cases he:zo e
 ·exact rright_ok c e hc he w
 ·have h1:zL c e=false:=by
   unfold zL;unfold zo at he;by_cases h0:c=0
   ·rw[if_pos h0];exact decide_eq_false (by omega)
   ·rw[if_neg h0,decide_eq_false (by omega)];rfl
  rw[h1];exact rright_bad c e he w
set_option maxHeartbeats 1200000
theorem xv (b:Bool) (w:World):Calls Tryz.prog 33 #[.bool b] w fun r w'=>r=.returned (vB b).v/\Below w.heap.size w w':=by
 go_enter Tryz.func33,Tryz.ntmps33;go_wp2;refine bodyPost_ret (zb rfl (g:=w.heap.size) rfl (yJ (Row.new w 25 _) rfl)) rfl ⟨rfl,?_⟩;exact(Below.refl _ w).alloc (Nat.le_refl _) _
theorem rword_any (b:Bool) (w:World):Calls Tryz.prog 54 #[.bool b] w fun r w'=>r=.returned (.string (x9 b))/\w'=w:=by
 cases b
 ·go_enter Tryz.func54,Tryz.ntmps54;go_wp2;go_ret;exact⟨rfl,rfl⟩
 ·go_enter Tryz.func54,Tryz.ntmps54;go_wp2;go_ret;exact⟨rfl,rfl⟩
theorem xo (x:Int) (w:World):Calls Tryz.prog 28 #[.int .i64 x] w fun r w'=>r=.returned (YT x).v/\Below w.heap.size w w':=by
 unfold YT xW;by_cases h1:x<1
 ·rw[decide_eq_false (by omega)];go_enter Tryz.func28,Tryz.ntmps28;go_wp2;refine bodyPost_ret (zb rfl (g:=w.heap.size) rfl (yJ (Row.new w 25 _) rfl)) rfl ⟨rfl,?_⟩;exact(Below.refl _ w).alloc (Nat.le_refl _) _
 ·by_cases h2:7<x
  ·rw[decide_eq_false (by omega)];go_enter Tryz.func28,Tryz.ntmps28;go_wp2;refine bodyPost_ret (zb rfl (g:=w.heap.size) rfl (yJ (Row.new w 25 _) rfl)) rfl ⟨rfl,?_⟩;exact(Below.refl _ w).alloc (Nat.le_refl _) _
  ·rw[decide_eq_true (by omega)];go_enter Tryz.func28,Tryz.ntmps28;go_wp2;refine bodyPost_ret (zb rfl (g:=w.heap.size) rfl (yJ (Row.new w 25 _) rfl)) rfl ⟨rfl,?_⟩;exact(Below.refl _ w).alloc (Nat.le_refl _) _
theorem ke (s:ByteArray) (w:World):Calls Tryz.prog 47 #[.string s] w fun r w'=>r=.returned (.bool (yB s))/\Below w.heap.size w w':=by
 unfold yB;have HX:s.size<=255->∀ V,Hid (Calls Tryz.prog 90 #[.string s] V fun e w'=>e=.returned (.int .i64 (Xp (qJ (zc s))))/\Below V.heap.size V w'):=fun h V=>xml_any s (by omega) V;obtain⟨R,HR⟩:∃ R,Hid (qJ (zc s)=R):=⟨_,rfl⟩;simp only[HR.out] at HX ⊢;by_cases h1:s.size<=255
 ·rw[decide_eq_true h1];cases R
  ·go_enter Tryz.func47,Tryz.ntmps47;go_wp2_with fail;refine Calls.mono (HX h1 _).out ?_;rintro _ w1 ⟨rfl,b1⟩;unfold Xp;go_wp2;go_ret;exact⟨rfl,b1⟩
  ·go_enter Tryz.func47,Tryz.ntmps47;go_wp2_with fail;refine Calls.mono (HX h1 _).out ?_;rintro _ w1 ⟨rfl,b1⟩;unfold Xp;go_wp2;go_ret;exact⟨rfl,b1⟩
 ·rw[decide_eq_false h1];go_enter Tryz.func47,Tryz.ntmps47;go_wp2;go_ret;exact⟨rfl,Below.refl _ _⟩
theorem kc (s:ByteArray) (w:World):Calls Tryz.prog 26 #[.string s] w fun r w'=>r=.returned (jW s).v/\Below w.heap.size w w':=by
 unfold jW;have r0:=Row.new w 25 #[.int .i64 0,.int .i64 0,.int .i64 0,.string .empty,.bool false,.int .i64 0];have b0:Below w.heap.size w (w.alloc (.cells #[.int .i64 0,.int .i64 0,.int .i64 0,.string .empty,.bool false,.int .i64 0] 25)):=(Below.refl _ w).alloc (Nat.le_refl _) _;cases h:yB s with
 | false =>
  go_enter Tryz.func26,Tryz.ntmps26;go_wp2_with fail;refine Calls.mono (ke s _) ?_;rintro _ w1 ⟨rfl,b1⟩;rw[h];go_wp2_with fail;refine Calls.mono (xo 2 _) ?_;rintro _ w2 ⟨rfl,b2⟩;rw[kU];have s1:=b1.size;simp only[World.size_alloc] at s1;have r2:=(r0.below b1 (by simp)).below b2 (by omega);have bb:Below w.heap.size w w2:=(b0.trans (b1.mono (by simp))).trans (b2.mono (by omega));obtain⟨y0,y1,y2,y3,y4,y5⟩:=r2.six;have zf:=r2.frozen;have wl:=r2.lt;clear b1 b2 b0 r0;go_wp2;exact bodyPost_ret (zb rfl (g:=w.heap.size) rfl (yJ (r2.set6 _ _ _ _ _ _) rfl)) rfl ⟨rfl,zE bb (Nat.le_refl _) _ _ _ _ _ _⟩
 | true =>
  go_enter Tryz.func26,Tryz.ntmps26;go_wp2_with fail;refine Calls.mono (ke s _) ?_;rintro _ w1 ⟨rfl,b1⟩;rw[h];have r2:=r0.below b1 (by simp);have bb:Below w.heap.size w w1:=b0.trans (b1.mono (by simp));obtain⟨y0,y1,y2,y3,y4,y5⟩:=r2.six;have zf:=r2.frozen;have wl:=r2.lt;clear b1 b0 r0;go_wp2;exact bodyPost_ret (zb rfl (g:=w.heap.size) rfl (yJ (r2.set6 _ _ _ _ _ _) rfl)) rfl ⟨rfl,zE bb (Nat.le_refl _) _ _ _ _ _ _⟩
theorem jg (c e er:Int) (hc:I64 c) (w:World):Calls Tryz.prog 24 #[.agg #[.int .i64 c,.int .i64 e],.int .i64 er] w fun r w'=>r=.returned (ofW c e er).v/\Below w.heap.size w w':=by
 have HR:∀ V,Hid (Calls Tryz.prog 46 #[.agg #[.int .i64 c,.int .i64 e]] V fun r w'=>r=.returned (.bool (zL c e))/\Below V.heap.size V w'):=fun V=>rright_any c e hc V;unfold ofW;obtain⟨R,hR⟩:∃ R,zL c e=R:=⟨_,rfl⟩;rw[hR] at HR ⊢;clear hR hc;have h0:=DR.start w #[.int .i64 c,.int .i64 e] #[.int .i64 0,.int .i64 0,.int .i64 0,.string .empty,.bool false,.int .i64 0];by_cases e1:er=31
 ·subst e1;rw[if_pos rfl];go_enter Tryz.func24,Tryz.ntmps24;go_wp2_with fail;refine Calls.mono (xo 1 _) ?_;rintro _ w2 ⟨rfl,b2⟩;rw[errW1];have h2:=h0.next b2
  obtain⟨y0,y1,y2,y3,y4,y5⟩:=h2.2.1.six;have zf:=h2.2.1.frozen;have wl:=h2.2.1.lt;clear b2 HR h0;go_wp2;exact bodyPost_ret (zb rfl (g:=w.heap.size+1) rfl (h2.ret _ _ _ _ _ _)) rfl ⟨rfl,zE h2.2.2 (by omega) _ _ _ _ _ _⟩
 ·rw[if_neg e1];by_cases e0:er=0
  ·subst e0;cases R
   ·rw[if_pos (.inr rfl)];go_enter Tryz.func24,Tryz.ntmps24;go_wp2_with fail;refine Calls.mono (HR _).out ?_;rintro _ w1 ⟨rfl,b1⟩;have h1:=h0.next b1
    clear h0 b1 HR;go_wp2_with fail;refine Calls.mono (xo 5 _) ?_;rintro _ w2 ⟨rfl,b2⟩;rw[XM];have h2:=h1.next b2
    obtain⟨y0,y1,y2,y3,y4,y5⟩:=h2.2.1.six;have zf:=h2.2.1.frozen;have wl:=h2.2.1.lt;clear h1 b2;go_wp2;exact bodyPost_ret (zb rfl (g:=w.heap.size+1) rfl (h2.ret _ _ _ _ _ _)) rfl ⟨rfl,zE h2.2.2 (by omega) _ _ _ _ _ _⟩
   ·rw[if_neg (by simp)];go_enter Tryz.func24,Tryz.ntmps24;go_wp2_with fail;refine Calls.mono (HR _).out ?_;rintro _ w1 ⟨rfl,b1⟩;have h2:=h0.next b1
    obtain⟨y0,y1,y2,y3,y4,y5⟩:=h2.2.1.six;obtain⟨m0,m1⟩:=h2.1.duo;have zf:=h2.2.1.frozen;have wl:=h2.2.1.lt;clear h0 b1 HR;go_wp2;exact bodyPost_ret (zb rfl (g:=w.heap.size+1) rfl (h2.ret _ _ _ _ _ _)) rfl ⟨rfl,zE h2.2.2 (by omega) _ _ _ _ _ _⟩
  ·rw[if_pos (.inl e0)];have e3:(er==31)=false:=by simpa using e1
   have e4:(er != 0)=true:=by simpa using e0
   go_enter Tryz.func24,Tryz.ntmps24;go_wp2_with fail;refine Calls.mono (xo 5 _) ?_;rintro _ w2 ⟨rfl,b2⟩;rw[XM];have h2:=h0.next b2
   obtain⟨y0,y1,y2,y3,y4,y5⟩:=h2.2.1.six;have zf:=h2.2.1.frozen;have wl:=h2.2.1.lt;clear b2 HR h0;go_wp2;exact bodyPost_ret (zb rfl (g:=w.heap.size+1) rfl (h2.ret _ _ _ _ _ _)) rfl ⟨rfl,zE h2.2.2 (by omega) _ _ _ _ _ _⟩
set_option maxHeartbeats 8000000
theorem quo_digs (na nb:Bool) (sa sb:Value) (da db:List Int) (w:World) (hA:zr w sa da) (hB:zr w sb db) (ga:DgL da) (gb:DgL db) (la:da.length<=300) (lb:db.length<=300) (hb0:0<zi db):Calls Tryz.prog 121 #[bv na sa,bv nb sb] w fun r w'=>∃v1 v2,r=.returned (.tuple #[v1,v2])/\zR w' (zi da / zi db) v1/\zR w' (zi da % zi db) v2/\Below w.heap.size w w':=by
 obtain⟨_,a1,c1,rfl,_,_⟩:=id hA;obtain⟨_,a2,c2,rfl,_,_⟩:=id hB;have HA:Hid (zr w (.slice a1 da.length c1) da):=hA;have HB:Hid (zr w (.slice a2 db.length c2) db):=hB;have HGA:Hid (DgL da):=ga;have HGB:Hid (DgL db):=gb;obtain⟨Bv,hBv⟩:∃ Bv,zi db=Bv:=⟨_,rfl⟩;rw[hBv] at hb0;rw[hBv];have HBV:Hid (zi db=Bv):=hBv;have HB0:Hid (0<Bv):=hb0;unfold bv;clear hA hB ga gb hBv hb0;have mk:∀ W:World,(Instr.makeSlice 71 (.int .i64 (da.length:Int)) (.int .i64 (da.length:Int))).run Tryz.prog W=.ok (.slice (some ⟨W.heap.size,0,none⟩) da.length da.length) (W.alloc (.cells (xp (List.replicate da.length 0)) 3)):=fun W=>by rw[<-dcell_zeros];exact make41 da.length (by omega) W
 have r0:=((((((Row.new w 73 #[.bool false,.slice a1 da.length c1]).alloc (.cells #[.bool false,.slice a2 db.length c2] 73)).alloc (.cells #[.bool false,.slice none 0 0] 73)).alloc (.cells #[.bool false,.slice none 0 0] 73)).alloc (.cells (xp (List.replicate da.length 0)) 3)).alloc (.cells #[.bool false,.slice none 0 0] 73));have r1:=(((((Row.new (w.alloc (.cells #[.bool false,.slice a1 da.length c1] 73)) 73 #[.bool false,.slice a2 db.length c2]).alloc (.cells #[.bool false,.slice none 0 0] 73)).alloc (.cells #[.bool false,.slice none 0 0] 73)).alloc (.cells (xp (List.replicate da.length 0)) 3)).alloc (.cells #[.bool false,.slice none 0 0] 73));have r2:=((((Row.new ((w.alloc (.cells #[.bool false,.slice a1 da.length c1] 73)).alloc (.cells #[.bool false,.slice a2 db.length c2] 73)) 73 #[.bool false,.slice none 0 0]).alloc (.cells #[.bool false,.slice none 0 0] 73)).alloc (.cells (xp (List.replicate da.length 0)) 3)).alloc (.cells #[.bool false,.slice none 0 0] 73));have r3:=(((Row.new (((w.alloc (.cells #[.bool false,.slice a1 da.length c1] 73)).alloc (.cells #[.bool false,.slice a2 db.length c2] 73)).alloc (.cells #[.bool false,.slice none 0 0] 73)) 73 #[.bool false,.slice none 0 0]).alloc (.cells (xp (List.replicate da.length 0)) 3)).alloc (.cells #[.bool false,.slice none 0 0] 73));have r4:=((Row.new ((((w.alloc (.cells #[.bool false,.slice a1 da.length c1] 73)).alloc (.cells #[.bool false,.slice a2 db.length c2] 73)).alloc (.cells #[.bool false,.slice none 0 0] 73)).alloc (.cells #[.bool false,.slice none 0 0] 73)) 3 (xp (List.replicate da.length 0))).alloc (.cells #[.bool false,.slice none 0 0] 73));have r5:=(Row.new (((((w.alloc (.cells #[.bool false,.slice a1 da.length c1] 73)).alloc (.cells #[.bool false,.slice a2 db.length c2] 73)).alloc (.cells #[.bool false,.slice none 0 0] 73)).alloc (.cells #[.bool false,.slice none 0 0] 73)).alloc (.cells (xp (List.replicate da.length 0)) 3)) 73 #[.bool false,.slice none 0 0]);have bz:Below w.heap.size w ((((((w.alloc (.cells #[.bool false,.slice a1 da.length c1] 73)).alloc (.cells #[.bool false,.slice a2 db.length c2] 73)).alloc (.cells #[.bool false,.slice none 0 0] 73)).alloc (.cells #[.bool false,.slice none 0 0] 73)).alloc (.cells (xp (List.replicate da.length 0)) 3)).alloc (.cells #[.bool false,.slice none 0 0] 73)):=(((((((Below.refl _ w).alloc (Nat.le_refl _) _).alloc (by simp) _).alloc (by simp;omega) _).alloc (by simp;omega) _).alloc (by simp;omega) _).alloc (by simp;omega) _);simp only[World.size_alloc] at r1 r2 r3 r4 r5;have HQ0:Hid (QuSt w (.slice a1 da.length c1) (.slice a2 db.length c2) none 0 0 (List.replicate da.length 0) 0 ((((((w.alloc (.cells #[.bool false,.slice a1 da.length c1] 73)).alloc (.cells #[.bool false,.slice a2 db.length c2] 73)).alloc (.cells #[.bool false,.slice none 0 0] 73)).alloc (.cells #[.bool false,.slice none 0 0] 73)).alloc (.cells (xp (List.replicate da.length 0)) 3)).alloc (.cells #[.bool false,.slice none 0 0] 73))):=⟨r0,r1,r2,r3,r4,r5,by rw[show (0:Int).natAbs=0 from rfl,zz];exact dg_nil _,bz⟩;go_enter Tryz.func121,Tryz.ntmps121;go_upto_block 0 with fail
 clear r0 r1 r2 r3 r4 r5 bz mk;generalize ((((((w.alloc (.cells #[.bool false,.slice a1 da.length c1] 73)).alloc (.cells #[.bool false,.slice a2 db.length c2] 73)).alloc (.cells #[.bool false,.slice none 0 0] 73)).alloc (.cells #[.bool false,.slice none 0 0] 73)).alloc (.cells (xp (List.replicate da.length 0)) 3)).alloc (.cells #[.bool false,.slice none 0 0] 73))=W at *;obtain⟨D,hD⟩:∃ D,w.heap.size+1+1+1+1=D:=⟨_,rfl⟩;have HDe:Hid (w.heap.size+1+1+1+1=D):=hD;have HRe:Hid (w.heap.size+1+1+1+1+1=D+1):=by show _=_;rw[hD]
 rw[hD];clear hD;go_cut [8] (fun v8 wx=>∃(qs:List Int) (r:Int) (ar:Option Addr) (nr cr:Nat),Hid (QoAt da qs Bv r 0)/\Hid ((digs r.natAbs).length=nr)/\nr<=302/\qs.length<=300/\Hid (QuSt w (.slice a1 da.length c1) (.slice a2 db.length c2) ar nr cr qs r wx))
 case first =>
  as_aux_lemma =>
   go_wp2_with fail;go_loopw [8] (fun v8 wr=>∃(i:Nat) (qs:List Int) (r:Int) (ar:Option Addr) (nr cr:Nat),i<=da.length/\v8=.int .i64 ((i:Int)-1)/\Hid (QoAt da qs Bv r i)/\Hid ((digs r.natAbs).length=nr)/\nr<=302/\Hid (QuSt w (.slice a1 da.length c1) (.slice a2 db.length c2) ar nr cr qs r wr)) (fun v8 _=>(intOf v8+1).toNat)
   case atStart=>exact⟨da.length,List.replicate da.length 0,0,none,0,0,Nat.le_refl _,rfl,QoAt.begin da Bv,by show _=_;rw[show (0:Int).natAbs=0 from rfl,zz];rfl,by omega,HQ0⟩
   case round =>
    clear HQ0;obtain⟨i,qs,r,ar,nr,cr,hi,rfl,HO,HNR,hnr,HQ⟩:=hrel;by_cases hi0:i=0
    ·subst hi0;have hql:qs.length<=300:=by rw[HO.out.le];exact la
     go_wp2_with fail;go_meet;exact⟨qs,r,ar,nr,cr,HO,HNR,hnr,hql,HQ⟩
    ·obtain⟨j,rfl⟩:∃j,i=j+1:=⟨i-1,by omega⟩;have hj:j<da.length:=by omega
     have hv:((j+1:Nat):Int)-1=(j:Int):=by omega
     rw[hv];obtain⟨b1,o1,hga,hb1,hx0⟩:=HA.out.1.at j hj;obtain⟨x,hx⟩:∃x,da[j]?.getD 0=x:=⟨_,rfl⟩;have hxb:=HGA.out.get j;rw[hx] at hx0 hxb;subst hga;have HX:Hid (∀ V,Below w.heap.size w V->V.cell? ⟨b1,o1+j,none⟩=some (.int .i64 x)):=fun V hV=>(World.cell?_of_block (w:=w) (a:=⟨b1,o1+j,none⟩) (hV.block b1 hb1)).trans hx0;have hr0:0<=r/\r<Bv:=by rw[HO.out.re];exact⟨Int.emod_nonneg _ (Int.ne_of_gt HB0.out),Int.emod_lt_of_pos _ HB0.out⟩
     have HR0:Hid (0<=r/\r<Bv):=hr0;have HQI:Hid (QiAt da qs Bv (10*r+x) j 0 (10*r+x)):=by have:=QiAt.start HO.out HGA.out hj HB0.out;rw[hx] at this;exact this
     have hnr2:nr<=300:=by
      rw[<-HNR.out];refine Nat.le_trans (zC _ db.length ?_) lb;have h5:=xr HGB.out;rw[HBV.out] at h5;have h6:((r.natAbs:Nat):Int)<((10 ^ db.length:Nat):Int):=by rw[Int.natCast_pow];have:((10:Nat):Int)=10:=rfl;rw[this];omega
      exact Int.ofNat_lt.1 h6
     have HSH:∀ V,Below wr.heap.size wr V->Hid (Calls Tryz.prog 98 #[.agg #[.bool false,.slice ar nr cr],.int .i64 ((1:Nat):Int)] V fun r9 w'=>∃v',r9=.returned v'/\zR w' (r*10 ^ 1) v'/\Below V.heap.size V w'):=fun V h=>by have:=kt r (bv false (.slice ar nr cr)) 1 V ⟨_,by rw[decide_eq_false (by have:=HR0.out;omega)],(HQ.out.dr.below h)⟩ (by decide) (by rw[HNR.out];omega);exact this
     have HOF:∀ V,Hid (Calls Tryz.prog 89 #[.int .i64 x] V _):=fun V=>ZT x ⟨by omega,by omega⟩ V;have hQ:=HQ.out;have hqlt:=hQ.rr.lt;have k0:∀wx,Below wr.heap.size wr wx->wx.cell? ⟨D+1,0,none⟩=some (.bool false)/\wx.cell? ⟨D+1,1,none⟩=some (.slice ar nr cr):=fun wx hx=>by have:=(hQ.rr.below hx hQ.rr.lt).duo;rw[HRe.out] at this;exact this
     have k1:∀wx,Below wr.heap.size wr wx->wx.cell? ⟨w.heap.size,0,none⟩=some (.bool false)/\wx.cell? ⟨w.heap.size,1,none⟩=some (.slice (some ⟨b1,o1,none⟩) da.length c1):=fun wx hx=>(hQ.ra.below hx hQ.ra.lt).duo;have k2:∀wx,Below wr.heap.size wr wx->wx.cell? ⟨b1,o1+j,none⟩=some (.int .i64 x):=fun wx hx=>HX.out wx (hQ.be.trans (hx.mono hQ.be.size));have hj3:(j:Int)<(da.length:Int):=by omega
     have hj4:(0:Int)<=(j:Int):=by omega
     clear hx hx0 hi hi0 hv hr0 hQ;go_upto_region 8 with fail
     have hS:Below wr.heap.size wr wr.drew:=(Below.refl _ wr).drew;refine Ib wr 9 10 ?_;refine Oh 0 hS ?_ (v:=.agg #[.bool false,.slice ar nr cr]) (y:=by intro wx hx;obtain⟨x0,x1⟩:=k0 wx hx;go_simp<;>rfl);refine Oh 2 hS ?_;refine Oh 3 hS ?_ (v:=.slice (some ⟨b1,o1,none⟩) da.length c1) (y:=by intro wx hx;obtain⟨x0,x1⟩:=k1 wx hx;go_simp<;>rfl);refine Oh 4 hS ?_ (v:=.int .i64 (j:Int));refine Oh 5 hS ?_ (v:=.pointer (some ⟨b1,o1+j,none⟩));refine Oh 6 hS ?_ (v:=.int .i64 x) (y:=by intro wx hx;have x0:=k2 wx hx;go_simp<;>rfl);refine Oo 1 ?_;go_wp2_with fail;refine Calls.mono (HSH _ hS).out ?_;rintro _ w2 ⟨v2,rfl,hV2,b2⟩;have hV2':=hV2;obtain⟨s2,rfl,hD2⟩:=hV2;obtain⟨_,a6,c6,rfl,_,_⟩:=id hD2;have hW2:Below wr.heap.size wr w2:=hS.trans (b2.mono hS.size);have e10:r*10 ^ 1=10*r:=by rw[Int.pow_succ,Int.pow_zero,Int.one_mul];omega
     have HSG:Hid (decide (r*10 ^ 1<0)=false):=by show _=_;rw[e10];exact decide_eq_false (by have:=HR0.out;omega)
     have HE10:Hid (r*10 ^ 1=10*r):=e10;clear b2 HSH hS hD2 e10;unfold bv at hV2' ⊢;rw[HSG.out] at hV2' ⊢;obtain⟨n6,HN6⟩:∃n6:Nat,Hid ((digs (r*10 ^ 1:Int).natAbs).length=n6):=by exact⟨(digs (r*10 ^ 1:Int).natAbs).length,(rfl:(digs (r*10 ^ 1:Int).natAbs).length=(digs (r*10 ^ 1:Int).natAbs).length)⟩
     rw[HN6.out] at hV2' ⊢;have hn6:n6<=302:=by
      rw[<-HN6.out];refine Nat.le_trans (zC _ (nr+1) ?_) (by omega);have h5:=xr (zA r.natAbs);rw[zq,HNR.out] at h5;have h6:r.natAbs<10 ^ nr:=by
       have:((r.natAbs:Nat):Int)<((10 ^ nr:Nat):Int):=by rw[Int.natCast_pow];exact h5
       exact Int.ofNat_lt.1 this
      rw[HE10.out,Nat.pow_succ];omega
     go_wp2_with fail;refine⟨fun _=>hW2,?_⟩;refine Oo 7 ?_;go_wp2_with fail;refine Calls.mono (HOF _).out ?_;rintro _ w3 ⟨v3,rfl,hV3,b3⟩;have hW3:Below wr.heap.size wr w3:=hW2.trans (b3.mono hW2.size);have hV2'':=hV2'.below b3;have HPL:Hid (Calls Tryz.prog 118 #[.agg #[.bool false,.slice a6 n6 c6],v3] w3 _):=Zn (r*10 ^ 1) x _ v3 w3 hV2'' hV3 (by rw[HN6.out];omega) (Nat.le_trans (zC _ 1 (by omega)) (by decide));obtain⟨s3,rfl,hD3⟩:=hV3;obtain⟨_,a7,c7,rfl,_,_⟩:=id hD3;clear b3 HOF hW2 hV2' hV2'' hD3;unfold bv at HPL ⊢;obtain⟨sx,HSX⟩:∃sx,Hid (decide (x<0)=sx):=⟨_,rfl⟩;obtain⟨n7,HN7⟩:∃n7:Nat,Hid ((digs x.natAbs).length=n7):=⟨_,rfl⟩;rw[HSX.out,HN7.out] at HPL ⊢;go_wp2_with fail;refine⟨fun _=>hW3,?_⟩;refine Oo 8 ?_;go_wp2_with fail;refine Calls.mono HPL.out ?_;rintro _ w4 ⟨v4,rfl,hV4,b4⟩;rw[HE10.out] at hV4;obtain⟨s4,rfl,hD4⟩:=hV4;obtain⟨_,a8,c8,rfl,_,_⟩:=id hD4;have hW4:Below wr.heap.size wr w4:=hW3.trans (b4.mono hW3.size);clear b4 HPL hW3;unfold bv;have HS4:Hid (decide (10*r+x<0)=false):=by show _=_;exact decide_eq_false (by have:=HR0.out;omega)
     rw[HS4.out];obtain⟨n8,HN8⟩:∃n8:Nat,Hid ((digs (10*r+x:Int).natAbs).length=n8):=by exact⟨(digs (10*r+x:Int).natAbs).length,(rfl:(digs (10*r+x:Int).natAbs).length=(digs (10*r+x:Int).natAbs).length)⟩
     rw[HN8.out] at hD4 ⊢;have hn8:n8<=302:=by
      rw[<-HN8.out];refine Nat.le_trans (zC _ (nr+1) ?_) (by omega);have h5:=xr (zA r.natAbs);rw[zq,HNR.out] at h5;have h6:r.natAbs<10 ^ nr:=by
       have:((r.natAbs:Nat):Int)<((10 ^ nr:Nat):Int):=by rw[Int.natCast_pow];exact h5
       exact Int.ofNat_lt.1 this
      rw[Nat.pow_succ];omega
     have hQ4:=HQ.out.mono hW4;have hQ5:=hQ4.put hD4;rw[HRe.out] at hQ5;have HQ5:Hid (QuSt w (.slice (some ⟨b1,o1,none⟩) da.length c1) (.slice a2 db.length c2) a8 n8 c8 qs (10*r+x) ((w4.setCell ⟨D+1,0,none⟩ (.bool false)).setCell ⟨D+1,1,none⟩ (.slice a8 n8 c8))):=hQ5;have q4:=hQ4.rr;rw[HRe.out] at q4;clear hQ4 hQ5 hD4 HQ HO HNR;go_wp2_with fail;refine⟨fun _=>hW4,?_⟩;obtain⟨y0,y1⟩:=q4.duo;have zf:=q4.frozen;refine Oo 9 ?_;go_wp2_with fail;refine⟨fun h=>by simp at h,?_⟩;refine Od ?_;clear y0 y1 zf q4 hW4 k0 k1 k2 hqlt;generalize (w4.setCell ⟨D+1,0,none⟩ (.bool false)).setCell ⟨D+1,1,none⟩ (.slice a8 n8 c8)=w5 at *;obtain⟨X0,HX0⟩:∃ X0,Hid (10*r+x=X0):=⟨_,rfl⟩;rw[HX0.out] at HQ5 HQI HN8;go_wp2_with fail;go_loopw [] (fun wk=>∃(c r1:Int) (qs1:List Int) (ar:Option Addr) (nr cr:Nat),Hid (QiAt da qs1 Bv r1 j c X0)/\Hid ((digs r1.natAbs).length=nr)/\nr<=302/\Hid (QuSt w (.slice (some ⟨b1,o1,none⟩) da.length c1) (.slice a2 db.length c2) ar nr cr qs1 r1 wk)) (fun wk=>(10-intOf ((wk.cell? ⟨D,j,none⟩).getD undef)).toNat)
     case atStart=>exact⟨0,X0,qs,a8,n8,c8,HQI,HN8,hn8,HQ5⟩
     case round =>
      clear HQI HN8 hn8 HQ5 hnr hnr2 HN6 hn6;obtain⟨c,r1,qs1,ar1,nr1,cr1,HQI,HN1,hn1,HQ1⟩:=hrel;have hQ1:=HQ1.out;have hr10:=HQI.out.r0;have hqj:j<qs1.length:=by rw[HQI.out.le];exact hj
      have kr:=hQ1.rr;have kb:=hQ1.rb;have kd:=hQ1.at j hqj;have fd:=hQ1.rd.frozen j;rw[HRe.out] at kr;rw[HDe.out] at kd fd;rw[HQI.out.here] at kd;have HKD:Hid (wr.cell? ⟨D,j,none⟩=some (.int .i64 c)):=kd;obtain⟨x0,x1⟩:=kr.duo;obtain⟨x2,x3⟩:=kb.duo;have HMO:Hid (Calls Tryz.prog 154 #[.agg #[.bool false,.slice ar1 nr1 cr1],.agg #[.bool false,.slice a2 db.length c2]] wr fun r9 w'=>r9=.returned (.int .i64 (cI r1 Bv))/\Below wr.heap.size wr w'):=by have:=Zs false false _ _ _ _ wr hQ1.dr (HB.out.below hQ1.be) (zA _) HGB.out (by rw[HN1.out];omega) (by omega);rw[zq,HBV.out,show ((r1.natAbs:Nat):Int)=r1 by omega] at this;exact this
      by_cases hge:Bv<=r1
      ·have HCI:Hid (0<=cI r1 Bv):=by
        show _<=_;unfold cI;split
        ·omega
        ·rw[if_neg (by omega)];omega
       obtain⟨ci,HCE⟩:∃ci,Hid (cI r1 Bv=ci):=⟨_,rfl⟩;have hci:0<=ci:=by rw[<-HCE.out];exact HCI.out
       rw[HCE.out] at HMO;have HGE:Hid (Bv<=r1):=hge;clear hge;go_wp2_with fail;refine Calls.mono HMO.out ?_;rintro _ wa ⟨rfl,ba⟩;have hQa:=hQ1.mono ba;clear ba HMO x0 x1 x2 x3 kr kb kd fd hQ1 HQ1;have kr:=hQa.rr;have kb:=hQa.rb;rw[HRe.out] at kr;obtain⟨x0,x1⟩:=kr.duo;obtain⟨x2,x3⟩:=kb.duo;have HLE:Hid (Calls Tryz.prog 155 #[.agg #[.bool false,.slice ar1 nr1 cr1],.agg #[.bool false,.slice a2 db.length c2]] wa _):=ZV false false _ _ _ _ wa hQa.dr (HB.out.below hQa.be) (zA _) HGB.out (by rw[HN1.out];omega) (by omega) (by rw[zq,HBV.out];have:=HGE.out;omega);have HQa:Hid (QuSt _ _ _ _ _ _ _ _ _):=hQa;clear hQa;go_wp2_with fail;refine Calls.mono HLE.out ?_;rintro _ wb ⟨sv,ds,rfl,hDs,hGs,hvs,hls,bb⟩;rw[zq,HBV.out,show ((r1.natAbs:Nat):Int)=r1 by omega] at hvs;rw[HN1.out] at hls;have hQb:=HQa.out.mono bb;obtain⟨_,a9,c9,rfl,_,_⟩:=id hDs;have HTR:Hid (Calls Tryz.prog 93 #[.agg #[.bool false,.slice a9 ds.length c9]] wb _):=jX false (.slice a9 ds.length c9) ds wb hDs hGs (by omega);rw[show zV false ds=r1-Bv from hvs] at HTR;clear bb HLE x0 x1 x2 x3 kr kb HQa hDs hGs hvs;obtain⟨n9,hn9⟩:∃n9,ds.length=n9:=⟨_,rfl⟩;rw[hn9] at HTR ⊢;clear hn9 hls;go_wp2_with fail;refine Calls.mono HTR.out ?_;rintro _ wc ⟨v5,rfl,hV5,hN5,bc⟩;obtain⟨s5,rfl,hD5⟩:=hV5;obtain⟨_,a5,c5,rfl,_,_⟩:=id hD5;have hQc:=hQb.mono bc;have HS5:Hid (decide (r1-Bv<0)=false):=by show _=_;exact decide_eq_false (by have:=HGE.out;omega)
       obtain⟨n5,HN5⟩:∃n5:Nat,Hid ((digs (r1-Bv:Int).natAbs).length=n5):=by exact⟨(digs (r1-Bv:Int).natAbs).length,(rfl:(digs (r1-Bv:Int).natAbs).length=(digs (r1-Bv:Int).natAbs).length)⟩
       have hn5:n5<=302:=by
        rw[<-HN5.out];refine Nat.le_trans (zC _ nr1 ?_) hn1;have h5:=xr (zA r1.natAbs);rw[zq,HN1.out] at h5;have h6:r1.natAbs<10 ^ nr1:=by
         have:((r1.natAbs:Nat):Int)<((10 ^ nr1:Nat):Int):=by rw[Int.natCast_pow];exact h5
         exact Int.ofNat_lt.1 this
        have:=HGE.out;have:=HB0.out;omega
       have hNS:qV (w.heap.size+1+1+1+1+1) (.slice a5 (digs (r1-Bv).natAbs).length c5):=hN5.get.mono (Nat.le_of_lt hQb.rr.lt);unfold bv;rw[HS5.out];rw[HN5.out] at hD5 hNS ⊢;have hQd:=hQc.put hD5;have kr:=hQc.rr;rw[HRe.out] at kr hQd;clear bc HTR hQb hQc hD5 hN5;obtain⟨x0,x1⟩:=kr.duo;have zf:=kr.frozen;go_upto_region 11 with fail
       clear x0 x1 zf kr;generalize (wc.setCell ⟨D+1,0,none⟩ (.bool false)).setCell ⟨D+1,1,none⟩ (.slice a5 n5 c5)=wd at *;have HST:Hid (QiAt da (qs1.set j (c+1)) Bv (r1-Bv) j (c+1) X0):=HQI.out.step hj HB0.out HGE.out;have hc9:c+1<=9:=HST.out.c9 HB0.out;have hc0:=HQI.out.c0;have kd:=hQd.at j hqj;have fd:=hQd.rd.frozen j;rw[HQI.out.here] at kd;have hQe:=hQd.set hNS j (c+1);rw[HDe.out] at kd fd hQe;have HQe:Hid (QuSt _ _ _ _ _ _ _ _ _):=hQe;have hqe:(wd.setCell ⟨D,j,none⟩ (.int .i64 (c+1))).cell? ⟨D,j,none⟩=some (.int .i64 (c+1)):=by have h5:=hQe.at j (by rw[List.length_set];exact hqj);rw[HDe.out,xU _ _ _ _ hqj,if_pos rfl] at h5;exact h5
       have HQC:Hid _:=hqe;clear hQd hQe hNS hqe;go_wp2;go_roundw
       case rel=>exact⟨c+1,r1-Bv,qs1.set j (c+1),a5,n5,c5,HST,HN5,hn5,HQe⟩
       case measure => rw[HQC.out,HKD.out];simp only[Option.getD_some,intOf];omega
      ·obtain⟨ci,HCE⟩:∃ci,Hid (cI r1 Bv=ci):=⟨_,rfl⟩;have hci:ci<0:=by rw[<-HCE.out];unfold cI;rw[if_neg (by omega),if_pos (by omega)];omega
       rw[HCE.out] at HMO;have HDN:Hid (QoAt da qs1 Bv r1 j):=HQI.out.done hj HB0.out (by omega);clear hge;go_wp2_with fail;refine Calls.mono HMO.out ?_;rintro _ wa ⟨rfl,ba⟩;have HQa:Hid (QuSt _ _ _ _ _ _ _ _ _):=hQ1.mono ba;clear ba HMO x0 x1 x2 x3 kr kb kd fd hQ1 HQ1;go_wp2;go_roundw
       case rel=>exact⟨j,qs1,r1,ar1,nr1,cr1,by omega,by go_num,HDN,HN1,hn1,HQa⟩
       case measure=>simp[intOf]<;>omega
 case rest =>
  clear HQ0;obtain⟨qs,r,ar,nr,cr,HO,HNR,hnr,hql,HQ⟩:=hcut;have hQ:=HQ.out;have HDR:Hid (zi da % Bv=r/\zi da / Bv=zi qs/\0<=r):=by have h1:=HO.out.re;have h2:=HO.out.va;rw[List.drop_zero] at h1 h2;rw[List.drop_zero] at h2;exact⟨h1.symm,h2.symm,by rw[h1];exact Int.emod_nonneg _ (Int.ne_of_gt HB0.out)⟩
  have hql2:da.length=qs.length:=HO.out.le.symm;have HDG:Hid (zr wc (.slice (some ⟨D,0,none⟩) da.length da.length) qs):=by show zr _ _ _;rw[hql2];refine⟨.inr ⟨D,0,qs.length,rfl,by rw[<-HDe.out];exact hQ.rd.lt,fun j hj => ?_⟩,_,_,rfl,Nat.le_refl _,fun e=>by simp at e⟩;have:=hQ.at j hj;rw[HDe.out] at this;rw[Nat.zero_add];exact this
  have HTR:∀ V,Below wc.heap.size wc V->Hid (Calls Tryz.prog 93 #[.agg #[.bool false,.slice (some ⟨D,0,none⟩) da.length da.length]] V fun r9 w'=>∃v,r9=.returned v/\zR w' (zi da / Bv) v/\jb V.heap.size v/\Below V.heap.size V w'):=fun V h=>by have:=jX false _ qs V (HDG.out.below h) HO.out.dg (by omega);rw[show zV false qs=zi da / Bv from HDR.out.2.1.symm] at this;exact this
  clear hql2;go_upto_region 12 with fail
  have hS0:Below wc.heap.size wc wc.drew:=(Below.refl _ wc).drew;have krr:Row wc (D+1) 73 #[.bool false,.slice ar nr cr]:=by have:=hQ.rr;rw[HRe.out] at this;exact this
  have hS:Row wc.drew (D+1) 73 #[.bool false,.slice ar nr cr]:=krr;refine Ir (fun wx:World=>Row wx (D+1) 73 #[.bool false,.slice ar nr cr]) 5 6 ?_;refine Oh 0 hS ?_ (v:=.slice (some ⟨D,0,none⟩) da.length da.length);refine Oh 1 hS ?_ (v:=.agg #[.bool false,.slice (some ⟨D,0,none⟩) da.length da.length]);refine Oh 3 hS ?_ (v:=.agg #[.bool false,.slice ar nr cr]) (y:=by intro wx hx;obtain⟨x0,x1⟩:=hx.duo;go_simp<;>rfl);refine Oo 2 ?_;go_wp2_with fail;refine Calls.mono (HTR _ hS0).out ?_;rintro _ w2 ⟨v2,rfl,hV2,hN2,b2⟩;obtain⟨s2,rfl,hD2⟩:=hV2;obtain⟨_,a3,c3,rfl,_,_⟩:=id hD2;have hW2:Below wc.heap.size wc w2:=hS0.trans (b2.mono hS0.size);have hQ2:=hQ.mono hW2;have hS2:Row w2 (D+1) 73 #[.bool false,.slice ar nr cr]:=krr.below hW2 krr.lt;clear b2 HTR hS hS0 hQ HQ krr hN2;obtain⟨sg,HSG⟩:∃sg,Hid (decide (zi da / Bv<0)=sg):=⟨_,rfl⟩;obtain⟨n3,HN3⟩:∃n3:Nat,Hid ((digs (zi da / Bv:Int).natAbs).length=n3):=by exact⟨(digs (zi da / Bv:Int).natAbs).length,(rfl:(digs (zi da / Bv:Int).natAbs).length=(digs (zi da / Bv:Int).natAbs).length)⟩
  unfold bv;rw[HSG.out];rw[HN3.out] at hD2 ⊢;go_wp2_with fail;refine⟨fun _=>hS2,?_⟩;have p1:=hQ2.y1;have p2:=hQ2.y2;obtain⟨x0,x1⟩:=p1.duo;have zf:=p1.frozen;have t1:Row ((w2.setCell ⟨w.heap.size+1+1,0,none⟩ (.bool sg)).setCell ⟨w.heap.size+1+1,1,none⟩ (.slice a3 n3 c3)) (w.heap.size+1+1) 73 #[.bool sg,.slice a3 n3 c3]:=Row.set2 p1 _ _;have t2:=(p2.other (K:=w.heap.size+1+1) (by omega) 0 (.bool sg)).other (K:=w.heap.size+1+1) (by omega) 1 (.slice a3 n3 c3);have hS3:=(hS2.other (K:=w.heap.size+1+1) (by have:=HDe.out;omega) 0 (.bool sg)).other (K:=w.heap.size+1+1) (by have:=HDe.out;omega) 1 (.slice a3 n3 c3);have dq:=hD2.store p1 (.bool sg) (.slice a3 n3 c3);have dr:=hQ2.dr.store p1 (.bool sg) (.slice a3 n3 c3);have hB3:=za (za hQ2.be (B:=w.heap.size+1+1) 0 (.bool sg) (by omega)) (B:=w.heap.size+1+1) 1 (.slice a3 n3 c3) (by omega);refine Oo 4 ?_;go_wp2_with fail;refine⟨fun _=>hS3,?_⟩;clear x0 x1 zf p1 p2 hS2 hS3 hQ2 hD2 hW2;generalize (w2.setCell ⟨w.heap.size+1+1,0,none⟩ (.bool sg)).setCell ⟨w.heap.size+1+1,1,none⟩ (.slice a3 n3 c3)=w3 at *;obtain⟨x0,x1⟩:=t2.duo;have zf:=t2.frozen;have u1:=(t1.other (K:=w.heap.size+1+1+1) (by omega) 0 (.bool false)).other (K:=w.heap.size+1+1+1) (by omega) 1 (.slice ar nr cr);have u2:Row ((w3.setCell ⟨w.heap.size+1+1+1,0,none⟩ (.bool false)).setCell ⟨w.heap.size+1+1+1,1,none⟩ (.slice ar nr cr)) (w.heap.size+1+1+1) 73 #[.bool false,.slice ar nr cr]:=Row.set2 t2 _ _;have eq:=dq.store t2 (.bool false) (.slice ar nr cr);have er:=dr.store t2 (.bool false) (.slice ar nr cr);have hB4:=za (za hB3 (B:=w.heap.size+1+1+1) 0 (.bool false) (by omega)) (B:=w.heap.size+1+1+1) 1 (.slice ar nr cr) (by omega);refine Oo 5 ?_;go_wp2_with fail;refine⟨fun h=>by simp at h,?_⟩;refine Od ?_;go_wp2;refine bodyPost_ret (js rfl (g:=w.heap.size+1+1) (g2:=w.heap.size+1+1+1) rfl rfl (xy u1 rfl) (xy u2 rfl)) rfl ⟨_,_,rfl,⟨_,by rw[HSG.out];rfl,eq⟩,?_,hB4⟩;rw[HDR.out.1];exact⟨_,by rw[decide_eq_false (by have:=HDR.out.2.2;omega)];rfl,er⟩
end Go.Proofs.YtnhflnpjepiceaaGreatDoor
