import Derived.Test.YtoncpcdepemlcaaGreatDoorPqzM
import Derived.Test.YtoncpcdepemlcaaGreatDoorWprM
import Derived.Deep.CutBlock
import Derived.Deep.DeepCutAuto
import Derived.Test.YtoncpcdepemlcaaGreatDoorRtmM
import Derived.Test.YtoncpcdepemlcaaGreatDoorDpaM
import Derived.Test.YtoncpcdepemlcaaGreatDoorWbsM
namespace Go.Proofs.YtoncpcdepemlcaaGreatDoor
set_option maxRecDepth 100000
set_option maxHeartbeats 2000000
open Go.RowKit
theorem right_tell (c e:Int) (hc:I64 c) (he:within e):∃p q,tell c e=some (p,q)/\rightB c e=(decide (p=c)&&decide (q=e)):=by
 refine⟨_,_,tell_decW c e hc he,?_⟩;have hrt:=tell_rt (tell_decW c e hc he);by_cases hr:Rt c e
 ·rw[right_rt he hr];have hfix:decW c e=numW c e:=by
   unfold decW shortW;unfold Rt at hr;by_cases h0:c=0
   ·have he0:e=0:=by omega
    subst h0 he0;rfl
   ·rw[if_neg (by unfold numW;simp;omega)];have:strip (numW c e).n (numW c e).e=((numW c e).n,(numW c e).e):=strip_fix _ _ (by unfold numW;simp only;omega);rw[this]
  have h1:sc (decW c e)=c:=by
   rw[hfix];unfold sc numW;simp only;by_cases h:c<0
   ·rw[decide_eq_true h,if_pos rfl];omega
   ·rw[decide_eq_false h,if_neg (by simp)];omega
  have h2:(decW c e).e=e:=by rw[hfix];rfl
  rw[h1,h2];simp
 ·have h1:rightB c e=false:=by
   cases hb:rightB c e with
   | false=>rfl
   | true =>
    exfalso;apply hr;unfold rightB at hb;unfold Rt;by_cases h0:c=0
    ·rw[if_pos h0] at hb;exact .inr (.inr ⟨h0,of_decide_eq_true hb⟩)
    ·rw[if_neg h0] at hb;simp at hb;rcases hb.2 with h|h
     ·exact .inl h
     ·exact .inr (.inl ⟨h,h0⟩)
  rw[h1];cases hd:(decide (sc (decW c e)=c)&&decide ((decW c e).e=e)) with
  | false=>rfl
  | true =>
   exfalso;simp at hd;rw[hd.1,hd.2] at hrt;exact hr hrt
theorem rright_bad (c e:Int) (he:¬ within e) (w:World):Calls Tryz.prog 53 #[.agg #[.int .i64 c,.int .i64 e]] w fun r w'=>r=.returned (.bool false)/\Below w.heap.size w w':=by
 have b0:∀o,Below w.heap.size w (w.alloc o):=fun o=>(Below.refl _ w).alloc (Nat.le_refl _) _;by_cases h1:e < -18
 ·clear he;go_enter Tryz.func53,Tryz.ntmps53;go_wp2;go_ret;exact⟨rfl,b0 _⟩
 ·have h2:18<e:=by unfold within at he;omega
  clear he;go_enter Tryz.func53,Tryz.ntmps53;go_wp2;go_ret;exact⟨rfl,b0 _⟩
theorem rright_ok (c e:Int) (hc:I64 c) (he:within e) (w:World):Calls Tryz.prog 53 #[.agg #[.int .i64 c,.int .i64 e]] w fun r w'=>r=.returned (.bool (rightB c e))/\Below w.heap.size w w':=by
 obtain⟨p,q,hpq,hrb⟩:=right_tell c e hc he;obtain⟨h1,h2⟩ : -18<=e/\e<=18:=he;rw[hrb];have HL:Hid ((digs c.natAbs).length<=500):=Nat.le_trans (digs_len _ 19 (by unfold I64 at hc;omega)) (by decide);have HOF:∀ V,Hid (Calls Tryz.prog 33 #[.int .i64 c] V _):=fun V=>of_any c hc V;have HTE:∀ V s,DgAt V s (digs c.natAbs)->Hid (Calls Tryz.prog 32 #[.agg #[.bool (decide (c<0)),s,.int .i64 e]] V fun r w'=>r=.returned (.tuple #[.agg #[.int .i64 p,.int .i64 q],.int .i64 0])/\Below V.heap.size V w'):=fun V s h=>by have:=told_any' c e _ V ⟨s,rfl,h⟩ (by omega) (by omega) HL.out;rw[hpq] at this;exact this
 have r1:=Row.new w 38 #[.int .i64 c,.int .i64 e];have b0:=(Below.refl _ w).alloc (Nat.le_refl _) (.cells #[.int .i64 c,.int .i64 e] 38);clear hpq hrb hc;go_enter Tryz.func53,Tryz.ntmps53;go_upto_region 3 with fail
 generalize w.alloc (.cells #[.int .i64 c,.int .i64 e] 38)=W at *;have hS:Below W.heap.size W W.drew:=(Below.refl _ W).drew;have ca:∀wx,Below W.heap.size W wx->wx.cell? ⟨w.heap.size,0,none⟩=some (.int .i64 c)/\wx.cell? ⟨w.heap.size,1,none⟩=some (.int .i64 e):=fun wx hx=>(r1.below hx r1.lt).duo;refine Ib W 13 13 ?_;refine Oh 0 hS ?_;refine Oh 1 hS ?_ (v:=.int .i64 c) (y:=by intro wx hx;obtain⟨x0,x1⟩:=ca wx hx;go_simp<;>rfl);refine Oh 3 hS ?_;refine Oh 4 hS ?_ (v:=.int .i64 e) (y:=by intro wx hx;obtain⟨x0,x1⟩:=ca wx hx;go_simp<;>rfl);refine wpM_two 2 10 rfl rfl (by kernel_rfl) rfl rfl ?_ ?_
 ·go_wp2_with fail;refine Calls.mono (HOF _).out ?_;rintro _ w2 ⟨v2,rfl,hV2,b2⟩;obtain⟨s2,rfl,hD2⟩:=hV2;obtain⟨_,a3,c3,rfl,_,_⟩:=id hD2;have hS2:Below W.heap.size W w2:=hS.trans (b2.mono hS.size);unfold bv;obtain⟨sg,HSG⟩:∃sg,Hid (decide (c<0)=sg):=⟨_,rfl⟩;obtain⟨n3,HN3⟩:∃n3,Hid ((digs c.natAbs).length=n3):=⟨_,rfl⟩;have HTE:=HTE;rw[HSG.out] at HTE;rw[HN3.out] at hD2;rw[HSG.out,HN3.out];clear b2 HOF;go_wp2_with fail;refine⟨fun _=>hS2,?_⟩;refine Oh 5 hS2 ?_ (v:=.agg #[.bool sg,.slice a3 n3 c3,.int .i64 e]);refine wpM_two 6 10 rfl rfl (by kernel_rfl) rfl rfl ?_ ?_
  ·go_wp2_with fail;refine Calls.mono (HTE _ _ hD2).out ?_;rintro _ w4 ⟨rfl,b4⟩;have hS24:Below W.heap.size W w4:=hS2.trans (b4.mono hS2.size);clear b4 HTE;go_wp2_with fail;refine⟨fun _=>hS24,?_⟩;refine Oh 7 hS24 ?_ (v:=.tuple #[.agg #[.int .i64 p,.int .i64 q],.int .i64 0]);refine Oh 8 hS24 ?_ (v:=.agg #[.int .i64 p,.int .i64 q]);refine Oh 9 hS24 ?_ (v:=.int .i64 0);refine Oo 10 ?_;go_wp2_with fail;have kr:=Row.new w4 38 #[.int .i64 0,.int .i64 0];have hS24a:Below W.heap.size W (w4.alloc (.cells #[.int .i64 0,.int .i64 0] 38)):=hS24.alloc hS24.size _;have kl:W.heap.size<=w4.heap.size:=hS24.size;have kb:Below w4.heap.size w4 (w4.alloc (.cells #[.int .i64 0,.int .i64 0] 38)):=(Below.refl _ _).alloc (Nat.le_refl _) _;refine⟨fun _=>hS24a,?_⟩;generalize w4.alloc (.cells #[.int .i64 0,.int .i64 0] 38)=kw at *;generalize hK:w4.heap.size=K at *;have wl:=kr.lt;obtain⟨x0,x1⟩:=kr.duo;have zf:=kr.frozen;have hZ:=Row.set2 kr (.int .i64 p) (.int .i64 q);have hR1:=r1.below hS24a r1.lt;have hKne:w.heap.size≠K:=by have:=r1.lt;omega
   have hZ1:=(hR1.kept ((Kept.refl (fun b=>b≠K) _).setCell (p:=⟨K,0,none⟩) (by simp) (.int .i64 p)) hKne).kept ((Kept.refl (fun b=>b≠K) _).setCell (p:=⟨K,1,none⟩) (by simp) (.int .i64 q)) hKne;have hBe:=b0.trans (hS24a.mono b0.size);have hBf:=below_set (below_set hBe (B:=K) 0 (.int .i64 p) (by have:=b0.size;omega)) (B:=K) 1 (.int .i64 q) (by have:=b0.size;omega);have hSf:=below_set (below_set hS24a (B:=K) 0 (.int .i64 p) (by omega)) (B:=K) 1 (.int .i64 q) (by omega);refine Oo 11 ?_;go_wp2_with fail;refine⟨fun _=>hSf,?_⟩;refine Oo 12 ?_;go_wp2_with fail;refine⟨fun _=>hSf,?_⟩;refine Od ?_;obtain⟨z0,z1⟩:=hZ.duo;obtain⟨z2,z3⟩:=hZ1.duo;clear x0 x1 zf hZ hZ1 hR1 hSf wl;by_cases e1:p=c
   ·subst e1;by_cases e2:q=e
    ·subst e2;go_wp2;go_ret;exact⟨by first|rfl|simp,hBf⟩
    ·go_wp2;go_ret;exact⟨by first|rfl|(rw[decide_eq_false e2,Bool.and_false];rfl),hBf⟩
   ·by_cases e2:q=e
    ·subst e2;go_wp2;go_ret;exact⟨by first|rfl|(rw[decide_eq_false e1];rfl),hBf⟩
    ·go_wp2;go_ret;exact⟨by first|rfl|(rw[decide_eq_false e1];rfl),hBf⟩
  ·go_wp2_with fail;have kr:=Row.new w2 38 #[.int .i64 0,.int .i64 0];have hS2a:Below W.heap.size W (w2.alloc (.cells #[.int .i64 0,.int .i64 0] 38)):=hS2.alloc hS2.size _;have kl:W.heap.size<=w2.heap.size:=hS2.size;have kb:Below w2.heap.size w2 (w2.alloc (.cells #[.int .i64 0,.int .i64 0] 38)):=(Below.refl _ _).alloc (Nat.le_refl _) _;refine⟨fun _=>hS2a,?_⟩;have hD3:=hD2.below kb;generalize w2.alloc (.cells #[.int .i64 0,.int .i64 0] 38)=kw at *;generalize hK:w2.heap.size=K at *;refine Oo 6 ?_;go_wp2_with fail;refine Calls.mono (HTE _ _ hD3).out ?_;rintro _ w4 ⟨rfl,b4⟩;have hS2a4:Below W.heap.size W w4:=hS2a.trans (b4.mono hS2a.size);have kr4:=kr.below b4 kr.lt;clear b4 HTE;go_wp2_with fail;refine⟨fun _=>hS2a4,?_⟩;refine Oh 7 hS2a4 ?_ (v:=.tuple #[.agg #[.int .i64 p,.int .i64 q],.int .i64 0]);refine Oh 8 hS2a4 ?_ (v:=.agg #[.int .i64 p,.int .i64 q]);refine Oh 9 hS2a4 ?_ (v:=.int .i64 0);have wl:=kr4.lt;obtain⟨x0,x1⟩:=kr4.duo;have zf:=kr4.frozen;have hZ:=Row.set2 kr4 (.int .i64 p) (.int .i64 q);have hR1:=r1.below hS2a4 r1.lt;have hKne:w.heap.size≠K:=by have:=r1.lt;omega
   have hZ1:=(hR1.kept ((Kept.refl (fun b=>b≠K) _).setCell (p:=⟨K,0,none⟩) (by simp) (.int .i64 p)) hKne).kept ((Kept.refl (fun b=>b≠K) _).setCell (p:=⟨K,1,none⟩) (by simp) (.int .i64 q)) hKne;have hBe:=b0.trans (hS2a4.mono b0.size);have hBf:=below_set (below_set hBe (B:=K) 0 (.int .i64 p) (by have:=b0.size;omega)) (B:=K) 1 (.int .i64 q) (by have:=b0.size;omega);have hSf:=below_set (below_set hS2a4 (B:=K) 0 (.int .i64 p) (by omega)) (B:=K) 1 (.int .i64 q) (by omega);refine Oo 11 ?_;go_wp2_with fail;refine⟨fun _=>hSf,?_⟩;refine Oo 12 ?_;go_wp2_with fail;refine⟨fun _=>hSf,?_⟩;refine Od ?_;obtain⟨z0,z1⟩:=hZ.duo;obtain⟨z2,z3⟩:=hZ1.duo;clear x0 x1 zf hZ hZ1 hR1 hSf wl;by_cases e1:p=c
   ·subst e1;by_cases e2:q=e
    ·subst e2;go_wp2;go_ret;exact⟨by first|rfl|simp,hBf⟩
    ·go_wp2;go_ret;exact⟨by first|rfl|(rw[decide_eq_false e2,Bool.and_false];rfl),hBf⟩
   ·by_cases e2:q=e
    ·subst e2;go_wp2;go_ret;exact⟨by first|rfl|(rw[decide_eq_false e1];rfl),hBf⟩
    ·go_wp2;go_ret;exact⟨by first|rfl|(rw[decide_eq_false e1];rfl),hBf⟩
 ·go_wp2_with fail;have kr:Row (W.alloc (.cells #[.int .i64 0,.int .i64 0] 38)).drew W.heap.size 38 #[.int .i64 0,.int .i64 0]:=Row.new W 38 #[.int .i64 0,.int .i64 0];have hSa:Below W.heap.size W (W.alloc (.cells #[.int .i64 0,.int .i64 0] 38)).drew:=((Below.refl _ W).alloc (Nat.le_refl _) _).drew;have kl:W.heap.size<=W.heap.size:=Nat.le_refl _;refine⟨fun _=>hSa,?_⟩;generalize (W.alloc (.cells #[.int .i64 0,.int .i64 0] 38)).drew=kw at *;refine Oo 2 ?_;go_wp2_with fail;refine Calls.mono (HOF _).out ?_;rintro _ w2 ⟨v2,rfl,hV2,b2⟩;obtain⟨s2,rfl,hD2⟩:=hV2;obtain⟨_,a3,c3,rfl,_,_⟩:=id hD2;have hSa2:Below W.heap.size W w2:=hSa.trans (b2.mono hSa.size);have kr2:=kr.below b2 kr.lt;unfold bv;obtain⟨sg,HSG⟩:∃sg,Hid (decide (c<0)=sg):=⟨_,rfl⟩;obtain⟨n3,HN3⟩:∃n3,Hid ((digs c.natAbs).length=n3):=⟨_,rfl⟩;have HTE:=HTE;rw[HSG.out] at HTE;rw[HN3.out] at hD2;rw[HSG.out,HN3.out];clear b2 HOF;go_wp2_with fail;refine⟨fun _=>hSa2,?_⟩;refine Oh 5 hSa2 ?_ (v:=.agg #[.bool sg,.slice a3 n3 c3,.int .i64 e]);refine Oo 6 ?_;go_wp2_with fail;refine Calls.mono (HTE _ _ hD2).out ?_;rintro _ w4 ⟨rfl,b4⟩;have hSa24:Below W.heap.size W w4:=hSa2.trans (b4.mono hSa2.size);have kr4:=kr2.below b4 kr2.lt;clear b4 HTE;go_wp2_with fail;refine⟨fun _=>hSa24,?_⟩;refine Oh 7 hSa24 ?_ (v:=.tuple #[.agg #[.int .i64 p,.int .i64 q],.int .i64 0]);refine Oh 8 hSa24 ?_ (v:=.agg #[.int .i64 p,.int .i64 q]);refine Oh 9 hSa24 ?_ (v:=.int .i64 0);have wl:=kr4.lt;obtain⟨x0,x1⟩:=kr4.duo;have zf:=kr4.frozen;have hZ:=Row.set2 kr4 (.int .i64 p) (.int .i64 q);have hR1:=r1.below hSa24 r1.lt;have hKne:w.heap.size≠W.heap.size:=by have:=r1.lt;omega
  have hZ1:=(hR1.kept ((Kept.refl (fun b=>b≠W.heap.size) _).setCell (p:=⟨W.heap.size,0,none⟩) (by simp) (.int .i64 p)) hKne).kept ((Kept.refl (fun b=>b≠W.heap.size) _).setCell (p:=⟨W.heap.size,1,none⟩) (by simp) (.int .i64 q)) hKne;have hBe:=b0.trans (hSa24.mono b0.size);have hBf:=below_set (below_set hBe (B:=W.heap.size) 0 (.int .i64 p) (by have:=b0.size;omega)) (B:=W.heap.size) 1 (.int .i64 q) (by have:=b0.size;omega);have hSf:=below_set (below_set hSa24 (B:=W.heap.size) 0 (.int .i64 p) (by omega)) (B:=W.heap.size) 1 (.int .i64 q) (by omega);refine Oo 11 ?_;go_wp2_with fail;refine⟨fun _=>hSf,?_⟩;refine Oo 12 ?_;go_wp2_with fail;refine⟨fun _=>hSf,?_⟩;refine Od ?_;obtain⟨z0,z1⟩:=hZ.duo;obtain⟨z2,z3⟩:=hZ1.duo;clear x0 x1 zf hZ hZ1 hR1 hSf wl;by_cases e1:p=c
  ·subst e1;by_cases e2:q=e
   ·subst e2;go_wp2;go_ret;exact⟨by first|rfl|simp,hBf⟩
   ·go_wp2;go_ret;exact⟨by first|rfl|(rw[decide_eq_false e2,Bool.and_false];rfl),hBf⟩
  ·by_cases e2:q=e
   ·subst e2;go_wp2;go_ret;exact⟨by first|rfl|(rw[decide_eq_false e1];rfl),hBf⟩
   ·go_wp2;go_ret;exact⟨by first|rfl|(rw[decide_eq_false e1];rfl),hBf⟩
theorem rright_any (c e:Int) (hc:I64 c) (w:World):Calls Tryz.prog 53 #[.agg #[.int .i64 c,.int .i64 e]] w fun r w'=>r=.returned (.bool (rightB c e))/\Below w.heap.size w w':=by
 by_cases he:within e
 ·exact rright_ok c e hc he w
 ·have h1:rightB c e=false:=by
   unfold rightB;unfold within at he;by_cases h0:c=0
   ·rw[if_pos h0];exact decide_eq_false (by omega)
   ·rw[if_neg h0,decide_eq_false (by omega)];rfl
  rw[h1];exact rright_bad c e he w
set_option maxHeartbeats 8000000
theorem quo_digs (na nb:Bool) (sa sb:Value) (da db:List Int) (w:World) (hA:DgAt w sa da) (hB:DgAt w sb db) (ga:DgL da) (gb:DgL db) (la:da.length<=300) (lb:db.length<=300) (hb0:0<dval db):Calls Tryz.prog 61 #[bv na sa,bv nb sb] w fun r w'=>∃v1 v2,r=.returned (.tuple #[v1,v2])/\BigV w' (dval da / dval db) v1/\BigV w' (dval da % dval db) v2/\Below w.heap.size w w':=by
 obtain⟨_,a1,c1,rfl,_,_⟩:=id hA;obtain⟨_,a2,c2,rfl,_,_⟩:=id hB;have HA:Hid (DgAt w (.slice a1 da.length c1) da):=hA;have HB:Hid (DgAt w (.slice a2 db.length c2) db):=hB;have HGA:Hid (DgL da):=ga;have HGB:Hid (DgL db):=gb;obtain⟨Bv,hBv⟩:∃ Bv,dval db=Bv:=⟨_,rfl⟩;rw[hBv] at hb0;rw[hBv];have HBV:Hid (dval db=Bv):=hBv;have HB0:Hid (0<Bv):=hb0;unfold bv;clear hA hB ga gb hBv hb0;have mk:∀ W:World,(Instr.makeSlice 70 (.int .i64 (da.length:Int)) (.int .i64 (da.length:Int))).run Tryz.prog W=.ok (.slice (some ⟨W.heap.size,0,none⟩) da.length da.length) (W.alloc (.cells (dcell (List.replicate da.length 0)) 3)):=fun W=>by rw[<-dcell_zeros];exact make41 da.length (by omega) W
 have r0:=((((((Row.new w 72 #[.bool false,.slice a1 da.length c1]).alloc (.cells #[.bool false,.slice a2 db.length c2] 72)).alloc (.cells #[.bool false,.slice none 0 0] 72)).alloc (.cells #[.bool false,.slice none 0 0] 72)).alloc (.cells (dcell (List.replicate da.length 0)) 3)).alloc (.cells #[.bool false,.slice none 0 0] 72));have r1:=(((((Row.new (w.alloc (.cells #[.bool false,.slice a1 da.length c1] 72)) 72 #[.bool false,.slice a2 db.length c2]).alloc (.cells #[.bool false,.slice none 0 0] 72)).alloc (.cells #[.bool false,.slice none 0 0] 72)).alloc (.cells (dcell (List.replicate da.length 0)) 3)).alloc (.cells #[.bool false,.slice none 0 0] 72));have r2:=((((Row.new ((w.alloc (.cells #[.bool false,.slice a1 da.length c1] 72)).alloc (.cells #[.bool false,.slice a2 db.length c2] 72)) 72 #[.bool false,.slice none 0 0]).alloc (.cells #[.bool false,.slice none 0 0] 72)).alloc (.cells (dcell (List.replicate da.length 0)) 3)).alloc (.cells #[.bool false,.slice none 0 0] 72));have r3:=(((Row.new (((w.alloc (.cells #[.bool false,.slice a1 da.length c1] 72)).alloc (.cells #[.bool false,.slice a2 db.length c2] 72)).alloc (.cells #[.bool false,.slice none 0 0] 72)) 72 #[.bool false,.slice none 0 0]).alloc (.cells (dcell (List.replicate da.length 0)) 3)).alloc (.cells #[.bool false,.slice none 0 0] 72));have r4:=((Row.new ((((w.alloc (.cells #[.bool false,.slice a1 da.length c1] 72)).alloc (.cells #[.bool false,.slice a2 db.length c2] 72)).alloc (.cells #[.bool false,.slice none 0 0] 72)).alloc (.cells #[.bool false,.slice none 0 0] 72)) 3 (dcell (List.replicate da.length 0))).alloc (.cells #[.bool false,.slice none 0 0] 72));have r5:=(Row.new (((((w.alloc (.cells #[.bool false,.slice a1 da.length c1] 72)).alloc (.cells #[.bool false,.slice a2 db.length c2] 72)).alloc (.cells #[.bool false,.slice none 0 0] 72)).alloc (.cells #[.bool false,.slice none 0 0] 72)).alloc (.cells (dcell (List.replicate da.length 0)) 3)) 72 #[.bool false,.slice none 0 0]);have bz:Below w.heap.size w ((((((w.alloc (.cells #[.bool false,.slice a1 da.length c1] 72)).alloc (.cells #[.bool false,.slice a2 db.length c2] 72)).alloc (.cells #[.bool false,.slice none 0 0] 72)).alloc (.cells #[.bool false,.slice none 0 0] 72)).alloc (.cells (dcell (List.replicate da.length 0)) 3)).alloc (.cells #[.bool false,.slice none 0 0] 72)):=(((((((Below.refl _ w).alloc (Nat.le_refl _) _).alloc (by simp) _).alloc (by simp;omega) _).alloc (by simp;omega) _).alloc (by simp;omega) _).alloc (by simp;omega) _);simp only[World.size_alloc] at r1 r2 r3 r4 r5;have HQ0:Hid (QuSt w (.slice a1 da.length c1) (.slice a2 db.length c2) none 0 0 (List.replicate da.length 0) 0 ((((((w.alloc (.cells #[.bool false,.slice a1 da.length c1] 72)).alloc (.cells #[.bool false,.slice a2 db.length c2] 72)).alloc (.cells #[.bool false,.slice none 0 0] 72)).alloc (.cells #[.bool false,.slice none 0 0] 72)).alloc (.cells (dcell (List.replicate da.length 0)) 3)).alloc (.cells #[.bool false,.slice none 0 0] 72))):=⟨r0,r1,r2,r3,r4,r5,by rw[show (0:Int).natAbs=0 from rfl,digs_zero];exact dg_nil _,bz⟩;go_enter Tryz.func61,Tryz.ntmps61;go_upto_block 0 with fail
 clear r0 r1 r2 r3 r4 r5 bz mk;generalize ((((((w.alloc (.cells #[.bool false,.slice a1 da.length c1] 72)).alloc (.cells #[.bool false,.slice a2 db.length c2] 72)).alloc (.cells #[.bool false,.slice none 0 0] 72)).alloc (.cells #[.bool false,.slice none 0 0] 72)).alloc (.cells (dcell (List.replicate da.length 0)) 3)).alloc (.cells #[.bool false,.slice none 0 0] 72))=W at *;obtain⟨D,hD⟩:∃ D,w.heap.size+1+1+1+1=D:=⟨_,rfl⟩;have HDe:Hid (w.heap.size+1+1+1+1=D):=hD;have HRe:Hid (w.heap.size+1+1+1+1+1=D+1):=by show _=_;rw[hD]
 rw[hD];clear hD;go_cut [8] (fun v8 wx=>∃(qs:List Int) (r:Int) (ar:Option Addr) (nr cr:Nat),Hid (QoAt da qs Bv r 0)/\Hid ((digs r.natAbs).length=nr)/\nr<=302/\qs.length<=300/\Hid (QuSt w (.slice a1 da.length c1) (.slice a2 db.length c2) ar nr cr qs r wx))
 case first =>
  as_aux_lemma =>
   go_wp2_with fail;go_loopw [8] (fun v8 wr=>∃(i:Nat) (qs:List Int) (r:Int) (ar:Option Addr) (nr cr:Nat),i<=da.length/\v8=.int .i64 ((i:Int)-1)/\Hid (QoAt da qs Bv r i)/\Hid ((digs r.natAbs).length=nr)/\nr<=302/\Hid (QuSt w (.slice a1 da.length c1) (.slice a2 db.length c2) ar nr cr qs r wr)) (fun v8 _=>(intOf v8+1).toNat)
   case atStart=>exact⟨da.length,List.replicate da.length 0,0,none,0,0,Nat.le_refl _,rfl,QoAt.begin da Bv,by show _=_;rw[show (0:Int).natAbs=0 from rfl,digs_zero];rfl,by omega,HQ0⟩
   case round =>
    clear HQ0;obtain⟨i,qs,r,ar,nr,cr,hi,rfl,HO,HNR,hnr,HQ⟩:=hrel;by_cases hi0:i=0
    ·subst hi0;have hql:qs.length<=300:=by rw[HO.out.le];exact la
     go_wp2_with fail;go_meet;exact⟨qs,r,ar,nr,cr,HO,HNR,hnr,hql,HQ⟩
    ·obtain⟨j,rfl⟩:∃j,i=j+1:=⟨i-1,by omega⟩;have hj:j<da.length:=by omega
     have hv:((j+1:Nat):Int)-1=(j:Int):=by omega
     rw[hv];obtain⟨b1,o1,hga,hb1,hx0⟩:=HA.out.1.at j hj;obtain⟨x,hx⟩:∃x,da[j]?.getD 0=x:=⟨_,rfl⟩;have hxb:=HGA.out.get j;rw[hx] at hx0 hxb;subst hga;have HX:Hid (∀ V,Below w.heap.size w V->V.cell? ⟨b1,o1+j,none⟩=some (.int .i64 x)):=fun V hV=>(World.cell?_of_block (w:=w) (a:=⟨b1,o1+j,none⟩) (hV.block b1 hb1)).trans hx0;have hr0:0<=r/\r<Bv:=by rw[HO.out.re];exact⟨Int.emod_nonneg _ (Int.ne_of_gt HB0.out),Int.emod_lt_of_pos _ HB0.out⟩
     have HR0:Hid (0<=r/\r<Bv):=hr0;have HQI:Hid (QiAt da qs Bv (10*r+x) j 0 (10*r+x)):=by have:=QiAt.start HO.out HGA.out hj HB0.out;rw[hx] at this;exact this
     have hnr2:nr<=300:=by
      rw[<-HNR.out];refine Nat.le_trans (digs_len _ db.length ?_) lb;have h5:=dval_lt HGB.out;rw[HBV.out] at h5;have h6:((r.natAbs:Nat):Int)<((10 ^ db.length:Nat):Int):=by rw[Int.natCast_pow];have:((10:Nat):Int)=10:=rfl;rw[this];omega
      exact Int.ofNat_lt.1 h6
     have HSH:∀ V,Below wr.heap.size wr V->Hid (Calls Tryz.prog 62 #[.agg #[.bool false,.slice ar nr cr],.int .i64 ((1:Nat):Int)] V fun r9 w'=>∃v',r9=.returned v'/\BigV w' (r*10 ^ 1) v'/\Below V.heap.size V w'):=fun V h=>by have:=shift_any r (bv false (.slice ar nr cr)) 1 V ⟨_,by rw[decide_eq_false (by have:=HR0.out;omega)],(HQ.out.dr.below h)⟩ (by decide) (by rw[HNR.out];omega);exact this
     have HOF:∀ V,Hid (Calls Tryz.prog 33 #[.int .i64 x] V _):=fun V=>of_any x ⟨by omega,by omega⟩ V;have hQ:=HQ.out;have hqlt:=hQ.rr.lt;have k0:∀wx,Below wr.heap.size wr wx->wx.cell? ⟨D+1,0,none⟩=some (.bool false)/\wx.cell? ⟨D+1,1,none⟩=some (.slice ar nr cr):=fun wx hx=>by have:=(hQ.rr.below hx hQ.rr.lt).duo;rw[HRe.out] at this;exact this
     have k1:∀wx,Below wr.heap.size wr wx->wx.cell? ⟨w.heap.size,0,none⟩=some (.bool false)/\wx.cell? ⟨w.heap.size,1,none⟩=some (.slice (some ⟨b1,o1,none⟩) da.length c1):=fun wx hx=>(hQ.ra.below hx hQ.ra.lt).duo;have k2:∀wx,Below wr.heap.size wr wx->wx.cell? ⟨b1,o1+j,none⟩=some (.int .i64 x):=fun wx hx=>HX.out wx (hQ.be.trans (hx.mono hQ.be.size));have hj3:(j:Int)<(da.length:Int):=by omega
     have hj4:(0:Int)<=(j:Int):=by omega
     clear hx hx0 hi hi0 hv hr0 hQ;go_upto_region 8 with fail
     have hS:Below wr.heap.size wr wr.drew:=(Below.refl _ wr).drew;refine Ib wr 9 10 ?_;refine Oh 0 hS ?_ (v:=.agg #[.bool false,.slice ar nr cr]) (y:=by intro wx hx;obtain⟨x0,x1⟩:=k0 wx hx;go_simp<;>rfl);refine Oh 2 hS ?_;refine Oh 3 hS ?_ (v:=.slice (some ⟨b1,o1,none⟩) da.length c1) (y:=by intro wx hx;obtain⟨x0,x1⟩:=k1 wx hx;go_simp<;>rfl);refine Oh 4 hS ?_ (v:=.int .i64 (j:Int));refine Oh 5 hS ?_ (v:=.pointer (some ⟨b1,o1+j,none⟩));refine Oh 6 hS ?_ (v:=.int .i64 x) (y:=by intro wx hx;have x0:=k2 wx hx;go_simp<;>rfl);refine Oo 1 ?_;go_wp2_with fail;refine Calls.mono (HSH _ hS).out ?_;rintro _ w2 ⟨v2,rfl,hV2,b2⟩;have hV2':=hV2;obtain⟨s2,rfl,hD2⟩:=hV2;obtain⟨_,a6,c6,rfl,_,_⟩:=id hD2;have hW2:Below wr.heap.size wr w2:=hS.trans (b2.mono hS.size);have e10:r*10 ^ 1=10*r:=by rw[Int.pow_succ,Int.pow_zero,Int.one_mul];omega
     have HSG:Hid (decide (r*10 ^ 1<0)=false):=by show _=_;rw[e10];exact decide_eq_false (by have:=HR0.out;omega)
     have HE10:Hid (r*10 ^ 1=10*r):=e10;clear b2 HSH hS hD2 e10;unfold bv at hV2' ⊢;rw[HSG.out] at hV2' ⊢;obtain⟨n6,HN6⟩:∃n6:Nat,Hid ((digs (r*10 ^ 1:Int).natAbs).length=n6):=by exact⟨(digs (r*10 ^ 1:Int).natAbs).length,(rfl:(digs (r*10 ^ 1:Int).natAbs).length=(digs (r*10 ^ 1:Int).natAbs).length)⟩
     rw[HN6.out] at hV2' ⊢;have hn6:n6<=302:=by
      rw[<-HN6.out];refine Nat.le_trans (digs_len _ (nr+1) ?_) (by omega);have h5:=dval_lt (digs_dg r.natAbs);rw[dval_digs,HNR.out] at h5;have h6:r.natAbs<10 ^ nr:=by
       have:((r.natAbs:Nat):Int)<((10 ^ nr:Nat):Int):=by rw[Int.natCast_pow];exact h5
       exact Int.ofNat_lt.1 this
      rw[HE10.out,Nat.pow_succ];omega
     go_wp2_with fail;refine⟨fun _=>hW2,?_⟩;refine Oo 7 ?_;go_wp2_with fail;refine Calls.mono (HOF _).out ?_;rintro _ w3 ⟨v3,rfl,hV3,b3⟩;have hW3:Below wr.heap.size wr w3:=hW2.trans (b3.mono hW2.size);have hV2'':=hV2'.below b3;have HPL:Hid (Calls Tryz.prog 64 #[.agg #[.bool false,.slice a6 n6 c6],v3] w3 _):=plus_any (r*10 ^ 1) x _ v3 w3 hV2'' hV3 (by rw[HN6.out];omega) (Nat.le_trans (digs_len _ 1 (by omega)) (by decide));obtain⟨s3,rfl,hD3⟩:=hV3;obtain⟨_,a7,c7,rfl,_,_⟩:=id hD3;clear b3 HOF hW2 hV2' hV2'' hD3;unfold bv at HPL ⊢;obtain⟨sx,HSX⟩:∃sx,Hid (decide (x<0)=sx):=⟨_,rfl⟩;obtain⟨n7,HN7⟩:∃n7:Nat,Hid ((digs x.natAbs).length=n7):=⟨_,rfl⟩;rw[HSX.out,HN7.out] at HPL ⊢;go_wp2_with fail;refine⟨fun _=>hW3,?_⟩;refine Oo 8 ?_;go_wp2_with fail;refine Calls.mono HPL.out ?_;rintro _ w4 ⟨v4,rfl,hV4,b4⟩;rw[HE10.out] at hV4;obtain⟨s4,rfl,hD4⟩:=hV4;obtain⟨_,a8,c8,rfl,_,_⟩:=id hD4;have hW4:Below wr.heap.size wr w4:=hW3.trans (b4.mono hW3.size);clear b4 HPL hW3;unfold bv;have HS4:Hid (decide (10*r+x<0)=false):=by show _=_;exact decide_eq_false (by have:=HR0.out;omega)
     rw[HS4.out];obtain⟨n8,HN8⟩:∃n8:Nat,Hid ((digs (10*r+x:Int).natAbs).length=n8):=by exact⟨(digs (10*r+x:Int).natAbs).length,(rfl:(digs (10*r+x:Int).natAbs).length=(digs (10*r+x:Int).natAbs).length)⟩
     rw[HN8.out] at hD4 ⊢;have hn8:n8<=302:=by
      rw[<-HN8.out];refine Nat.le_trans (digs_len _ (nr+1) ?_) (by omega);have h5:=dval_lt (digs_dg r.natAbs);rw[dval_digs,HNR.out] at h5;have h6:r.natAbs<10 ^ nr:=by
       have:((r.natAbs:Nat):Int)<((10 ^ nr:Nat):Int):=by rw[Int.natCast_pow];exact h5
       exact Int.ofNat_lt.1 this
      rw[Nat.pow_succ];omega
     have hQ4:=HQ.out.mono hW4;have hQ5:=hQ4.put hD4;rw[HRe.out] at hQ5;have HQ5:Hid (QuSt w (.slice (some ⟨b1,o1,none⟩) da.length c1) (.slice a2 db.length c2) a8 n8 c8 qs (10*r+x) ((w4.setCell ⟨D+1,0,none⟩ (.bool false)).setCell ⟨D+1,1,none⟩ (.slice a8 n8 c8))):=hQ5;have q4:=hQ4.rr;rw[HRe.out] at q4;clear hQ4 hQ5 hD4 HQ HO HNR;go_wp2_with fail;refine⟨fun _=>hW4,?_⟩;obtain⟨y0,y1⟩:=q4.duo;have zf:=q4.frozen;refine Oo 9 ?_;go_wp2_with fail;refine⟨fun h=>by simp at h,?_⟩;refine Od ?_;clear y0 y1 zf q4 hW4 k0 k1 k2 hqlt;generalize (w4.setCell ⟨D+1,0,none⟩ (.bool false)).setCell ⟨D+1,1,none⟩ (.slice a8 n8 c8)=w5 at *;obtain⟨X0,HX0⟩:∃ X0,Hid (10*r+x=X0):=⟨_,rfl⟩;rw[HX0.out] at HQ5 HQI HN8;go_wp2_with fail;go_loopw [] (fun wk=>∃(c r1:Int) (qs1:List Int) (ar:Option Addr) (nr cr:Nat),Hid (QiAt da qs1 Bv r1 j c X0)/\Hid ((digs r1.natAbs).length=nr)/\nr<=302/\Hid (QuSt w (.slice (some ⟨b1,o1,none⟩) da.length c1) (.slice a2 db.length c2) ar nr cr qs1 r1 wk)) (fun wk=>(10-intOf ((wk.cell? ⟨D,j,none⟩).getD undef)).toNat)
     case atStart=>exact⟨0,X0,qs,a8,n8,c8,HQI,HN8,hn8,HQ5⟩
     case round =>
      clear HQI HN8 hn8 HQ5 hnr hnr2 HN6 hn6;obtain⟨c,r1,qs1,ar1,nr1,cr1,HQI,HN1,hn1,HQ1⟩:=hrel;have hQ1:=HQ1.out;have hr10:=HQI.out.r0;have hqj:j<qs1.length:=by rw[HQI.out.le];exact hj
      have kr:=hQ1.rr;have kb:=hQ1.rb;have kd:=hQ1.at j hqj;have fd:=hQ1.rd.frozen j;rw[HRe.out] at kr;rw[HDe.out] at kd fd;rw[HQI.out.here] at kd;have HKD:Hid (wr.cell? ⟨D,j,none⟩=some (.int .i64 c)):=kd;obtain⟨x0,x1⟩:=kr.duo;obtain⟨x2,x3⟩:=kb.duo;have HMO:Hid (Calls Tryz.prog 63 #[.agg #[.bool false,.slice ar1 nr1 cr1],.agg #[.bool false,.slice a2 db.length c2]] wr fun r9 w'=>r9=.returned (.int .i64 (cI r1 Bv))/\Below wr.heap.size wr w'):=by have:=more_any false false _ _ _ _ wr hQ1.dr (HB.out.below hQ1.be) (digs_dg _) HGB.out (by rw[HN1.out];omega) (by omega);rw[dval_digs,HBV.out,show ((r1.natAbs:Nat):Int)=r1 by omega] at this;exact this
      by_cases hge:Bv<=r1
      ·have HCI:Hid (0<=cI r1 Bv):=by
        show _<=_;unfold cI;split
        ·omega
        ·rw[if_neg (by omega)];omega
       obtain⟨ci,HCE⟩:∃ci,Hid (cI r1 Bv=ci):=⟨_,rfl⟩;have hci:0<=ci:=by rw[<-HCE.out];exact HCI.out
       rw[HCE.out] at HMO;have HGE:Hid (Bv<=r1):=hge;clear hge;go_wp2_with fail;refine Calls.mono HMO.out ?_;rintro _ wa ⟨rfl,ba⟩;have hQa:=hQ1.mono ba;clear ba HMO x0 x1 x2 x3 kr kb kd fd hQ1 HQ1;have kr:=hQa.rr;have kb:=hQa.rb;rw[HRe.out] at kr;obtain⟨x0,x1⟩:=kr.duo;obtain⟨x2,x3⟩:=kb.duo;have HLE:Hid (Calls Tryz.prog 97 #[.agg #[.bool false,.slice ar1 nr1 cr1],.agg #[.bool false,.slice a2 db.length c2]] wa _):=less_digs false false _ _ _ _ wa hQa.dr (HB.out.below hQa.be) (digs_dg _) HGB.out (by rw[HN1.out];omega) (by omega) (by rw[dval_digs,HBV.out];have:=HGE.out;omega);have HQa:Hid (QuSt _ _ _ _ _ _ _ _ _):=hQa;clear hQa;go_wp2_with fail;refine Calls.mono HLE.out ?_;rintro _ wb ⟨sv,ds,rfl,hDs,hGs,hvs,hls,bb⟩;rw[dval_digs,HBV.out,show ((r1.natAbs:Nat):Int)=r1 by omega] at hvs;rw[HN1.out] at hls;have hQb:=HQa.out.mono bb;obtain⟨_,a9,c9,rfl,_,_⟩:=id hDs;have HTR:Hid (Calls Tryz.prog 65 #[.agg #[.bool false,.slice a9 ds.length c9]] wb _):=trim_new false (.slice a9 ds.length c9) ds wb hDs hGs (by omega);rw[show bval false ds=r1-Bv from hvs] at HTR;clear bb HLE x0 x1 x2 x3 kr kb HQa hDs hGs hvs;obtain⟨n9,hn9⟩:∃n9,ds.length=n9:=⟨_,rfl⟩;rw[hn9] at HTR ⊢;clear hn9 hls;go_wp2_with fail;refine Calls.mono HTR.out ?_;rintro _ wc ⟨v5,rfl,hV5,hN5,bc⟩;obtain⟨s5,rfl,hD5⟩:=hV5;obtain⟨_,a5,c5,rfl,_,_⟩:=id hD5;have hQc:=hQb.mono bc;have HS5:Hid (decide (r1-Bv<0)=false):=by show _=_;exact decide_eq_false (by have:=HGE.out;omega)
       obtain⟨n5,HN5⟩:∃n5:Nat,Hid ((digs (r1-Bv:Int).natAbs).length=n5):=by exact⟨(digs (r1-Bv:Int).natAbs).length,(rfl:(digs (r1-Bv:Int).natAbs).length=(digs (r1-Bv:Int).natAbs).length)⟩
       have hn5:n5<=302:=by
        rw[<-HN5.out];refine Nat.le_trans (digs_len _ nr1 ?_) hn1;have h5:=dval_lt (digs_dg r1.natAbs);rw[dval_digs,HN1.out] at h5;have h6:r1.natAbs<10 ^ nr1:=by
         have:((r1.natAbs:Nat):Int)<((10 ^ nr1:Nat):Int):=by rw[Int.natCast_pow];exact h5
         exact Int.ofNat_lt.1 this
        have:=HGE.out;have:=HB0.out;omega
       have hNS:NewS (w.heap.size+1+1+1+1+1) (.slice a5 (digs (r1-Bv).natAbs).length c5):=hN5.get.mono (Nat.le_of_lt hQb.rr.lt);unfold bv;rw[HS5.out];rw[HN5.out] at hD5 hNS ⊢;have hQd:=hQc.put hD5;have kr:=hQc.rr;rw[HRe.out] at kr hQd;clear bc HTR hQb hQc hD5 hN5;obtain⟨x0,x1⟩:=kr.duo;have zf:=kr.frozen;go_upto_region 11 with fail
       clear x0 x1 zf kr;generalize (wc.setCell ⟨D+1,0,none⟩ (.bool false)).setCell ⟨D+1,1,none⟩ (.slice a5 n5 c5)=wd at *;have HST:Hid (QiAt da (qs1.set j (c+1)) Bv (r1-Bv) j (c+1) X0):=HQI.out.step hj HB0.out HGE.out;have hc9:c+1<=9:=HST.out.c9 HB0.out;have hc0:=HQI.out.c0;have kd:=hQd.at j hqj;have fd:=hQd.rd.frozen j;rw[HQI.out.here] at kd;have hQe:=hQd.set hNS j (c+1);rw[HDe.out] at kd fd hQe;have HQe:Hid (QuSt _ _ _ _ _ _ _ _ _):=hQe;have hqe:(wd.setCell ⟨D,j,none⟩ (.int .i64 (c+1))).cell? ⟨D,j,none⟩=some (.int .i64 (c+1)):=by have h5:=hQe.at j (by rw[List.length_set];exact hqj);rw[HDe.out,getD_set _ _ _ _ hqj,if_pos rfl] at h5;exact h5
       have HQC:Hid _:=hqe;clear hQd hQe hNS hqe;go_wp2;go_roundw
       case rel=>exact⟨c+1,r1-Bv,qs1.set j (c+1),a5,n5,c5,HST,HN5,hn5,HQe⟩
       case measure => rw[HQC.out,HKD.out];simp only[Option.getD_some,intOf];omega
      ·obtain⟨ci,HCE⟩:∃ci,Hid (cI r1 Bv=ci):=⟨_,rfl⟩;have hci:ci<0:=by rw[<-HCE.out];unfold cI;rw[if_neg (by omega),if_pos (by omega)];omega
       rw[HCE.out] at HMO;have HDN:Hid (QoAt da qs1 Bv r1 j):=HQI.out.done hj HB0.out (by omega);clear hge;go_wp2_with fail;refine Calls.mono HMO.out ?_;rintro _ wa ⟨rfl,ba⟩;have HQa:Hid (QuSt _ _ _ _ _ _ _ _ _):=hQ1.mono ba;clear ba HMO x0 x1 x2 x3 kr kb kd fd hQ1 HQ1;go_wp2;go_roundw
       case rel=>exact⟨j,qs1,r1,ar1,nr1,cr1,by omega,by go_num,HDN,HN1,hn1,HQa⟩
       case measure=>simp[intOf]<;>omega
 case rest =>
  clear HQ0;obtain⟨qs,r,ar,nr,cr,HO,HNR,hnr,hql,HQ⟩:=hcut;have hQ:=HQ.out;have HDR:Hid (dval da % Bv=r/\dval da / Bv=dval qs/\0<=r):=by have h1:=HO.out.re;have h2:=HO.out.va;rw[List.drop_zero] at h1 h2;rw[List.drop_zero] at h2;exact⟨h1.symm,h2.symm,by rw[h1];exact Int.emod_nonneg _ (Int.ne_of_gt HB0.out)⟩
  have hql2:da.length=qs.length:=HO.out.le.symm;have HDG:Hid (DgAt wc (.slice (some ⟨D,0,none⟩) da.length da.length) qs):=by show DgAt _ _ _;rw[hql2];refine⟨.inr ⟨D,0,qs.length,rfl,by rw[<-HDe.out];exact hQ.rd.lt,fun j hj => ?_⟩,_,_,rfl,Nat.le_refl _,fun e=>by simp at e⟩;have:=hQ.at j hj;rw[HDe.out] at this;rw[Nat.zero_add];exact this
  have HTR:∀ V,Below wc.heap.size wc V->Hid (Calls Tryz.prog 65 #[.agg #[.bool false,.slice (some ⟨D,0,none⟩) da.length da.length]] V fun r9 w'=>∃v,r9=.returned v/\BigV w' (dval da / Bv) v/\NewV V.heap.size v/\Below V.heap.size V w'):=fun V h=>by have:=trim_new false _ qs V (HDG.out.below h) HO.out.dg (by omega);rw[show bval false qs=dval da / Bv from HDR.out.2.1.symm] at this;exact this
  clear hql2;go_upto_region 12 with fail
  have hS0:Below wc.heap.size wc wc.drew:=(Below.refl _ wc).drew;have krr:Row wc (D+1) 72 #[.bool false,.slice ar nr cr]:=by have:=hQ.rr;rw[HRe.out] at this;exact this
  have hS:Row wc.drew (D+1) 72 #[.bool false,.slice ar nr cr]:=krr;refine Ir (fun wx:World=>Row wx (D+1) 72 #[.bool false,.slice ar nr cr]) 5 6 ?_;refine Oh 0 hS ?_ (v:=.slice (some ⟨D,0,none⟩) da.length da.length);refine Oh 1 hS ?_ (v:=.agg #[.bool false,.slice (some ⟨D,0,none⟩) da.length da.length]);refine Oh 3 hS ?_ (v:=.agg #[.bool false,.slice ar nr cr]) (y:=by intro wx hx;obtain⟨x0,x1⟩:=hx.duo;go_simp<;>rfl);refine Oo 2 ?_;go_wp2_with fail;refine Calls.mono (HTR _ hS0).out ?_;rintro _ w2 ⟨v2,rfl,hV2,hN2,b2⟩;obtain⟨s2,rfl,hD2⟩:=hV2;obtain⟨_,a3,c3,rfl,_,_⟩:=id hD2;have hW2:Below wc.heap.size wc w2:=hS0.trans (b2.mono hS0.size);have hQ2:=hQ.mono hW2;have hS2:Row w2 (D+1) 72 #[.bool false,.slice ar nr cr]:=krr.below hW2 krr.lt;clear b2 HTR hS hS0 hQ HQ krr hN2;obtain⟨sg,HSG⟩:∃sg,Hid (decide (dval da / Bv<0)=sg):=⟨_,rfl⟩;obtain⟨n3,HN3⟩:∃n3:Nat,Hid ((digs (dval da / Bv:Int).natAbs).length=n3):=by exact⟨(digs (dval da / Bv:Int).natAbs).length,(rfl:(digs (dval da / Bv:Int).natAbs).length=(digs (dval da / Bv:Int).natAbs).length)⟩
  unfold bv;rw[HSG.out];rw[HN3.out] at hD2 ⊢;go_wp2_with fail;refine⟨fun _=>hS2,?_⟩;have p1:=hQ2.y1;have p2:=hQ2.y2;obtain⟨x0,x1⟩:=p1.duo;have zf:=p1.frozen;have t1:Row ((w2.setCell ⟨w.heap.size+1+1,0,none⟩ (.bool sg)).setCell ⟨w.heap.size+1+1,1,none⟩ (.slice a3 n3 c3)) (w.heap.size+1+1) 72 #[.bool sg,.slice a3 n3 c3]:=Row.set2 p1 _ _;have t2:=(p2.other (K:=w.heap.size+1+1) (by omega) 0 (.bool sg)).other (K:=w.heap.size+1+1) (by omega) 1 (.slice a3 n3 c3);have hS3:=(hS2.other (K:=w.heap.size+1+1) (by have:=HDe.out;omega) 0 (.bool sg)).other (K:=w.heap.size+1+1) (by have:=HDe.out;omega) 1 (.slice a3 n3 c3);have dq:=hD2.store p1 (.bool sg) (.slice a3 n3 c3);have dr:=hQ2.dr.store p1 (.bool sg) (.slice a3 n3 c3);have hB3:=below_set (below_set hQ2.be (B:=w.heap.size+1+1) 0 (.bool sg) (by omega)) (B:=w.heap.size+1+1) 1 (.slice a3 n3 c3) (by omega);refine Oo 4 ?_;go_wp2_with fail;refine⟨fun _=>hS3,?_⟩;clear x0 x1 zf p1 p2 hS2 hS3 hQ2 hD2 hW2;generalize (w2.setCell ⟨w.heap.size+1+1,0,none⟩ (.bool sg)).setCell ⟨w.heap.size+1+1,1,none⟩ (.slice a3 n3 c3)=w3 at *;obtain⟨x0,x1⟩:=t2.duo;have zf:=t2.frozen;have u1:=(t1.other (K:=w.heap.size+1+1+1) (by omega) 0 (.bool false)).other (K:=w.heap.size+1+1+1) (by omega) 1 (.slice ar nr cr);have u2:Row ((w3.setCell ⟨w.heap.size+1+1+1,0,none⟩ (.bool false)).setCell ⟨w.heap.size+1+1+1,1,none⟩ (.slice ar nr cr)) (w.heap.size+1+1+1) 72 #[.bool false,.slice ar nr cr]:=Row.set2 t2 _ _;have eq:=dq.store t2 (.bool false) (.slice ar nr cr);have er:=dr.store t2 (.bool false) (.slice ar nr cr);have hB4:=below_set (below_set hB3 (B:=w.heap.size+1+1+1) 0 (.bool false) (by omega)) (B:=w.heap.size+1+1+1) 1 (.slice ar nr cr) (by omega);refine Oo 5 ?_;go_wp2_with fail;refine⟨fun h=>by simp at h,?_⟩;refine Od ?_;go_wp2;refine bodyPost_ret (ret_cells rfl (g:=w.heap.size+1+1) (g2:=w.heap.size+1+1+1) rfl rfl (load43 u1 rfl) (load43 u2 rfl)) rfl ⟨_,_,rfl,⟨_,by rw[HSG.out];rfl,eq⟩,?_,hB4⟩;rw[HDR.out.1];exact⟨_,by rw[decide_eq_false (by have:=HDR.out.2.2;omega)];rfl,er⟩
theorem Row.triF {W:World} {B:Nat} {t:TypeId} {a b c:Value} (h:Row W B t #[a,b,c]):W.cell? ⟨B,0,none⟩=some a∧W.cell? ⟨B,1,none⟩=some b∧W.cell? ⟨B,2,none⟩=some c:=⟨h.cell rfl,h.cell rfl,h.cell rfl⟩
theorem DgAt.set0 {W:World} {sv:Value} {ds:List Int} (h:DgAt W sv ds) {B:Nat} {p:Bool} {x:Option Addr} {y z:Nat} (hR:Row W B 72 #[.bool p,.slice x y z]) (u:Value):DgAt (W.setCell ⟨B,0,none⟩ u) sv ds:=by
 refine⟨?_,h.2⟩;have hk:=(Kept.refl (fun k=>k≠B) W).setCell (p:=⟨B,0,none⟩) (by simp) u;rcases h.1 with h0|⟨b,off,c,e,hb,hc⟩
 ·exact .inl h0
 ·by_cases h0:ds=[]
  ·subst h0;exact .inl ⟨rfl,_,_,e⟩
  ·have hl:0<ds.length:=List.length_pos_iff.2 h0;have hne:b≠B:=by
    rintro rfl;have h1:=hc 0 hl;rw[row_cell hR] at h1;match off,h1 with
    | 0,h1=>simp at h1
    | 1,h1=>simp at h1
    | o+2,h1=>simp at h1
   exact .inr ⟨b,off,c,e,Nat.lt_of_lt_of_le hb hk.size,fun j hj=>(hk.cell (p:=⟨b,off+j,none⟩) hne).trans (hc j hj)⟩
theorem dec_low (c e:Int) (he:within e):∃j:Nat,c=sc (decW c e)*10 ^ j/\(c≠0->(decW c e).e=e+j)/\((decW c e).e<0->(decW c e).n % 10≠0):=by
 obtain⟨h1,h2⟩ : -18<=e/\e<=18:=he;by_cases hc:c=0
 ·subst hc;exact⟨0,by simp[decW,shortW,numW,sc],fun h=>absurd rfl h,fun h=>by simp[decW,shortW,numW] at h⟩
 ·obtain⟨k,a1,a2,a3,a4,a5⟩:=strip_spec c.natAbs e (by omega);refine⟨k,?_,fun _ => ?_,fun h => ?_⟩
  ·unfold decW shortW numW sc;simp only[show c.natAbs≠0 by omega,if_false];have a1':((c.natAbs:Nat):Int)=((strip c.natAbs e).1:Int)*10 ^ k:=by have:=congrArg (Nat.cast:Nat->Int) a1;rw[Int.natCast_mul,Int.natCast_pow] at this;exact this
   by_cases hs:c<0
   ·simp only[hs,decide_true,if_true];rw[Int.neg_mul,<-a1'];omega
   ·simp only[hs,decide_false];rw[if_neg (by simp),<-a1'];omega
  ·unfold decW shortW numW;simp only[show c.natAbs≠0 by omega,if_false];exact a2
  ·unfold decW shortW numW at h ⊢;simp only[show c.natAbs≠0 by omega,if_false] at h ⊢;rcases a4 with h5|h5
   ·exact h5
   ·omega
theorem told_dec (c e:Int) (he:within e):toldW (some (decW c e))=tell c e:=by
 show tellW (decW c e).neg (decW c e).n (decW c e).e=_;rw[<-tell_sc];obtain⟨j,h1,h2,_⟩:=dec_low c e he;by_cases hc:c=0
 ·subst hc;rfl
 ·have:=tell_pow (sc (decW c e)) (decW c e).e j;rw[<-h1,h2 hc,show e+(j:Int)-(j:Int)=e by omega] at this;rw[h2 hc];exact this.symm
end Go.Proofs.YtoncpcdepemlcaaGreatDoor
