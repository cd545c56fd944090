import Derived.Test.YtnhflnpjepiceaaGreatDoorWprM
import Derived.Deep.CutBlock
import Derived.Deep.DeepCutAuto
import Derived.Test.YtnhflnpjepiceaaGreatDoorWbsM
namespace Go.Proofs.YtnhflnpjepiceaaGreatDoor
set_option maxRecDepth 100000
set_option maxHeartbeats 2000000
open Go.RowKit
def YG (y : Wd) : Value := if 0 ≤ y.e ∧ y.n * 10 ^ y.e.toNat ≤ 9007199254740992 then .tuple #[.int .i64 (sc y * 10 ^ y.e.toNat), .bool true] else .tuple #[.int .i64 0, .bool false]
theorem int_neg (c e:Int) (hc:I64 c) (he:zo e) (hge:(zj c e).e<0) (w:World):Calls Tryz.prog 113 #[dv c e] w fun r w'=>r=.returned (.tuple #[.int .i64 0,.bool false])/\Below w.heap.size w w':=by
 have hT:=fun K w (hK:Row w K 23 #[.int .i64 c,.int .i64 e])=>Ys c e K w hc he hK;generalize zj c e=y at *;obtain⟨nn,n,e0⟩:=y;unfold Wd.cells at hT;simp only at hT hge;unfold dv;clear hc he;have hK:=Row.new1 w (.cells #[.int .i64 c,.int .i64 e] 23) 23 #[.int .i64 c,.int .i64 e];go_enter Tryz.func113,Tryz.ntmps113;go_wp2_with fail;refine(hT _ _ hK).mono ?_;rintro _ W ⟨h1,G,hG,rfl,hR⟩;obtain⟨_,_,hB⟩:=zN w W _ _ _ _ h1;obtain⟨x0,x1,x2,x3⟩:=hR.four;clear h1 hG hK hT;go_wp2;go_ret2;exact⟨rfl,hB⟩
theorem int_ok (c e:Int) (hc:I64 c) (he:zo e) (hge:0<=(zj c e).e) (w:World):Calls Tryz.prog 113 #[dv c e] w fun r w'=>r=.returned (YG (zj c e))/\Below w.heap.size w w':=by
 have hT:=fun K w (hK:Row w K 23 #[.int .i64 c,.int .i64 e])=>Ys c e K w hc he hK;have hsh:=xa c e he.1 he.2 hc.1 hc.2;have hbig:=hsh.big;have hhi:=hsh.hi;generalize zj c e=y at *;have hLO:=ki y 0 (by unfold zt;omega) (by omega) (by omega) (by decide);have hls:yd y 0=if y.n*10 ^ y.e.toNat<zt then some ⟨y.neg,y.n*10 ^ y.e.toNat,0⟩ else none:=by
  unfold yd;by_cases h0:y.e<=0
  ·have:y.e=0:=by omega
   rw[if_pos h0,this,if_pos (by simp;unfold zt;omega)];obtain⟨a,b,d⟩:=y;simp only at this;simp[this]
  ·rw[if_neg h0,show (y.e-0).toNat=y.e.toNat by omega]
 rw[hls] at hLO;have hsg:=fun x=>Xu x;unfold YG sc;obtain⟨nn,n,e0⟩:=y;simp only[Wd.val_eq] at *;unfold Wd.cells at hT hLO;simp only at hT hLO hge;obtain⟨M,hM⟩:∃ M,n*10 ^ e0.toNat=M:=⟨_,rfl⟩;have HM:Hid (n*10 ^ e0.toNat=M):=hM;rw[hM] at hLO ⊢;obtain⟨nh,hnh⟩:∃q,n / 18446744073709551616=q:=⟨_,rfl⟩;obtain⟨nl,hnl⟩:∃q,n % 18446744073709551616=q:=⟨_,rfl⟩;rw[hnh,hnl] at hT hLO;unfold dv;have hK:=Row.new1 w (.cells #[.int .i64 c,.int .i64 e] 23) 23 #[.int .i64 c,.int .i64 e];have hge2:¬ (e0<0):=by omega
 clear hc he hsh hnh hnl hls hM;by_cases h1:M<zt
 ·rw[if_pos h1] at hLO;unfold qg at hLO;simp only[Wd.val_eq] at hLO;unfold Wd.cells at hLO;simp only at hLO;by_cases h2:M<=9007199254740992
  ·rw[if_pos ⟨hge,h2⟩];rw[show M / 18446744073709551616=0 by omega,show M % 18446744073709551616=M by omega,show ((0:Nat):Int)=0 from rfl] at hLO;have hS:=hsg ⟨nn,M,0⟩;unfold Wd.cells at hS;simp only at hS;rw[show M / 18446744073709551616=0 by omega,show M % 18446744073709551616=M by omega,show ((0:Nat):Int)=0 from rfl] at hS;obtain⟨sg,hsge⟩:∃sg,sgW ⟨nn,M,0⟩=sg:=⟨_,rfl⟩;rw[hsge] at hS;have hsb : -1<=sg/\sg<=1:=by rw[<-hsge];exact Xw _
   obtain⟨pv,hpv⟩:∃pv,(M:Int)*sg=pv:=⟨_,rfl⟩;have hpb : -9007199254740992<=pv/\pv<=9007199254740992:=by rw[<-hpv];rcases(show sg = -1\/sg=0\/sg=1 by omega) with h|h|h<;>subst h<;>omega
   have HPV:Hid (pv=(if nn=true then -(n:Int) else (n:Int))*10 ^ e0.toNat):=by
    show _=_;have hMi:(M:Int)=(n:Int)*10 ^ e0.toNat:=by rw[<-HM.out,Int.natCast_mul,Int.natCast_pow];rfl
    rw[<-hpv,<-hsge];unfold sgW;by_cases hM0:M=0
    ·simp only[hM0,if_true];have hn0:n=0:=by
      have h5:=HM.out;rw[hM0] at h5;rcases Nat.mul_eq_zero.1 h5 with h|h
      ·exact h
      ·exact absurd h (by have:0<10 ^ e0.toNat:=Nat.pow_pos (by decide);omega)
     subst hn0;simp
    ·simp only[hM0,if_false];cases nn
     ·simp[hMi]
     ·simp[hMi,Int.neg_mul]
   have HS:∀ V,Hid (Calls Tryz.prog 100 #[.agg #[.bool nn,.int .u64 0,.int .u64 (M:Int),.int .i64 0]] V fun r w'=>r=.returned (.int .i64 sg)/\Below V.heap.size V w'):=hS;have wm:IntKind.i64.wrap ((M:Int)*sg)=pv:=by rw[hpv,IntKind.wrap_i64];omega
   rw[<-HPV.out];clear h1 HM hsg hS hsge hpv;have hMb:(M:Int)<=9007199254740992:=by omega
   go_enter Tryz.func113,Tryz.ntmps113;go_wp2_with fail;refine(hT _ _ hK).mono ?_;rintro _ W ⟨h1,G,hG,rfl,hR⟩;obtain⟨_,_,hB⟩:=zN w W _ _ _ _ h1;obtain⟨x0,x1,x2,x3⟩:=hR.four;clear h1 hG hK hT;go_wp2_with fail;refine(hLO _).mono ?_;rintro _ w2 ⟨rfl,h2⟩;have hB2:=hB.trans (h2.mono hB.size);clear h2 hLO x0 x1 x2 x3 hR hB;have hR:=Row.new w2 85 #[.bool nn,.int .u64 0,.int .u64 (M:Int),.int .i64 0];have hB3:=hB2.alloc hB2.size (.cells #[.bool nn,.int .u64 0,.int .u64 (M:Int),.int .i64 0] 85);obtain⟨x0,x1,x2,x3⟩:=hR.four;go_upto_region 7 with fail
   generalize w2.alloc (.cells #[.bool nn,.int .u64 0,.int .u64 (M:Int),.int .i64 0] 85)=W3 at *;have hS0:Below W3.heap.size W3 W3.drew:=(Below.refl _ W3).drew;have cq:∀wx,Below W3.heap.size W3 wx->wx.cell? ⟨w2.heap.size,0,none⟩=some (.bool nn)/\wx.cell? ⟨w2.heap.size,1,none⟩=some (.int .u64 0)/\wx.cell? ⟨w2.heap.size,2,none⟩=some (.int .u64 (M:Int))/\wx.cell? ⟨w2.heap.size,3,none⟩=some (.int .i64 0):=fun wx hx=>(hR.below hx hR.lt).four;have wc3:IntKind.i64.wrap (M:Int)=(M:Int):=by rw[IntKind.wrap_i64];omega
   clear x0 x1 x2 x3;refine Ib W3 8 8 ?_;refine Oh 0 hS0 ?_;refine Oh 1 hS0 ?_ (v:=.int .u64 (M:Int)) (y:=by intro wx hx;obtain⟨x0,x1,x2,x3⟩:=cq wx hx;go_simp<;>rfl);refine Oh 2 hS0 ?_ (v:=.int .i64 (M:Int)) (y:=by intro wx hx;go_simp<;>first|rfl|exact wc3);refine Oh 3 hS0 ?_ (v:=.agg #[.bool nn,.int .u64 0,.int .u64 (M:Int),.int .i64 0]) (y:=by intro wx hx;obtain⟨x0,x1,x2,x3⟩:=cq wx hx;go_simp<;>rfl);refine Oo 4 ?_;go_wp2_with fail;refine Calls.mono (HS _).out ?_;rintro _ w4 ⟨rfl,b4⟩;have hS4:Below W3.heap.size W3 w4:=hS0.trans (b4.mono hS0.size);clear b4 hS0;go_wp2_with fail;refine⟨fun _=>hS4,?_⟩;refine Oo 5 ?_;go_wp2_with fail;refine⟨fun _=>hS4,?_⟩;refine Oo 6 ?_;go_wp2_with fail;refine⟨fun _=>hS4,?_⟩;refine Oo 7 ?_;go_wp2_with fail;refine⟨fun _=>hS4,?_⟩;refine Od ?_;have hBe:=hB3.trans (hS4.mono hB3.size);go_wp2;go_ret2;exact⟨rfl,hBe⟩
  ·rw[if_neg (fun h=>h2 h.2)];by_cases h3:M<18446744073709551616
   ·rw[show M / 18446744073709551616=0 by omega,show M % 18446744073709551616=M by omega,show ((0:Nat):Int)=0 from rfl] at hLO;have hMb:decide ((9007199254740992:Int)<(M:Int))=true:=decide_eq_true (by omega);clear h1 h2 h3 HM hsg;go_enter Tryz.func113,Tryz.ntmps113;go_wp2_with fail;refine(hT _ _ hK).mono ?_;rintro _ W ⟨h1,G,hG,rfl,hR⟩;obtain⟨_,_,hB⟩:=zN w W _ _ _ _ h1;obtain⟨x0,x1,x2,x3⟩:=hR.four;clear h1 hG hK hT;go_wp2_with fail;refine(hLO _).mono ?_;rintro _ w2 ⟨rfl,h2⟩;have hB2:=hB.trans (h2.mono hB.size);clear h2 hLO x0 x1 x2 x3 hR hB;have hB3:∀o,Below w.heap.size w (w2.alloc o):=fun o=>hB2.alloc hB2.size o;go_wp2;go_ret2;exact⟨rfl,hB3 _⟩
   ·obtain⟨mh,hmh⟩:∃mh,M / 18446744073709551616=mh:=⟨_,rfl⟩;obtain⟨ml,hml⟩:∃ml,M % 18446744073709551616=ml:=⟨_,rfl⟩;rw[hmh,hml] at hLO;have hne:((mh:Int) != 0)=true:=by simp;omega
    clear h1 h2 h3 HM hsg hmh hml;go_enter Tryz.func113,Tryz.ntmps113;go_wp2_with fail;refine(hT _ _ hK).mono ?_;rintro _ W ⟨h1,G,hG,rfl,hR⟩;obtain⟨_,_,hB⟩:=zN w W _ _ _ _ h1;obtain⟨x0,x1,x2,x3⟩:=hR.four;clear h1 hG hK hT;go_wp2_with fail;refine(hLO _).mono ?_;rintro _ w2 ⟨rfl,h2⟩;have hB2:=hB.trans (h2.mono hB.size);clear h2 hLO x0 x1 x2 x3 hR hB;have hB3:∀o,Below w.heap.size w (w2.alloc o):=fun o=>hB2.alloc hB2.size o;go_wp2;go_ret2;exact⟨rfl,hB3 _⟩
 ·rw[if_neg h1] at hLO;rw[if_neg (fun h=>h1 (by unfold zt;omega))];unfold qg wv at hLO;simp only at hLO;clear h1 HM hsg;go_enter Tryz.func113,Tryz.ntmps113;go_wp2_with fail;refine(hT _ _ hK).mono ?_;rintro _ W ⟨h1,G,hG,rfl,hR⟩;obtain⟨_,_,hB⟩:=zN w W _ _ _ _ h1;obtain⟨x0,x1,x2,x3⟩:=hR.four;clear h1 hG hK hT;go_wp2_with fail;refine(hLO _).mono ?_;rintro _ w2 ⟨rfl,h2⟩;have hB2:=hB.trans (h2.mono hB.size);clear h2 hLO x0 x1 x2 x3 hR hB;have hB3:∀o,Below w.heap.size w (w2.alloc o):=fun o=>hB2.alloc hB2.size o;go_wp2;go_ret2;exact⟨rfl,hB3 _⟩
set_option maxHeartbeats 16000000
def numE : Value := .tuple #[dv 0 0, .int .i64 30]
def powA (y : Wd) (n : Int) : Value :=
  if n < -64 ∨ 64 < n then numE else if n < 0 then (if y.n = 0 then divV else yf (yp ((jh jO y).bind fun f => if f.n < 18446744073709551616 then xk f n.natAbs else none))) else yf (yp (xk y n.toNat))
def powV (c e c2 e2 : Int) : Value := if (-18 ≤ e ∧ e ≤ 18) ∧ (-18 ≤ e2 ∧ e2 ≤ 18) then
  (if 0 ≤ (zj c2 e2).e ∧ (zj c2 e2).n * 10 ^ (zj c2 e2).e.toNat ≤ 9007199254740992 then powA (zj c e) (sc (zj c2 e2) * 10 ^ (zj c2 e2).e.toNat) else numE) else Y5
theorem cells_small (y:Wd) (h:y.n<18446744073709551616):y.cells=#[.bool y.neg,.int .u64 0,.int .u64 (y.n:Int),.int .i64 y.e]:=by
 unfold Wd.cells;rw[show y.n / 18446744073709551616=0 by omega,show y.n % 18446744073709551616=y.n by omega];rfl
theorem pow_bad1 (c e c2 e2:Int) (he:¬ zo e) (w:World):Calls Tryz.prog 68 #[dv c e,dv c2 e2] w fun r w'=>r=.returned (.tuple #[dv 0 0,.int .i64 1])/\Below w.heap.size w w':=by
 unfold dv;go_enter Tryz.func68,Tryz.ntmps68;go_wp2_with fail;obtain⟨_,_,_,hK,_⟩:=zP w _ _ _ _ _ 23 23 23 23 (Below.refl _ ((((w.alloc (.cells #[.int .i64 c,.int .i64 e] 23)).alloc (.cells #[.int .i64 c2,.int .i64 e2] 23)).alloc (.cells #[.int .i64 0,.int .i64 0] 23)).alloc (.cells #[.int .i64 c,.int .i64 e,.int .i64 c2,.int .i64 e2] 23)));refine(jf c e c2 e2 _ _ he hK).mono ?_;rintro _ w1 ⟨h1,rfl⟩;obtain⟨_,_,hZ,_,hB⟩:=zP w w1 _ _ _ _ _ _ _ _ h1;obtain⟨d0,d1⟩:=hZ.duo;have z:=hZ.frozen;clear h1;go_wp2;refine bodyPost_ret (zd rfl (g:=w.heap.size+2) rfl rfl (zm (Row.set2 hZ _ _) rfl)) rfl ⟨rfl,?_⟩;repeat (refine za ?_ _ _ (by omega))
 exact hB
theorem pow_bad2 (c e c2 e2:Int) (hc:I64 c) (he:zo e) (he2:¬ zo e2) (w:World):Calls Tryz.prog 68 #[dv c e,dv c2 e2] w fun r w'=>r=.returned (.tuple #[dv 0 0,.int .i64 1])/\Below w.heap.size w w':=by
 unfold dv;go_enter Tryz.func68,Tryz.ntmps68;go_wp2_with fail;obtain⟨_,_,_,hK,_⟩:=zP w _ _ _ _ _ 23 23 23 23 (Below.refl _ ((((w.alloc (.cells #[.int .i64 c,.int .i64 e] 23)).alloc (.cells #[.int .i64 c2,.int .i64 e2] 23)).alloc (.cells #[.int .i64 0,.int .i64 0] 23)).alloc (.cells #[.int .i64 c,.int .i64 e,.int .i64 c2,.int .i64 e2] 23)));refine(je c e c2 e2 _ _ hc he he2 hK).mono ?_;rintro _ w1 ⟨h1,rfl⟩;obtain⟨_,_,hZ,_,hB⟩:=zP w w1 _ _ _ _ _ _ _ _ h1;obtain⟨d0,d1⟩:=hZ.duo;have z:=hZ.frozen;clear h1;go_wp2;refine bodyPost_ret (zd rfl (g:=w.heap.size+2) rfl rfl (zm (Row.set2 hZ _ _) rfl)) rfl ⟨rfl,?_⟩;repeat (refine za ?_ _ _ (by omega))
 exact hB
theorem ju (c e c2 e2:Int) (hc:I64 c) (he:zo e) (hc2:I64 c2) (he2:zo e2) (y:Wd) (hy:zj c e=y) (hm:y.n<18446744073709551616) (hye : -1000<=y.e/\y.e<=1000) (n:Int) (b:Bool) (p q v:Int) (HI:∀ V,Hid (Calls Tryz.prog 113 #[.agg #[.int .i64 c2,.int .i64 e2]] V fun r w'=>r=.returned (.tuple #[.int .i64 n,.bool b])/\Below V.heap.size V w')) (hw:Hid ((b=false/\n=0/\p=0/\q=0/\v=30)\/(b=true/\n < -64/\p=0/\q=0/\v=30)\/(b=true/\64<n/\p=0/\q=0/\v=30)\/(b=true /\ -64<=n/\n<0/\y.n=0/\p=0/\q=0/\v=31)\/(b=true/\∃o,0<=n/\n<=64/\(∀ V,Hid (Calls Tryz.prog 116 #[.agg #[.bool y.neg,.int .u64 0,.int .u64 (y.n:Int),.int .i64 y.e],.int .i64 n] V fun r w'=>jG o r/\Below V.heap.size V w'))/\yf (yp o)=.tuple #[.agg #[.int .i64 p,.int .i64 q],.int .i64 v])\/(b=true/\∃o qo,n<0 /\ -64<=n/\y.n≠0/\(∀ V,Hid (Calls Tryz.prog 112 #[.agg #[.bool false,.int .u64 0,.int .u64 1,.int .i64 0],.agg #[.bool y.neg,.int .u64 0,.int .u64 (y.n:Int),.int .i64 y.e]] V fun r w'=>jG qo r/\Below V.heap.size V w'))/\((qo=none->o=none)/\∀x,qo=some x->∀ V,Hid (Calls Tryz.prog 116 #[x.val,.int .i64 (-n)] V fun r w'=>jG o r/\Below V.heap.size V w'))/\yf (yp o)=.tuple #[.agg #[.int .i64 p,.int .i64 q],.int .i64 v]))) (w:World):Calls Tryz.prog 68 #[dv c e,dv c2 e2] w fun r w'=>r=.returned (.tuple #[dv p q,.int .i64 v])/\Below w.heap.size w w':=by
 have hT:=fun K w (hK:Row w K 23 #[.int .i64 c,.int .i64 e,.int .i64 c2,.int .i64 e2])=>Yr c e c2 e2 K w hc he hc2 he2 hK;obtain⟨yn,m,ye⟩:=y;rw[hy,cells_small _ hm] at hT;simp only at hT hm hye;obtain⟨z0,z1,z2,z3,hz⟩:∃y0 y1 y2 y3,(zj c2 e2).cells=#[y0,y1,y2,y3]:=⟨_,_,_,_,rfl⟩;simp only[hz] at hT;clear hc he hc2 he2 hy;unfold dv;go_enter Tryz.func68,Tryz.ntmps68;go_wp2_with fail;obtain⟨_,_,_,hK,_⟩:=zP w _ _ _ _ _ 23 23 23 23 (Below.refl _ ((((w.alloc (.cells #[.int .i64 c,.int .i64 e] 23)).alloc (.cells #[.int .i64 c2,.int .i64 e2] 23)).alloc (.cells #[.int .i64 0,.int .i64 0] 23)).alloc (.cells #[.int .i64 c,.int .i64 e,.int .i64 c2,.int .i64 e2] 23)));refine(hT _ _ hK).mono ?_;rintro _ W ⟨h1,G,hG,rfl,hR⟩;obtain⟨_,hC2,hZ,_,hB⟩:=zP w W _ _ _ _ _ _ _ _ h1;have hGn:w.heap.size+2≠G:=by simp at hG;omega
 have hR:Row W G 85 #[.bool yn,.int .u64 0,.int .u64 (m:Int),.int .i64 ye,z0,z1,z2,z3]:=hR;clear h1 hG hK hT;obtain⟨g0,g1,g2,g3,g4,g5,g6,g7⟩:=hR.eight;obtain⟨v0,v1⟩:=(hC2.alloc (.cells #[.bool yn,.int .u64 0,.int .u64 (m:Int),.int .i64 ye] 85)).duo;have lC:=hC2.lt;have rF:=Row.new W 85 #[.bool yn,.int .u64 0,.int .u64 (m:Int),.int .i64 ye];have rZ:=hZ.alloc (.cells #[.bool yn,.int .u64 0,.int .u64 (m:Int),.int .i64 ye] 85);have rB:=hB.alloc hB.size (.cells #[.bool yn,.int .u64 0,.int .u64 (m:Int),.int .i64 ye] 85);have hFl:w.heap.size+2<W.heap.size:=hZ.lt;go_wp2_with fail;refine Calls.mono (HI _).out ?_;rintro _ w2 ⟨rfl,b2⟩;have hF:=rF.below b2 rF.lt;have hZ2:=rZ.below b2 rZ.lt;have hB2:=rB.trans (b2.mono rB.size);generalize W.heap.size=F at *;clear lC g0 g1 g2 g3 g4 g5 g6 g7 v0 v1 rF rZ rB hR hZ hC2 hB b2 HI hz;rcases hw.out with ⟨rfl,rfl,rfl,rfl,rfl⟩|⟨rfl,hn,rfl,rfl,rfl⟩|⟨rfl,hn,rfl,rfl,rfl⟩|⟨rfl,hn,hn0,hm0,rfl,rfl,rfl⟩|⟨rfl,o,hn0,hn,HP,hdv⟩|⟨rfl,o,qo,hn0,hn,hm0,HQ,HO,hdv⟩;all_goals clear hw
 ·obtain⟨d0,d1⟩:=hZ2.duo;have z:=hZ2.frozen;go_wp2;refine bodyPost_ret (zd rfl (g:=w.heap.size+2) rfl rfl (zm (Row.set2 hZ2 _ _) rfl)) rfl ⟨rfl,?_⟩;repeat (refine za ?_ _ _ (by omega))
  exact hB2
 ·obtain⟨d0,d1⟩:=hZ2.duo;have z:=hZ2.frozen;go_wp2;refine bodyPost_ret (zd rfl (g:=w.heap.size+2) rfl rfl (zm (Row.set2 hZ2 _ _) rfl)) rfl ⟨rfl,?_⟩;repeat (refine za ?_ _ _ (by omega))
  exact hB2
 ·have hn2:¬ n < -64:=by omega
  obtain⟨d0,d1⟩:=hZ2.duo;have z:=hZ2.frozen;go_wp2;refine bodyPost_ret (zd rfl (g:=w.heap.size+2) rfl rfl (zm (Row.set2 hZ2 _ _) rfl)) rfl ⟨rfl,?_⟩;repeat (refine za ?_ _ _ (by omega))
  exact hB2
 ·replace hm0:Hid (m=0):=hm0;have HZC:∀ V,Hid (Calls Tryz.prog 114 #[.agg #[.bool yn,.int .u64 0,.int .u64 (m:Int),.int .i64 ye]] V fun r w'=>r=.returned (.bool true)/\Below V.heap.size V w'):=fun V=>by have:=Za yn 0 m ye V;rw[show decide ((0:Nat)=0/\m=0)=true by have:=hm0.out;simp;omega] at this;exact this
  obtain⟨f0,f1,f2,f3⟩:=hF.four;have hn1:¬ n < -64:=by omega
  have hn2:¬ 64<n:=by omega
  go_wp2_with fail;refine Calls.mono (HZC _).out ?_;rintro _ w3 ⟨rfl,b3⟩;have hZ2:=hZ2.below b3 hZ2.lt;have hB2:=hB2.trans (b3.mono hB2.size);clear b3 f0 f1 f2 f3 HZC;obtain⟨d0,d1⟩:=hZ2.duo;have z:=hZ2.frozen;go_wp2;refine bodyPost_ret (zd rfl (g:=w.heap.size+2) rfl rfl (zm (Row.set2 hZ2 _ _) rfl)) rfl ⟨rfl,?_⟩;repeat (refine za ?_ _ _ (by omega))
  exact hB2
 ·have HDV:Hid (yf (yp o)=.tuple #[.agg #[.int .i64 p,.int .i64 q],.int .i64 v]):=hdv;clear hdv;try simp only at HP
  obtain⟨f0,f1,f2,f3⟩:=hF.four;have hn1:¬ n < -64:=by omega
  have hn2:¬ 64<n:=by omega
  have hn3:¬ n<0:=by omega
  go_wp2_with fail;refine Calls.mono (HP _).out ?_;rintro _ w4 ⟨⟨x,t,rfl,x1,x2,x3,x4⟩,b4⟩;have hZ4:=hZ2.below b4 hZ2.lt;have hB4:=hB2.trans (b4.mono hB2.size);have hTD:=jY x t x1 x3 x2;rw[show (if t=true then zy x.neg x.n x.e else none)=yp o by rw[x4];cases t<;>rfl] at hTD;rw[HDV.out] at hTD;obtain⟨d0,d1,d2,d3,hxv⟩:=qM x;rw[hxv] at hTD ⊢;clear b4 HP x1 x2 x3 x4 hxv hZ2 hB2;go_wp2_with fail;refine(hTD _).mono ?_;rintro _ w5 ⟨rfl,b5⟩;have hZ5:=hZ4.below b5 hZ4.lt;have hB5:=hB4.trans (b5.mono hB4.size);clear b5 hTD hZ4 hB4;obtain⟨e0,e1⟩:=hZ5.duo;have z:=hZ5.frozen;go_wp2;refine bodyPost_ret (zd rfl (g:=w.heap.size+2) rfl rfl (zm (Row.set2 hZ5 _ _) rfl)) rfl ⟨rfl,?_⟩;repeat (refine za ?_ _ _ (by omega))
  exact hB5
 ·have HDV:Hid (yf (yp o)=.tuple #[.agg #[.int .i64 p,.int .i64 q],.int .i64 v]):=hdv;clear hdv;replace HO:Hid _:=HO;replace hm0:Hid (m≠0):=hm0;try simp only at HQ
  have HZC:∀ V,Hid (Calls Tryz.prog 114 #[.agg #[.bool yn,.int .u64 0,.int .u64 (m:Int),.int .i64 ye]] V fun r w'=>r=.returned (.bool false)/\Below V.heap.size V w'):=fun V=>by have:=Za yn 0 m ye V;rw[show decide ((0:Nat)=0/\m=0)=false by have:=hm0.out;simp;omega] at this;exact this
  obtain⟨f0,f1,f2,f3⟩:=hF.four;have hn1:¬ n < -64:=by omega
  have hn2:¬ 64<n:=by omega
  have hn4:wrap64 (-n) = -n:=by unfold wrap64;omega
  go_wp2_with fail;refine Calls.mono (HZC _).out ?_;rintro _ w3 ⟨rfl,b3⟩;have hF:=hF.below b3 hF.lt;have hZ2:=hZ2.below b3 hZ2.lt;have hB2:=hB2.trans (b3.mono hB2.size);clear b3 f0 f1 f2 f3 HZC;have HN:∀ V,Hid (Calls Tryz.prog 115 #[.int .i64 1,.int .i64 0] V fun r w'=>r=.returned (.agg #[.bool false,.int .u64 0,.int .u64 1,.int .i64 0])/\Below V.heap.size V w'):=fun V=>jP 1 0 (by decide) (by decide) V;go_wp2_with fail;have hS:Below w3.heap.size w3 w3.drew:=(Below.refl _ w3).drew;refine Ib w3 4 8 ?_;refine Oh 1 hS ?_ (v:=.agg #[.bool yn,.int .u64 0,.int .u64 (m:Int),.int .i64 ye]) (y:=by intro wx hx;obtain⟨q0,q1,q2,q3⟩:=(hF.below hx hF.lt).four;go_simp<;>rfl);refine Oo 0 ?_;go_wp2_with fail;refine Calls.mono (HN _).out ?_;rintro _ w4 ⟨rfl,b4⟩;have hS1:=hS.trans (b4.mono hS.size);clear b4;go_wp2_with fail;refine⟨fun _=>hS1,?_⟩;refine Oo 2 ?_;go_wp2_with fail;refine Calls.mono (HQ _).out ?_;rintro _ w5 ⟨⟨x,t,rfl,x1,x2,x3,x4⟩,b5⟩;have hS2:=hS1.trans (b5.mono hS1.size);clear b5 HQ HN;obtain⟨a0,a1,a2,a3,hxv⟩:=qM x;rw[hxv];go_wp2_with fail;refine⟨fun _=>hS2,?_⟩;refine Oh 3 hS2 ?_;refine qt 4 (v := ?_) rfl (by kernel_rfl) (by kernel_rfl) rfl (fun _ _ _ h=>h) rfl (by intro wx;go_simp<;>rfl) ?_;refine qt 5 (v := ?_) rfl (by kernel_rfl) (by kernel_rfl) rfl (fun _ _ _ h=>h) rfl (by intro wx;go_simp<;>rfl) ?_;have hF5:=hF.below hS2 hF.lt;have hZ5:=hZ2.below hS2 hZ2.lt;have hB5:=hB2.trans (hS2.mono hB2.size);obtain⟨q0,q1,q2,q3⟩:=hF5.four;have zF:=hF5.frozen;have lF:=hF5.lt;refine Oo 6 ?_;go_wp2_with fail;refine⟨(fun h=>absurd h (by decide)),?_⟩;refine Oo 7 ?_;go_wp2_with fail;refine⟨(fun h=>absurd h (by decide)),?_⟩;refine Od ?_;have hF6:=Row.set4 hF5 (.bool a0) (.int .u64 a1) (.int .u64 a2) (.int .i64 a3);have hZ6:=(((hZ5.off (B':=F) 0 (.bool a0) (by omega)).off (B':=F) 1 (.int .u64 a1) (by omega)).off (B':=F) 2 (.int .u64 a2) (by omega)).off (B':=F) 3 (.int .i64 a3) (by omega);have hB6:=za (za (za (za hB5 (B:=F) 0 (.bool a0) (by omega)) (B:=F) 1 (.int .u64 a1) (by omega)) (B:=F) 2 (.int .u64 a2) (by omega)) (B:=F) 3 (.int .i64 a3) (by omega);clear hF5 hZ5 hB5 hS hS1 hS2 hF hZ2 hB2 q0 q1 q2 q3 zF lF;generalize ((((w5.setCell ⟨F,0,none⟩ (.bool a0)).setCell ⟨F,1,none⟩ (.int .u64 a1)).setCell ⟨F,2,none⟩ (.int .u64 a2)).setCell ⟨F,3,none⟩ (.int .i64 a3))=w6 at *;have hZ2:=hZ6;have hB2:=hB6;cases t with
  | false =>
   have ho:o=none:=HO.out.1 (by rw[x4];rfl);have hd2:(.tuple #[.agg #[.int .i64 p,.int .i64 q],.int .i64 v]:Value)=.tuple #[dv 0 0,.int .i64 30]:=by rw[<-HDV.out,ho];rfl
   have HD2:Hid (_=_):=hd2;clear HDV ho hd2;obtain⟨d0,d1⟩:=hZ2.duo;have z:=hZ2.frozen;go_wp2;rw[HD2.out];refine bodyPost_ret (zd rfl (g:=w.heap.size+2) rfl rfl (zm (Row.set2 hZ2 _ _) rfl)) rfl ⟨rfl,?_⟩;repeat (refine za ?_ _ _ (by omega))
   exact hB2
  | true =>
   have HP:=HO.out.2 x (by rw[x4];rfl);rw[hxv] at HP;have HP:∀ V,Hid (Calls Tryz.prog 116 #[.agg #[.bool a0,.int .u64 a1,.int .u64 a2,.int .i64 a3],.int .i64 (-n)] V fun r w'=>jG o r/\Below V.heap.size V w'):=HP;clear HO x1 x2 x3 x4 hxv;obtain⟨f0,f1,f2,f3⟩:=hF6.four;go_wp2_with fail;refine Calls.mono (HP _).out ?_;rintro _ w4 ⟨⟨x,t,rfl,x1,x2,x3,x4⟩,b4⟩;have hZ4:=hZ2.below b4 hZ2.lt;have hB4:=hB2.trans (b4.mono hB2.size);have hTD:=jY x t x1 x3 x2;rw[show (if t=true then zy x.neg x.n x.e else none)=yp o by rw[x4];cases t<;>rfl] at hTD;rw[HDV.out] at hTD;obtain⟨d0,d1,d2,d3,hxv⟩:=qM x;rw[hxv] at hTD ⊢;clear b4 HP x1 x2 x3 x4 hxv hZ2 hB2;go_wp2_with fail;refine(hTD _).mono ?_;rintro _ w5 ⟨rfl,b5⟩;have hZ5:=hZ4.below b5 hZ4.lt;have hB5:=hB4.trans (b5.mono hB4.size);clear b5 hTD hZ4 hB4;obtain⟨e0,e1⟩:=hZ5.duo;have z:=hZ5.frozen;go_wp2;refine bodyPost_ret (zd rfl (g:=w.heap.size+2) rfl rfl (zm (Row.set2 hZ5 _ _) rfl)) rfl ⟨rfl,?_⟩;repeat (refine za ?_ _ _ (by omega))
   exact hB5
theorem X7 : ∀ (k by' n : Nat) (e : Int) (p : Nat × Int), by' < 2 ^ k → yv by' n e = some p → p.2 ≤ e ∧ e - (k : Int) ≤ p.2
  | 0, by', n, e, p, hb, h => by
    rw [yv.eq_def, if_pos (by omega)] at h
    cases h
    simp only; omega
  | k + 1, by', n, e, p, hb, h => by
    have hp : 2 ^ (k + 1) = 2 * 2 ^ k := by rw [Nat.pow_succ, Nat.mul_comm]
    rw [yv.eq_def] at h
    split at h
    · cases h
      simp only; omega
    · split at h
      · have := X7 k _ _ _ _ (by omega) h
        omega
      · split at h
        · split at h
          · have := X7 k _ _ _ _ (by omega) h
            omega
          · cases h
        · split at h
          · split at h
            · have := X7 k _ _ _ _ (by omega) h
              omega
            · cases h
          · cases h
theorem ZL (y:Wd) (h:y.n<18446744073709551616):y.val=.agg #[.bool y.neg,.int .u64 0,.int .u64 (y.n:Int),.int .i64 y.e]:=by
 rw[Wd.val_eq,cells_small y h]
theorem pow_any (c e c2 e2:Int) (hc:I64 c) (hc2:I64 c2) (w:World):Calls Tryz.prog 68 #[dv c e,dv c2 e2] w fun r w'=>r=.returned (powV c e c2 e2)/\Below w.heap.size w w':=by
 unfold powV;by_cases he:zo e
 ·by_cases he2:zo e2
  ·rw[if_pos ⟨he,he2⟩];have hS:=xa c e he.1 he.2 hc.1 hc.2;obtain⟨a1,a2,a3,a4⟩:=yC hc he;have hlo:=hS.lo;have hhi:=hS.hi;by_cases hI:0<=(zj c2 e2).e/\(zj c2 e2).n*10 ^ (zj c2 e2).e.toNat<=9007199254740992
   ·rw[if_pos hI];have HI:∀ V,Hid (Calls Tryz.prog 113 #[.agg #[.int .i64 c2,.int .i64 e2]] V fun r w'=>r=.returned (.tuple #[.int .i64 (sc (zj c2 e2)*10 ^ (zj c2 e2).e.toNat),.bool true])/\Below V.heap.size V w'):=fun V=>by have:=int_ok c2 e2 hc2 he2 hI.1 V;unfold YG at this;rw[if_pos hI] at this;exact this
    generalize sc (zj c2 e2)*10 ^ (zj c2 e2).e.toNat=n at *;unfold powA;by_cases h1:n < -64
    ·rw[if_pos (.inl h1)];exact ju c e c2 e2 hc he hc2 he2 _ rfl a1 a3 n true _ _ _ HI (.inr (.inl ⟨rfl,h1,rfl,rfl,rfl⟩)) w
    ·by_cases h2:64<n
     ·rw[if_pos (.inr h2)];exact ju c e c2 e2 hc he hc2 he2 _ rfl a1 a3 n true _ _ _ HI (.inr (.inr (.inl ⟨rfl,h2,rfl,rfl,rfl⟩))) w
     ·rw[if_neg (by omega)];by_cases h3:n<0
      ·rw[if_pos h3];by_cases h4:(zj c e).n=0
       ·rw[if_pos h4];exact ju c e c2 e2 hc he hc2 he2 _ rfl a1 a3 n true _ _ _ HI (.inr (.inr (.inr (.inl ⟨rfl,by omega,h3,h4,rfl,rfl,rfl⟩)))) w
       ·rw[if_neg h4];obtain⟨p,q,v,hdv⟩:=yK (yp ((jh jO (zj c e)).bind fun f=>if f.n<18446744073709551616 then xk f n.natAbs else none));rw[hdv];refine ju c e c2 e2 hc he hc2 he2 _ rfl a1 a3 n true p q v HI (.inr (.inr (.inr (.inr (.inr ⟨rfl,_,jh jO (zj c e),h3,by omega,h4,fun V => ?_,⟨fun h=>by rw[h];rfl,fun x hx V => ?_⟩,hdv⟩))))) w
        ·have:=quotient_any jO (zj c e) (by decide) a1 h4 (by decide) a3 V;rw[ZL _ a1,ZL jO (by decide)] at this;exact this
        ·rw[hx];have hxe : -1000<=x.e/\x.e<=1000:=by unfold jh at hx;obtain⟨p,hp,rfl⟩:=Option.map_eq_some_iff.1 hx;have hq:=X7 64 _ _ _ _ (Nat.lt_of_le_of_lt (Nat.div_le_self _ _) a1) hp;have h0:jO.e=0:=rfl;simp only;omega
         show Calls _ _ _ _ _;rw[show ((some x).bind fun f=>if f.n<18446744073709551616 then xk f n.natAbs else none)=if x.n<18446744073709551616 then xk x n.natAbs else none from rfl];by_cases h5:x.n<18446744073709551616
         ·rw[if_pos h5,ZL x h5,show -n=((n.natAbs:Nat):Int) by omega];exact power_ok x.neg x.n x.e h5 hxe n.natAbs (by omega) V
         ·rw[if_neg h5];exact power_big x.neg (x.n / 18446744073709551616) (x.n % 18446744073709551616) x.e (by omega) (-n) (by omega) V
      ·rw[if_neg h3];obtain⟨p,q,v,hdv⟩:=yK (yp (xk (zj c e) n.toNat));rw[hdv];refine ju c e c2 e2 hc he hc2 he2 _ rfl a1 a3 n true p q v HI (.inr (.inr (.inr (.inr (.inl ⟨rfl,_,by omega,by omega,fun V => ?_,hdv⟩))))) w;have:=power_ok (zj c e).neg (zj c e).n (zj c e).e a1 a3 n.toNat (by omega) V;rw[show ((n.toNat:Nat):Int)=n by omega] at this;exact this
   ·rw[if_neg hI];refine ju c e c2 e2 hc he hc2 he2 _ rfl a1 a3 0 false _ _ _ (fun V => ?_) (.inl ⟨rfl,rfl,rfl,rfl,rfl⟩) w;by_cases h0:0<=(zj c2 e2).e
    ·have:=int_ok c2 e2 hc2 he2 h0 V;unfold YG at this;rw[if_neg hI] at this;exact this
    ·exact int_neg c2 e2 hc2 he2 (by omega) V
  ·rw[if_neg (fun h=>he2 h.2)];exact pow_bad2 c e c2 e2 hc he he2 w
 ·rw[if_neg (fun h=>he h.1)];exact pow_bad1 c e c2 e2 he w
end Go.Proofs.YtnhflnpjepiceaaGreatDoor
