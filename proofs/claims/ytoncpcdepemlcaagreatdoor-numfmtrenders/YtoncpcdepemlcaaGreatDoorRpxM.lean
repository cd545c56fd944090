import Derived.Test.YtoncpcdepemlcaaGreatDoorPqzM
import Derived.Test.YtoncpcdepemlcaaGreatDoorWdgM
import Derived.Deep.CutBlock
import Derived.Deep.DeepCutAuto
import Derived.Test.YtoncpcdepemlcaaGreatDoorRrgM
import Derived.Test.YtoncpcdepemlcaaGreatDoorWbsM
import Derived.Test.YtoncpcdepemlcaaGreatDoorRtmM
import Derived.Test.YtoncpcdepemlcaaGreatDoorRcmM
import Derived.Test.YtoncpcdepemlcaaGreatDoorWprM
import Derived.Test.YtoncpcdepemlcaaGreatDoorRro
import Derived.Test.YtoncpcdepemlcaaGreatDoorRrbM
import Derived.Laws.StructEq
import Derived.Test.YtoncpcdepemlcaaGreatDoorVnmM
namespace Go.Proofs.YtoncpcdepemlcaaGreatDoor
set_option maxRecDepth 100000
set_option maxHeartbeats 4000000
open Go.RowKit
theorem Row.triQ {W:World} {B:Nat} {t:TypeId} {a b c:Value} (h:Row W B t #[a,b,c]):W.cell? ⟨B,0,none⟩=some a∧W.cell? ⟨B,1,none⟩=some b∧W.cell? ⟨B,2,none⟩=some c:=⟨h.cell rfl,h.cell rfl,h.cell rfl⟩
theorem new_byte (V:World) (d:Int):∀(j:Nat) (u:Value),([.int .u8 d]:List Value)[j]? = some u->(V.alloc (.cells #[.int .u8 d] 5)).cell? ((⟨V.heap.size,0,none⟩:Addr).add j)=some u:=by
 intro j u hu;have hR:=Row.new V 5 #[.int .u8 d];have h:=hR.cell (i:=j) (v:=u) (by simpa using hu);rw[Go.WideShapes.add_plain];simpa using h
theorem sc_sign (c e:Int):decide (sc (decW c e)<0)=(decW c e).neg:=by
 unfold sc decW shortW numW;by_cases hc:c=0
 ·subst hc;rfl
 ·simp only[show c.natAbs≠0 by omega,if_false];have hs:=strip_spec c.natAbs e (by omega);obtain⟨k,_,_,_,_,h5⟩:=hs;by_cases hn:c<0
  ·simp only[hn,decide_true,if_true];exact decide_eq_true (by omega)
  ·simp only[hn,decide_false];exact decide_eq_false (by simp)
theorem shl_abs (y:Wd) (k:Nat):(sc y*10 ^ k).natAbs=y.n*10 ^ k:=by
 rw[Int.natAbs_mul,Int.natAbs_pow,sc_abs];rfl
theorem sign_shift (x:Int):decide (x*10 ^ 1<0)=decide (x<0):=by
 rw[Int.pow_succ,Int.pow_zero,Int.one_mul];by_cases hs:x<0
 ·rw[decide_eq_true hs,decide_eq_true (by omega)]
 ·rw[decide_eq_false hs,decide_eq_false (by omega)]
theorem decW_zero (c e:Int):(decW c e).n=0->(decW c e).e=0:=by
 unfold decW shortW;split
 ·intro _;rfl
 ·rename_i h;intro h2;obtain⟨k,_,_,_,_,h5⟩:=strip_spec (numW c e).n (numW c e).e h;exact absurd h2 h5
theorem print_digit (y:Wd) (q:Int) (M T i j:Nat) (hq:y.e=q) (hM:y.n*10 ^ q.toNat=M) (hT:(dlist y.n y.e).length=T) (hi:T-1-j=i) (hj:j<(dlist y.n y.e).length):48+(digs M)[i]?.getD 0=((dlist y.n y.e)[j].toNat:Int):=by
 subst hq hM hT;have h5:=digs_sign _ (dlist_dig y.n y.e) i (by omega);rw[dlist_num] at h5;have h6:(dlist y.n y.e).length-1-i=j:=by omega
 simp only[h6] at h5;omega
theorem owns_below {base:Nat} {W W':World} {v:Value} {n:Nat} {xs:List Value} (h:W.ownsRow base 5 1 v n xs) (hb:Below W.heap.size W W'):W'.ownsRow base 5 1 v n xs:=owns_kept h (Kept.of_below hb (fun _ h=>h)) (fun k hk=>(h.lt k hk).2)
theorem Pl_len : ∀ (l : List UInt8) (t : Int), (Pl t l).length = l.length
  | [], _ => rfl
  | _ :: r, t => by simp [Pl, Pl_len r]
theorem rprint_ok (c e:Int) (hc:I64 c) (he:within e) (w:World) (SS:ByteArray) (HSS:Hid (printS c e=SS)):Calls Tryz.prog 96 #[.agg #[.int .i64 c,.int .i64 e]] w fun r w'=>r=.returned (.string SS)/\Below w.heap.size w w':=by
 obtain⟨i0,hi,hzz⟩:=Option.map_eq_some_iff.1 Tryz.info5;simp only[Prod.mk.injEq] at hzz;obtain⟨hz0,hz1,hz2⟩:=hzz;have hte:=tell_decW c e hc he;have hS:=sh_dec c e he.1 he.2 hc.1 hc.2;have hsg:=sc_sign c e;have hzr:=decW_zero c e;have HMK:∀ V,Hid (Calls Tryz.prog 15 #[.int .i64 c,.int .i64 e] V _):=fun V=>rmake_any c e hc V;have HNU:∀ V,Hid (Calls Tryz.prog 59 #[.agg #[.int .i64 c,.int .i64 e]] V _):=fun V=>num_any c e hc V;rw[hte] at HMK;rw[decide_eq_true (show (-18<=e/\e<=18) from he)] at HNU;have HPS:Hid (strOfNums (signL (decW c e).neg++outB (digsW (decW c e)))=SS):=HSS;obtain⟨h1,h2,h3,h4,_,_,_⟩:=tell_some hte;generalize decW c e=y at *;obtain⟨p,hp⟩:∃p,sc y=p:=⟨_,rfl⟩;obtain⟨q,hq⟩:∃q,y.e=q:=⟨_,rfl⟩;rw[hp,hq] at HMK;rw[hp] at hsg h3 h4;rw[hq] at h1 h2;have hpI:I64 p:=⟨h3,h4⟩;have HNP:∀ V,Hid (Calls Tryz.prog 59 #[.agg #[.int .i64 p,.int .i64 q]] V _):=fun V=>num_any p q hpI V;rw[decide_eq_true (show (-18<=q/\q<=18) from ⟨h1,h2⟩)] at HNP;obtain⟨ng,HNG⟩:∃ng,Hid (decide (p<0)=ng):=⟨_,rfl⟩;rw[HNG.out] at HNP;have HMKV:∀ V,Hid (Calls Tryz.prog 15 #[.int .i64 c,.int .i64 e] V fun r w'=>r=.returned (.tuple #[.agg #[.int .i64 p,.int .i64 q],.int .i64 0])/\Below V.heap.size V w'):=HMK;have HSC:Hid (sc y=p/\y.e=q):=⟨hp,hq⟩;have HNE:Hid (y.neg=ng):=by show _=_;rw[<-hsg];exact HNG.out
 have HZR:Hid (y.n=0->y.e=0):=hzr;have HBG:Hid (y.n<=9223372036854775808):=hS.big;have HPI:Hid (I64 p):=hpI;have r1:=Row.new w 38 #[.int .i64 c,.int .i64 e];have b0:=(Below.refl _ w).alloc (Nat.le_refl _) (.cells #[.int .i64 c,.int .i64 e] 38);obtain⟨z0,z1⟩:=r1.duo;clear hc he hte hS hsg hzr HMK hp hq h3 h4 hpI HSS;go_enter Tryz.func96,Tryz.ntmps96;go_wp2_with fail;refine Calls.mono (HMKV _).out ?_;rintro _ w1 ⟨rfl,b1⟩;have q1:=(r1.below b1 r1.lt).alloc (.cells #[.int .i64 p,.int .i64 q] 38);have s1:=Row.new w1 38 #[.int .i64 p,.int .i64 q];have hB1:=(b0.trans (b1.mono b0.size));have hB2:=hB1.alloc hB1.size (.cells #[.int .i64 p,.int .i64 q] 38);clear r1 b0 b1 z0 z1 HMKV hB1;obtain⟨z0,z1⟩:=q1.duo;go_wp2_with fail;generalize w1.alloc (.cells #[.int .i64 p,.int .i64 q] 38)=W2 at *;refine Calls.mono (HNU _).out ?_;rintro _ w2 ⟨sv,rfl,hD,hN,b2⟩;obtain⟨_,a3,c3,rfl,_,_⟩:=id hD;have hB3:=hB2.trans (b2.mono hB2.size);have s2:=s1.below b2 s1.lt;clear q1 z0 z1 HNU hN b2 hB2 s1 hD;generalize w1.heap.size=K1 at *;obtain⟨g1,hg1⟩:∃g1,decide (c<0)=g1:=⟨_,rfl⟩;obtain⟨n1,hn1⟩:∃n1,(digs c.natAbs).length=n1:=⟨_,rfl⟩;rw[hg1,hn1];clear hg1 hn1;have s3:=s2.alloc (.cells #[.bool g1,.slice a3 n1 c3,.int .i64 e] 75);have hB4:=hB3.alloc hB3.size (.cells #[.bool g1,.slice a3 n1 c3,.int .i64 e] 75);clear s2 hB3;obtain⟨z0,z1⟩:=s3.duo;go_wp2_with fail;generalize w2.alloc (.cells #[.bool g1,.slice a3 n1 c3,.int .i64 e] 75)=W3 at *;refine Calls.mono (HNP _).out ?_;rintro _ w3 ⟨sv,rfl,hD,hN,b3⟩;obtain⟨_,a4,c4,rfl,_,_⟩:=id hD;have hB5:=hB4.trans (b3.mono hB4.size);clear s3 z0 z1 HNP hN b3 hB4;obtain⟨n4,HN4⟩:∃n4,Hid ((digs p.natAbs).length=n4):=⟨_,rfl⟩;rw[HN4.out] at hD;rw[HN4.out];have rx:=Row.new w3 75 #[.bool ng,.slice a4 n4 c4,.int .i64 q];have hD5:=hD.below ((Below.refl _ w3).alloc (Nat.le_refl _) (.cells #[.bool ng,.slice a4 n4 c4,.int .i64 q] 75));have hB6:=hB5.alloc hB5.size (.cells #[.bool ng,.slice a4 n4 c4,.int .i64 q] 75);have hK3:w.heap.size<=w3.heap.size:=hB5.size;clear hD hB5;go_upto_block 0 with fail
 generalize w3.alloc (.cells #[.bool ng,.slice a4 n4 c4,.int .i64 q] 75)=W4 at *;generalize w3.heap.size=X at *;obtain⟨tz,HTZ⟩:∃tz,Hid ((if q<0 then q else 0)=tz):=⟨_,rfl⟩;obtain⟨M,HM⟩:∃ M,Hid (y.n*10 ^ q.toNat=M):=⟨_,rfl⟩;have htz : -18<=tz/\tz<=0:=by rw[<-HTZ.out];split<;>omega
 go_cut [] (fun wx=>∃(a:Option Addr) (n cc:Nat),Row wx X 75 #[.bool ng,.slice a n cc,.int .i64 tz]/\Hid (DgAt wx (.slice a n cc) (digs M))/\Hid ((digs M).length=n)/\n<=60/\Below w.heap.size w wx)
 case first =>
  as_aux_lemma =>
   go_wp2_with fail;go_loopw [] (fun wr=>∃(k:Nat) (a:Option Addr) (n cc:Nat),Row wr X 75 #[.bool ng,.slice a n cc,.int .i64 (q-(k:Int))]/\DgAt wr (.slice a n cc) (digs (p*10 ^ k).natAbs)/\Hid ((digs (p*10 ^ k).natAbs).length=n)/\Hid (decide (p*10 ^ k<0)=ng)/\(k=0\/0<=q-(k:Int))/\k<=18/\Below w.heap.size w wr) (fun wr=>(intOf ((wr.cell? ⟨X,2,none⟩).getD undef)+100).toNat)
   case atStart=>exact⟨0,a4,n4,c4,by simpa using rx,by rw[Int.pow_zero,Int.mul_one];exact hD5,by show _=_;rw[Int.pow_zero,Int.mul_one];exact HN4.out,by show _=_;rw[Int.pow_zero,Int.mul_one];exact HNG.out,.inl rfl,by omega,hB6⟩
   case round =>
    clear rx hD5 hB6;obtain⟨k,a,n,cc,hbx,hTd,HN,HNX,hk,hk18,hBr⟩:=hrel;have hlen:n<=19+k:=by rw[<-HN.out];refine digs_len _ _ ?_;have h5:=HPI.out;unfold I64 at h5;rw[Int.natAbs_mul,Int.natAbs_pow,Nat.pow_add];exact Nat.mul_lt_mul_of_pos_right (by omega) (Nat.pow_pos (by decide))
    obtain⟨x,HX⟩:∃x,Hid (p*10 ^ k=x):=⟨_,rfl⟩;obtain⟨g,HG⟩:∃g,Hid (q-(k:Int)=g):=⟨_,rfl⟩;rw[HX.out] at hTd HN HNX;rw[HG.out] at hbx;obtain⟨d0,d1,d2⟩:=hbx.triQ;have hgr : -18<=g+36/\g<=18:=by have:=HG.out;omega
    by_cases hgf:0<g
    ·have HSH:∀ V,Below wr.heap.size wr V->Hid (Calls Tryz.prog 62 #[.agg #[.bool ng,.slice a n cc],.int .i64 ((1:Nat):Int)] V fun r w'=>∃v',r=.returned v'/\BigV w' (x*10 ^ 1) v'/\NewV V.heap.size v'/\Below V.heap.size V w'):=fun V h=>by have:=shift_new x (bv ng (.slice a n cc)) 1 V ⟨_,by rw[<-HNX.out],hTd.below h⟩ (by decide) (by rw[HN.out];omega);exact this
     have fw1:IntKind.i64.wrap (g-1)=g-1:=IntWalk.i64_in _ ⟨by omega,by omega⟩;go_wp2_with fail;have hS:Below wr.heap.size wr wr.drew:=(Below.refl _ wr).drew;have tri:∀wx,Below wr.heap.size wr wx->wx.cell? ⟨X,0,none⟩=some (.bool ng)/\wx.cell? ⟨X,1,none⟩=some (.slice a n cc)/\wx.cell? ⟨X,2,none⟩=some (.int .i64 g):=fun wx hx=>(hbx.below hx hbx.lt).triQ;refine Ib wr 7 8 ?_;refine Oh 0 hS ?_;refine Oh 1 hS ?_ (v:=.agg #[.bool ng,.slice a n cc]) (y:=by intro wx hx;obtain⟨x0,x1,x2⟩:=tri wx hx;go_simp<;>rfl);refine Oh 3 hS ?_;refine Oh 4 hS ?_ (v:=.int .i64 g) (y:=by intro wx hx;obtain⟨x0,x1,x2⟩:=tri wx hx;go_simp<;>rfl);refine Oh 5 hS ?_ (v:=.int .i64 (g-1)) (y:=by intro wx hx;go_simp<;>first|rfl|exact fw1);refine Oo 2 ?_;go_wp2_with fail;refine Calls.mono (HSH _ hS).out ?_;rintro _ wb ⟨v2,rfl,hV2,hN2,b2⟩;obtain⟨s2,rfl,hD2⟩:=hV2;have hN2:=hN2.get;obtain⟨_,a6,c6,rfl,_,_⟩:=id hD2;have hW3:Below wr.heap.size wr wb:=hS.trans (b2.mono hS.size);have hNS:NewS (X+1) (.slice a6 (digs (x*10 ^ 1).natAbs).length c6):=hN2.mono hbx.lt;clear b2 HSH hS hN2;unfold bv;have HNX2:Hid (decide (x*10 ^ 1<0)=ng):=by show _=_;rw[sign_shift];exact HNX.out
     rw[HNX2.out];obtain⟨n2,HN2⟩:∃n2:Nat,Hid ((digs (x*10 ^ 1:Int).natAbs).length=n2):=by exact⟨(digs (x*10 ^ 1:Int).natAbs).length,(rfl:(digs (x*10 ^ 1:Int).natAbs).length=(digs (x*10 ^ 1:Int).natAbs).length)⟩
     rw[HN2.out] at hD2 hNS;rw[HN2.out];have p2:=hbx.below hW3 hbx.lt;have hR3:Row (((wb.setCell ⟨X,0,none⟩ (.bool ng)).setCell ⟨X,1,none⟩ (.slice a6 n2 c6)).setCell ⟨X,2,none⟩ (.int .i64 (g-1))) X 75 #[.bool ng,.slice a6 n2 c6,.int .i64 (g-1)]:=((p2.set 0 _).set 1 _).set 2 _;have hD3:=((hD2.off hNS 0 (.bool ng)).off hNS 1 (.slice a6 n2 c6)).off hNS 2 (.int .i64 (g-1));have hB3:=below_set (below_set (below_set (hBr.trans (hW3.mono hBr.size)) (B:=X) 0 (.bool ng) (by omega)) (B:=X) 1 (.slice a6 n2 c6) (by omega)) (B:=X) 2 (.int .i64 (g-1)) (by omega);have HAL:Hid (Row (((wb.setCell ⟨X,0,none⟩ (.bool ng)).setCell ⟨X,1,none⟩ (.slice a6 n2 c6)).setCell ⟨X,2,none⟩ (.int .i64 (g-1))) X 75 #[.bool ng,.slice a6 n2 c6,.int .i64 (g-1)]/\DgAt _ _ _/\Below w.heap.size w _):=⟨hR3,hD3,hB3⟩;clear hR3 hD3 hB3 hD2 hNS hTd;go_wp2_with fail;refine⟨fun _=>hW3,?_⟩;refine Oo 6 ?_;go_wp2_with fail;refine⟨fun _=>hW3,?_⟩;obtain⟨y0,y1,y2⟩:=p2.triQ;have zf:=p2.frozen;refine Oo 7 ?_;go_wp2_with fail;refine⟨fun h=>by simp at h,?_⟩;refine Od ?_;go_wp2;go_roundw
     case rel =>
      have e1:p*10 ^ (k+1)=x*10 ^ 1:=by rw[<-HX.out,Int.pow_succ,Int.pow_succ,Int.pow_zero,Int.one_mul,Int.mul_assoc]
      have e2:q-((k+1:Nat):Int)=g-1:=by have:=HG.out;omega
      refine⟨k+1,a6,n2,c6,?_,?_,?_,?_,?_,?_,HAL.out.2.2⟩
      ·rw[e2];exact HAL.out.1
      ·rw[e1];exact HAL.out.2.1
      ·show _=_;rw[e1];exact HN2.out
      ·show _=_;rw[e1];exact HNX2.out
      ·right;have:=HG.out;omega
      ·have:=HG.out;omega
     case measure => have h3:=HAL.out.1.triQ.2.2;rw[h3,d2];simp only[Option.getD_some,intOf];omega
    ·have hg2:g=tz:=by rw[<-HTZ.out];have:=HG.out;split<;>omega
     subst hg2;have hxa:x.natAbs=M:=by rw[<-HX.out,<-HM.out,<-HSC.out.1,shl_abs,show k=q.toNat by have:=HG.out;omega]
     rw[hxa] at hTd HN;have HTd:Hid (DgAt wr (.slice a n cc) (digs M)):=hTd;clear hTd hxa;go_wp2_with fail;go_meet;exact⟨a,n,cc,hbx,HTd,HN,by omega,hBr⟩
 case rest =>
  as_aux_lemma =>
   obtain⟨a,n,cc,hbx,HTd,HN,hn60,hBr⟩:=hcut;clear rx hD5 hB6;obtain⟨wq,hwq⟩:∃wq,wq=wc:=⟨_,rfl⟩;subst hwq;have hbx0:=hbx;have hXl:=hbx.lt;obtain⟨d0,d1,d2⟩:=hbx.triQ;clear hbx;go_upto_region 8 with fail
   go_cut [9] (fun v9 wx=>∃(gz:Option Addr) (cz:Nat) (oz:List Int),v9=.slice gz oz.length cz/\Hid (oz=[])/\oz.length<=1/\Hid (wx.ownsRow wx.heap.size 5 1 (.slice gz oz.length cz) oz.length (oz.map (Value.int .u8)))/\wq=wx)
   case first => as_aux_lemma => go_wp2_with fail;go_meet;exact⟨none,0,[],rfl,rfl,by simp,World.ownsRow_nil _ _ _ _,rfl⟩
   case rest =>
    as_aux_lemma =>
     obtain⟨gz,cz,oz,rfl,HOZ,hoz,HO0,rfl⟩:=hcut;go_upto_if 48 with fail
     go_cut [9] (fun v9 wx=>Hid (Below wq.heap.size wq wx/\wx.ownsRow wq.heap.size 5 1 v9 (signL ng).length ((signL ng).map (Value.int .u8))))
     case first =>
      as_aux_lemma =>
       cases ng with
       | false =>
        go_wp2_with fail;go_meet;have hz9:=HOZ.out;subst hz9;exact⟨Below.refl _ _,HO0.out⟩
       | true =>
        have hO0:=HO0.out;have hBq:Below wq.heap.size wq wq:=Below.refl _ _;have HNW:Hid _:=new_byte wq 45;have hOa:(wq.alloc (.cells #[.int .u8 45] 5)).ownsRow wq.heap.size 5 1 _ oz.length (oz.map (Value.int .u8)):=World.ownsRow.alloc hO0 _;have hBa:=hBq.alloc hBq.size (.cells #[.int .u8 45] 5);have hsa:=hBq.size;go_wp2_with (at_builtin;refine wpList_append_own2 _ rfl (.tmp 49) (.tmp 50) 63 rfl wq.heap.size 5 i0 (.int .u8 0) 1 1 Tryz.underlying63 hi hz0 hz1 hz2 rfl (by decide) _ _ _ rfl hOa ⟨wq.heap.size,0,none⟩ 1 1 [.int .u8 45] rfl rfl HNW.out (by simp[Value.oneCell']) (by unfold maxLen;omega) (by omega) (by simp<;>omega) ?_);intro v_xs xs hown_xs hgrow_xs hblk_xs;have hB_xs:Below wq.heap.size wq xs:=hBa.grown hgrow_xs hBa.size (fun k e=>(hOa.lt k e).1);have hO_xs:xs.ownsRow wq.heap.size 5 1 v_xs (oz++[45]).length ((oz++[45]).map (Value.int .u8)):=by rw[List.length_append,List.map_append];exact hown_xs
        clear hown_xs hgrow_xs hblk_xs HNW hOa hBa hsa;rw[HOZ.out] at hO_xs;go_wp2_with fail;go_meet;exact⟨hB_xs,hO_xs⟩
     case rest =>
      as_aux_lemma =>
       have HS1:=hcut;clear hcut d0 d1 d2;obtain⟨T,HT⟩:∃ T,Hid ((dlist y.n y.e).length=T):=⟨_,rfl⟩;have hTe:T=if (n:Int)<1-tz then (1-tz).toNat else n:=by have h5:=dlist_top y.n y.e HZR.out;rw[HT.out,HSC.out.2,HTZ.out,HM.out,HN.out] at h5;exact h5
       have hT1:1<=T:=by rw[hTe];split<;>omega
       have q0:=hbx0.below HS1.out.1 hbx0.lt;obtain⟨d0,d1,d2⟩:=q0.triQ;go_upto_if 60 with fail
       go_cut [10] (fun v10 wx=>v10=.int .i64 (T:Int)/\wc=wx)
       case first =>
        as_aux_lemma =>
         by_cases hlt:(n:Int)<1-tz
         ·rw[if_pos hlt] at hTe;have hT2:1-tz=(T:Int):=by omega
          clear hTe;go_wp2_with fail;go_meet;exact⟨by first|rfl|(congr 1),by first|rfl|trivial⟩
         ·rw[if_neg hlt] at hTe;subst hTe;go_wp2_with fail;go_meet;exact⟨rfl,rfl⟩
       case rest =>
        as_aux_lemma =>
         obtain⟨rfl,rfl⟩:=hcut;have hT60:T<=100:=by rw[hTe];split<;>omega
         have HTP:Hid (topP y.n y.e=(T:Int)-1+tz):=by have h5:=dlist_len y.n y.e (dec_len y.n (by have:=HBG.out;omega)).1;rw[HT.out,HSC.out.2,HTZ.out] at h5;show topP y.n y.e=_;rw[HSC.out.2];omega
         have HDL:Hid ((digsW y).length=T):=by show _=_;unfold digsW;rw[Pl_len];exact HT.out
         clear hTe d0 d1 d2 q0;go_upto_block 2 with fail
         go_cut [9,11] (fun v9 v11 wx=>∃os:List Int,Hid (os=signL ng++outB (digsW y))/\os.length<=400/\Hid (Below wq.heap.size wq wx/\wx.ownsRow wq.heap.size 5 1 v9 os.length (os.map (Value.int .u8))))
         case first =>
          as_aux_lemma =>
           go_wp2_with fail;go_loopw [9,11] (fun v9 v11 wr=>∃(j:Nat) (os:List Int),j<=T/\v11=.int .i64 ((T:Int)-1-(j:Int))/\Hid (os=signL ng++outB ((digsW y).take j))/\os.length<=2*j+1/\Below wq.heap.size wq wr/\wr.ownsRow wq.heap.size 5 1 v9 os.length (os.map (Value.int .u8))) (fun _ v11 _=>(intOf v11+1).toNat)
           case atStart=>exact⟨0,signL ng,Nat.zero_le _,by simp,by show _=_;simp[outB],by cases ng<;>simp[signL],HS1.out.1,HS1.out.2⟩
           case round =>
            clear HS1;obtain⟨j,os,hj,rfl,HOS,hol,hB,hO⟩:=hrel;by_cases hjT:j<T
            ·obtain⟨i,hie⟩:∃i,T-1-j=i:=⟨_,rfl⟩;have hv:(T:Int)-1-(j:Int)=(i:Int):=by omega
             have hjL:j<(dlist y.n y.e).length:=by rw[HT.out];exact hjT
             have hiL:i<(dlist y.n y.e).length:=by rw[HT.out];omega
             obtain⟨b,hb⟩:∃b,(dlist y.n y.e)[j]=b:=⟨_,rfl⟩;have hbd:=dlist_dig y.n y.e b (by rw[<-hb];exact List.getElem_mem hjL);obtain⟨bd,hbde⟩:∃bd:Int,(b.toNat:Int)=bd:=⟨_,rfl⟩;obtain⟨dg,hdg⟩:∃dg,(digs M)[i]?.getD 0=dg:=⟨_,rfl⟩;have hdb:48+dg=bd:=by rw[<-hdg,<-hbde,<-hb];exact print_digit y q M T i j HSC.out.2 HM.out HT.out hie hjL
             have HDV:Hid ((digs M)[i]?.getD 0=dg):=hdg;have HIW:Hid (i<=100):=by show _<=_;omega
             have hjT2:Hid (j+1<=T):=hjT;have hi0:(0:Int)<=(i:Int):=by omega
             have hib:(i:Int)<=100:=by omega
             have hbb:48<=bd/\bd<=57:=by omega
             have wu:IntKind.u8.wrap bd=bd:=by simp[IntKind.wrap_u8]<;>omega
             have hjv:(T:Int)-1-((j+1:Nat):Int)=(i:Int)-1:=by omega
             have HSN:Hid (outB ((digsW y).take (j+1))=outB ((digsW y).take j)++((if (i:Int) = -tz-1 then [46] else [])++[bd])):=by
              show _=_;have h5:=Pl_get (dlist y.n y.e) (topP y.n y.e) j hjL;have h6:j<(digsW y).length:=by rw[HDL.out];exact hjT
              have h7:(digsW y)[j]=(topP y.n y.e-(j:Int),bd):=by have h8:(digsW y)[j]? = some (topP y.n y.e-(j:Int),((dlist y.n y.e)[j].toNat:Int)):=h5;rw[List.getElem?_eq_getElem h6,hb,hbde] at h8;exact Option.some.inj h8
              rw[List.take_succ_eq_append_getElem h6,outB_snoc,h7];congr 2;simp only;rw[HTP.out];by_cases hx:(i:Int) = -tz-1
              ·rw[if_pos hx,if_pos (by omega)]
              ·rw[if_neg hx,if_neg (by omega)]
             have HAT:∀ V,Below wq.heap.size wq V->Hid (Calls Tryz.prog 98 #[.agg #[.bool ng,.slice a n cc],.int .i64 (i:Int)] V fun r w'=>r=.returned (.int .i64 ((digs M)[i]?.getD 0))/\Below V.heap.size V w'):=fun V hV=>by have h5:=HTd.out.below hV;have h6:=h5.1;rw[<-HN.out] at h6;have:=at_any ng a cc (digs M) (i:Int) V h6;rw[if_pos (by omega),Int.toNat_natCast,HN.out] at this;exact this
             obtain⟨gu,cu,rfl⟩:=owns_form hO;rw[hv];clear hv hb hbde hdg hbd hjL hiL hie hj;have qd0:=hbx0.below hB hbx0.lt;obtain⟨d0,d1,d2⟩:=qd0.triQ;by_cases hdot:(i:Int) = -tz-1
             ·have hdt:((i:Int) == -tz-1)=true:=by simpa using hdot
              have HRL:Hid (os++[46]++[bd]=signL ng++outB ((digsW y).take (j+1))):=by show _=_;rw[HSN.out,if_pos hdot,HOS.out];simp
              clear hdot HOS HSN;have HNW:Hid _:=new_byte wr 46;have hOa:(wr.alloc (.cells #[.int .u8 46] 5)).ownsRow wq.heap.size 5 1 _ os.length (os.map (Value.int .u8)):=World.ownsRow.alloc hO _;have hBa:=hB.alloc hB.size (.cells #[.int .u8 46] 5);have hsa:=hB.size;go_wp2_with (at_builtin;refine wpList_append_own2 _ rfl (.tmp 76) (.tmp 77) 63 rfl wq.heap.size 5 i0 (.int .u8 0) 1 1 Tryz.underlying63 hi hz0 hz1 hz2 rfl (by decide) _ _ _ rfl hOa ⟨wr.heap.size,0,none⟩ 1 1 [.int .u8 46] rfl rfl HNW.out (by simp[Value.oneCell']) (by unfold maxLen;omega) (by omega) (by simp<;>omega) ?_);intro v_xd xd hown_xd hgrow_xd hblk_xd;have hB_xd:Below wq.heap.size wq xd:=hBa.grown hgrow_xd hBa.size (fun k e=>(hOa.lt k e).1);have hO_xd:xd.ownsRow wq.heap.size 5 1 v_xd (os++[46]).length ((os++[46]).map (Value.int .u8)):=by rw[List.length_append,List.map_append];exact hown_xd
              clear hown_xd hgrow_xd hblk_xd HNW hOa hBa hsa;clear hO hB d0 d1 d2 qd0;obtain⟨g1,k1,hv1⟩:=owns_form hO_xd;subst hv1;have hol2:(os++[46]).length<=2*j+2:=by rw[List.length_append];simp;omega
              generalize os++[46]=os2 at *;have qd:=hbx0.below hB_xd hbx0.lt;obtain⟨d0,d1,d2⟩:=qd.triQ;have HA:=HAT xd hB_xd;go_wp2_with fail;refine Calls.mono HA.out ?_;rintro _ wb ⟨rfl,bb⟩;rw[HDV.out];have hBb:Below wq.heap.size wq wb:=hB_xd.trans (bb.mono hB_xd.size);have hOb:wb.ownsRow wq.heap.size 5 1 _ os2.length (os2.map (Value.int .u8)):=owns_below hO_xd bb;clear HA bb hO_xd hB_xd d0 d1 d2 qd;have HNW:Hid _:=new_byte wb bd;have hOa:(wb.alloc (.cells #[.int .u8 bd] 5)).ownsRow wq.heap.size 5 1 _ os2.length (os2.map (Value.int .u8)):=World.ownsRow.alloc hOb _;have hBa:=hBb.alloc hBb.size (.cells #[.int .u8 bd] 5);have hsa:=hBb.size;go_wp2_with (at_builtin;refine wpList_append_own2 _ rfl (.tmp 79) (.tmp 86) 63 rfl wq.heap.size 5 i0 (.int .u8 0) 1 1 Tryz.underlying63 hi hz0 hz1 hz2 rfl (by decide) _ _ _ rfl hOa ⟨wb.heap.size,0,none⟩ 1 1 [.int .u8 bd] rfl rfl HNW.out (by simp[Value.oneCell']) (by unfold maxLen;omega) (by omega) (by simp<;>omega) ?_);intro v_xe xe hown_xe hgrow_xe hblk_xe;have hB_xe:Below wq.heap.size wq xe:=hBa.grown hgrow_xe hBa.size (fun k e=>(hOa.lt k e).1);have hO_xe:xe.ownsRow wq.heap.size 5 1 v_xe (os2++[bd]).length ((os2++[bd]).map (Value.int .u8)):=by rw[List.length_append,List.map_append];exact hown_xe
              clear hown_xe hgrow_xe hblk_xe HNW hOa hBa hsa;go_wp2;go_roundw
              case rel=>exact⟨j+1,os2++[bd],hjT2.out,by congr 1;omega,HRL,by rw[List.length_append];simp;omega,hB_xe,hO_xe⟩
              case measure=>have:=HIW.out;simp[intOf]<;>omega
             ·have hdt:((i:Int) == -tz-1)=false:=by simpa using hdot
              have HRL:Hid (os++[bd]=signL ng++outB ((digsW y).take (j+1))):=by show _=_;rw[HSN.out,if_neg hdot,HOS.out];simp
              clear hdot HOS HSN qd0;have HA:=HAT wr hB;go_wp2_with fail;refine Calls.mono HA.out ?_;rintro _ wb ⟨rfl,bb⟩;rw[HDV.out];have hBb:Below wq.heap.size wq wb:=hB.trans (bb.mono hB.size);have hOb:wb.ownsRow wq.heap.size 5 1 _ os.length (os.map (Value.int .u8)):=owns_below hO bb;clear HA bb hO hB d0 d1 d2;have HNW:Hid _:=new_byte wb bd;have hOa:(wb.alloc (.cells #[.int .u8 bd] 5)).ownsRow wq.heap.size 5 1 _ os.length (os.map (Value.int .u8)):=World.ownsRow.alloc hOb _;have hBa:=hBb.alloc hBb.size (.cells #[.int .u8 bd] 5);have hsa:=hBb.size;go_wp2_with (at_builtin;refine wpList_append_own2 _ rfl (.tmp 79) (.tmp 86) 63 rfl wq.heap.size 5 i0 (.int .u8 0) 1 1 Tryz.underlying63 hi hz0 hz1 hz2 rfl (by decide) _ _ _ rfl hOa ⟨wb.heap.size,0,none⟩ 1 1 [.int .u8 bd] rfl rfl HNW.out (by simp[Value.oneCell']) (by unfold maxLen;omega) (by omega) (by simp<;>omega) ?_);intro v_xe xe hown_xe hgrow_xe hblk_xe;have hB_xe:Below wq.heap.size wq xe:=hBa.grown hgrow_xe hBa.size (fun k e=>(hOa.lt k e).1);have hO_xe:xe.ownsRow wq.heap.size 5 1 v_xe (os++[bd]).length ((os++[bd]).map (Value.int .u8)):=by rw[List.length_append,List.map_append];exact hown_xe
              clear hown_xe hgrow_xe hblk_xe HNW hOa hBa hsa;go_wp2;go_roundw
              case rel=>exact⟨j+1,os++[bd],hjT2.out,by congr 1;omega,HRL,by rw[List.length_append];simp;omega,hB_xe,hO_xe⟩
              case measure=>have:=HIW.out;simp[intOf]<;>omega
            ·have h8:¬ (0:Int)<=(T:Int)-1-(j:Int):=by omega
             have HRE:Hid (os=signL ng++outB (digsW y)):=by show _=_;rw[HOS.out,List.take_of_length_le (by rw[HDL.out];omega)]
             clear HOS;go_wp2_with fail;go_meet;exact⟨os,HRE,by omega,hB,hO⟩
         case rest =>
          as_aux_lemma =>
           clear HS1;obtain⟨os,HOS,hol,HS2⟩:=hcut;have hown:=HS2.out.2;have hne:os≠[]:=by intro h5;have h6:=outB_ge (digsW y);rw[HDL.out] at h6;have h7:=HOS.out;rw[h5] at h7;have h8:=congrArg List.length h7;rw[List.length_append,List.length_nil] at h8;omega
           rcases hown.2 with ⟨_,hx⟩|⟨g,cap,cur,hv9,_⟩
           ·exact absurd (List.eq_nil_of_length_eq_zero hx) hne
           ·subst hv9;have hcv:(convert 63 9 (.slice (some ⟨g,0,none⟩) os.length cap)).run Tryz.prog wc=.ok (.string SS) wc:=by rw[<-HPS.out,HNE.out,<-HOS.out];exact run_convert_bytes_arg (P:=Tryz.prog) wc 63 5 Tryz.underlying63 Tryz.underlying5 g 0 os.length cap os rfl (fun i hi=>by rw[Nat.zero_add,hown.cellAt i (by omega)];simp[List.getElem?_eq_getElem hi]) 9 Tryz.underlying9
            have hBe:Below w.heap.size w wc:=hBr.trans (HS2.out.1.mono hBr.size);clear hown hne;generalize os.length=LN at *;go_wp2;go_ret;exact⟨rfl,hBe⟩
def upN (n k : Nat) : Nat := if 10 ^ k ≤ n % 10 ^ k + n % 10 ^ k then 1 else 0
def roundV (c e pl : Int) : Value := if (-18 ≤ e ∧ e ≤ 18) ∧ (-18 ≤ pl ∧ pl ≤ 18) then (if 0 < -pl - e then decV (tell (if c < 0 then -((c.natAbs / 10 ^ (-pl - e).toNat + upN c.natAbs (-pl - e).toNat : Nat) : Int) else ((c.natAbs / 10 ^ (-pl - e).toNat + upN c.natAbs (-pl - e).toNat : Nat) : Int)) (-pl)) else decV (tell c e)) else .tuple #[.agg #[.int .i64 0, .int .i64 0], .int .i64 1]
theorem up_digit (n d:Nat):(n / 10 ^ d+5) / 10=n / 10 ^ (d+1)+upN n (d+1):=by
 have hp:0<10 ^ d:=Nat.pow_pos (by decide);unfold upN;rw[Nat.pow_succ];obtain⟨P,hP⟩:∃ P,10 ^ d=P:=⟨_,rfl⟩;rw[hP] at hp ⊢;have h1:=Nat.div_add_mod n P;have h2:=Nat.mod_lt n hp;have h3:n / (P*10)=n / P / 10:=(Nat.div_div_eq_div_mul n P 10).symm;have h4:n % (P*10)=P*(n / P % 10)+n % P:=by rw[Nat.mod_mul,Nat.add_comm]
 rw[h3,h4];obtain⟨a,ha⟩:∃a,n / P=a:=⟨_,rfl⟩;obtain⟨l,hl⟩:∃l,n % P=l:=⟨_,rfl⟩;rw[ha,hl];rw[hl] at h2;obtain⟨r,hr⟩:∃r,a % 10=r:=⟨_,rfl⟩;have hr9:r<10:=by rw[<-hr];exact Nat.mod_lt _ (by decide)
 rw[hr];have hc:(P*10<=P*r+l+(P*r+l))↔5<=r:=by
  constructor
  ·intro h;rcases Nat.lt_or_ge r 5 with h5|h5
   ·have:P*r<=P*4:=Nat.mul_le_mul_left P (by omega);omega
   ·exact h5
  ·intro h;have:P*5<=P*r:=Nat.mul_le_mul_left P h;omega
 by_cases h5:5<=r
 ·rw[if_pos (hc.2 h5)];omega
 ·rw[if_neg (fun h=>h5 (hc.1 h))];omega
theorem up_shift (n j k:Nat) (h:j<=k):n*10 ^ j / 10 ^ k=n / 10 ^ (k-j)/\upN (n*10 ^ j) k=upN n (k-j):=by
 have hp:0<10 ^ j:=Nat.pow_pos (by decide);obtain⟨d,rfl⟩:∃d,k=d+j:=⟨k-j,by omega⟩;rw[Nat.add_sub_cancel,Nat.pow_add];refine⟨Nat.mul_div_mul_right _ _ hp,?_⟩;unfold upN;rw[Nat.pow_add,Nat.mul_mod_mul_right,<-Nat.add_mul];by_cases h5:10 ^ d<=n % 10 ^ d+n % 10 ^ d
 ·rw[if_pos h5,if_pos (Nat.mul_le_mul_right _ h5)]
 ·rw[if_neg h5,if_neg (fun h6=>h5 (Nat.le_of_mul_le_mul_right h6 hp))]
theorem up_none (n j k:Nat) (h:k<=j):n*10 ^ j / 10 ^ k=n*10 ^ (j-k)/\upN (n*10 ^ j) k=0:=by
 have hp:0<10 ^ k:=Nat.pow_pos (by decide);obtain⟨d,rfl⟩:∃d,j=d+k:=⟨j-k,by omega⟩;rw[Nat.add_sub_cancel,Nat.pow_add,<-Nat.mul_assoc];refine⟨Nat.mul_div_cancel _ hp,?_⟩;unfold upN;rw[Nat.mul_mod_left,if_neg (by omega)]
theorem pround_any (c e pl:Int) (hc:I64 c) (w:World):Calls Tryz.prog 83 #[.agg #[.int .i64 c,.int .i64 e],.int .i64 pl] w fun r w'=>r=.returned (roundV c e pl)/\Go.RowKit.Below w.heap.size w w':=by
 unfold roundV;by_cases he : -18<=e/\e<=18
 ·have hw:within e:=he;by_cases hp : -18<=pl/\pl<=18
  ·have hwp:within pl:=hp;rw[if_pos ⟨he,hp⟩];obtain⟨j,h1,h2,h3⟩:=dec_low c e hw;have hab:c.natAbs=(decW c e).n*10 ^ j:=by
    conv=>lhs;rw[h1]
    exact shl_abs _ _
   have hsg:=sc_sign c e;by_cases hc0:c=0
   ·subst hc0;have hd:decW 0 e=⟨false,0,0⟩:=by simp[decW,shortW,numW]
    have ht:tell 0 e=some (0,0):=by simp[tell,tellW_zero]
    have hv:decV (tell (if (0:Int)<0 then -(((0:Int).natAbs / 10 ^ (-pl-e).toNat+upN (0:Int).natAbs (-pl-e).toNat:Nat):Int) else (((0:Int).natAbs / 10 ^ (-pl-e).toNat+upN (0:Int).natAbs (-pl-e).toNat:Nat):Int)) (-pl))=decV (some (0,0)):=by
     have hu:upN (0:Int).natAbs (-pl-e).toNat=0:=by unfold upN;rw[if_neg (by have:0<10 ^ (-pl-e).toNat:=Nat.pow_pos (by decide);simp)]
     rw[if_neg (by omega),hu];simp[tell,tellW_zero]
    have hall:(if 0 < -pl-e then decV (tell (if (0:Int)<0 then -(((0:Int).natAbs / 10 ^ (-pl-e).toNat+upN (0:Int).natAbs (-pl-e).toNat:Nat):Int) else (((0:Int).natAbs / 10 ^ (-pl-e).toNat+upN (0:Int).natAbs (-pl-e).toNat:Nat):Int)) (-pl)) else decV (tell 0 e))=decV (some (0,0)):=by
     split
     ·exact hv
     ·rw[ht]
    rw[hall];by_cases hy : -pl<=(decW 0 e).e
    ·have:=round_up 0 e pl hc hw hwp hy w;rw[told_dec 0 e hw,ht] at this;exact this
    ·have:=round_down 0 e pl hc hw hwp hy w;have hr:toldW (some (roundW (decW 0 e) pl))=some (0,0):=by unfold roundW;rw[if_neg hy,hd];show tellW _ _ _=_;simp[tellW_zero]
     rw[hr] at this;exact this
   ·have hye:=h2 hc0;have hn0:(decW c e).n≠0:=by intro h;rw[h,Nat.zero_mul] at hab;omega
    have hcn:decide (c<0)=(decW c e).neg:=by
     rw[<-hsg];congr 1;apply propext;have hpj:(0:Int)<10 ^ j:=Int.pow_pos (by decide);constructor
     ·intro h;rcases Int.lt_or_le (sc (decW c e)) 0 with h5|h5
      ·exact h5
      ·have:=Int.mul_nonneg h5 (Int.le_of_lt hpj);omega
     ·intro h;have:=Int.mul_neg_of_neg_of_pos h hpj;omega
    by_cases hy : -pl<=(decW c e).e
    ·have:=round_up c e pl hc hw hwp hy w;rw[told_dec c e hw] at this;by_cases hcut:0 < -pl-e
     ·rw[if_pos hcut];obtain⟨u1,u2⟩:=up_none (decW c e).n j (-pl-e).toNat (by omega);rw[hab,u1,u2,Nat.add_zero];have e1:(if c<0 then -(((decW c e).n*10 ^ (j-(-pl-e).toNat):Nat):Int) else (((decW c e).n*10 ^ (j-(-pl-e).toNat):Nat):Int))=sc (decW c e)*10 ^ (j-(-pl-e).toNat):=by
       unfold sc;rw[<-hcn];by_cases hs:c<0
       ·rw[decide_eq_true hs,if_pos hs,if_pos rfl,Int.natCast_mul,Int.natCast_pow,Int.neg_mul];rfl
       ·rw[decide_eq_false hs,if_neg hs,if_neg (by simp),Int.natCast_mul,Int.natCast_pow];rfl
      rw[e1];have e2:=tell_pow (sc (decW c e)*10 ^ (j-(-pl-e).toNat)) (-pl) (-pl-e).toNat;rw[Int.mul_assoc,<-Int.pow_add,show j-(-pl-e).toNat+(-pl-e).toNat=j by omega,<-h1,show -pl-(((-pl-e).toNat:Nat):Int)=e by omega] at e2;rw[<-e2];exact this
     ·rw[if_neg hcut];exact this
    ·have:=round_down c e pl hc hw hwp hy w;rw[if_pos (by omega)];obtain⟨u1,u2⟩:=up_shift (decW c e).n j (-pl-e).toNat (by omega);rw[hab,u1,u2];have e1:toldW (some (roundW (decW c e) pl))=tell (if c<0 then -(((decW c e).n / 10 ^ ((-pl-e).toNat-j)+upN (decW c e).n ((-pl-e).toNat-j):Nat):Int) else (((decW c e).n / 10 ^ ((-pl-e).toNat-j)+upN (decW c e).n ((-pl-e).toNat-j):Nat):Int)) (-pl):=by
      unfold roundW;rw[if_neg hy];show tellW _ _ _=_;obtain⟨d,hd⟩:∃d,(-pl-e).toNat-j=d+1:=⟨(-pl-e).toNat-j-1,by omega⟩;rw[hd,show (-pl-1-(decW c e).e).toNat=d by omega,up_digit,tellW_tell,<-hcn];congr 1;by_cases hs:c<0
      ·rw[decide_eq_true hs,if_pos hs,if_pos rfl]
      ·rw[decide_eq_false hs,if_neg hs,if_neg (by simp)]
     rw[e1] at this;exact this
  ·rw[if_neg (fun h=>hp h.2)];exact round_bad2 c e pl hc hw hp w
 ·rw[if_neg (fun h=>he h.1)];exact round_bad1 c e pl he w
theorem rround_any (c e pl:Int) (hc:I64 c) (w:World):Calls Tryz.prog 30 #[.agg #[.int .i64 c,.int .i64 e],.int .i64 pl] w fun r w'=>r=.returned (roundV c e pl)/\Below w.heap.size w w':=by
 unfold roundV;by_cases he : -18<=e/\e<=18
 ·by_cases hp : -18<=pl/\pl<=18
  ·rw[if_pos ⟨he,hp⟩];by_cases h0:0 < -pl-e
   ·rw[if_pos h0];exact rround_down c e pl hc he.1 he.2 hp.1 hp.2 h0 w (upN c.natAbs (-pl-e).toNat) rfl
   ·rw[if_neg h0];exact rround_up c e pl hc he.1 he.2 hp.1 hp.2 (by omega) w
  ·rw[if_neg (fun h=>hp h.2)];exact rround_bad2 c e pl hc he hp w
 ·rw[if_neg (fun h=>he h.1)];exact rround_bad1 c e pl hc he w
set_option maxHeartbeats 2000000
theorem rright_num (c e:Int) (s:ByteArray) (b:Bool) (x:Int) (hc:I64 c) (w:World):Calls Tryz.prog 25 #[.agg #[.int .i64 1,.int .i64 c,.int .i64 e,.string s,.bool b,.int .i64 x]] w fun r w'=>r=.returned (.bool (rightB c e&&(⟨1,c,e,s,b,x⟩:Vl).eqB (vN c e)))/\Below w.heap.size w w':=by
 have h0:=R1.start w #[.int .i64 1,.int .i64 c,.int .i64 e,.string s,.bool b,.int .i64 x];have HC:∀ V,Hid (Calls Tryz.prog 53 #[.agg #[.int .i64 c,.int .i64 e]] V fun r w'=>r=.returned (.bool (rightB c e))/\Below V.heap.size V w'):=fun V=>rright_any c e hc V;generalize rightB c e=F at HC ⊢;go_enter Tryz.func25,Tryz.ntmps25;go_wp2_with fail;refine Calls.mono (HC _).out ?_;rintro _ w1 ⟨rfl,b1⟩;have h1:=h0.next b1
 obtain⟨m0,m1,m2,m3,m4,m5⟩:=h1.1.six;have pb:=h1.2;clear h0 b1 h1 HC;cases F
 ·go_wp2;go_ret;exact⟨by simp,pb⟩
 ·go_wp2;all_goals
   go_ret;refine⟨?_,pb⟩;simp_all [Vl.eqB,vN,ByteArray.toList_eq]
theorem rright_text (c e:Int) (s:ByteArray) (b:Bool) (x:Int) (w:World):Calls Tryz.prog 25 #[.agg #[.int .i64 2,.int .i64 c,.int .i64 e,.string s,.bool b,.int .i64 x]] w fun r w'=>r=.returned (.bool (textB s&&(⟨2,c,e,s,b,x⟩:Vl).eqB (vT s)))/\Below w.heap.size w w':=by
 have h0:=R1.start w #[.int .i64 2,.int .i64 c,.int .i64 e,.string s,.bool b,.int .i64 x];have HC:∀ V,Hid (Calls Tryz.prog 54 #[.string s] V fun r w'=>r=.returned (.bool (textB s))/\Below V.heap.size V w'):=fun V=>risText_any s V;generalize textB s=F at HC ⊢;go_enter Tryz.func25,Tryz.ntmps25;go_wp2_with fail;refine Calls.mono (HC _).out ?_;rintro _ w1 ⟨rfl,b1⟩;have h1:=h0.next b1
 obtain⟨m0,m1,m2,m3,m4,m5⟩:=h1.1.six;have pb:=h1.2;clear h0 b1 h1 HC;cases F
 ·go_wp2;go_ret;exact⟨by simp,pb⟩
 ·go_wp2;all_goals
   go_ret;refine⟨?_,pb⟩;simp_all [Vl.eqB,vT,ByteArray.toList_eq]
theorem rright_empty (c e:Int) (s:ByteArray) (b:Bool) (x:Int) (w:World):Calls Tryz.prog 25 #[.agg #[.int .i64 0,.int .i64 c,.int .i64 e,.string s,.bool b,.int .i64 x]] w fun r w'=>r=.returned (.bool ((⟨0,c,e,s,b,x⟩:Vl).eqB vE))/\Below w.heap.size w w':=by
 have pb:∀o,Below w.heap.size w (w.alloc o):=fun o=>(Below.refl _ w).alloc (Nat.le_refl _) _;go_enter Tryz.func25,Tryz.ntmps25;go_wp2;all_goals
  go_ret;refine⟨?_,pb _⟩;simp_all [Vl.eqB,vE,ByteArray.toList_eq]
theorem rright_bool (c e:Int) (s:ByteArray) (b:Bool) (x:Int) (w:World):Calls Tryz.prog 25 #[.agg #[.int .i64 3,.int .i64 c,.int .i64 e,.string s,.bool b,.int .i64 x]] w fun r w'=>r=.returned (.bool ((⟨3,c,e,s,b,x⟩:Vl).eqB (vB b)))/\Below w.heap.size w w':=by
 have pb:∀o,Below w.heap.size w (w.alloc o):=fun o=>(Below.refl _ w).alloc (Nat.le_refl _) _;go_enter Tryz.func25,Tryz.ntmps25;go_wp2;all_goals
  go_ret;refine⟨?_,pb _⟩;simp_all [Vl.eqB,vB,ByteArray.toList_eq]
theorem rright_none (k c e:Int) (s:ByteArray) (b:Bool) (x:Int) (h0:¬ k=0) (h1:¬ k=1) (h2:¬ k=2) (h3:¬ k=3) (h4:¬ k=4) (w:World):Calls Tryz.prog 25 #[.agg #[.int .i64 k,.int .i64 c,.int .i64 e,.string s,.bool b,.int .i64 x]] w fun r w'=>r=.returned (.bool (false))/\Below w.heap.size w w':=by
 have pb:∀o,Below w.heap.size w (w.alloc o):=fun o=>(Below.refl _ w).alloc (Nat.le_refl _) _;go_enter Tryz.func25,Tryz.ntmps25;go_wp2;all_goals
  go_ret;refine⟨?_,pb _⟩;rfl
theorem rright_errno (c e:Int) (s:ByteArray) (b:Bool) (x:Int) (hx:¬ 1<=x) (w:World):Calls Tryz.prog 25 #[.agg #[.int .i64 4,.int .i64 c,.int .i64 e,.string s,.bool b,.int .i64 x]] w fun r w'=>r=.returned (.bool (false))/\Below w.heap.size w w':=by
 have pb:∀o,Below w.heap.size w (w.alloc o):=fun o=>(Below.refl _ w).alloc (Nat.le_refl _) _;go_enter Tryz.func25,Tryz.ntmps25;go_wp2;all_goals
  go_ret;refine⟨?_,pb _⟩;rfl
theorem rright_errgt (c e:Int) (s:ByteArray) (b:Bool) (x:Int) (hx:1<=x) (hy:¬ x<=7) (w:World):Calls Tryz.prog 25 #[.agg #[.int .i64 4,.int .i64 c,.int .i64 e,.string s,.bool b,.int .i64 x]] w fun r w'=>r=.returned (.bool (false))/\Below w.heap.size w w':=by
 have pb:∀o,Below w.heap.size w (w.alloc o):=fun o=>(Below.refl _ w).alloc (Nat.le_refl _) _;go_enter Tryz.func25,Tryz.ntmps25;go_wp2;all_goals
  go_ret;refine⟨?_,pb _⟩;rfl
theorem rright_errok (c e:Int) (s:ByteArray) (b:Bool) (x:Int) (hx:1<=x) (hy:x<=7) (w:World):Calls Tryz.prog 25 #[.agg #[.int .i64 4,.int .i64 c,.int .i64 e,.string s,.bool b,.int .i64 x]] w fun r w'=>r=.returned (.bool ((⟨4,c,e,s,b,x⟩:Vl).eqB (vX x)))/\Below w.heap.size w w':=by
 have pb:∀o,Below w.heap.size w (w.alloc o):=fun o=>(Below.refl _ w).alloc (Nat.le_refl _) _;go_enter Tryz.func25,Tryz.ntmps25;go_wp2;all_goals
  go_ret;refine⟨?_,pb _⟩;simp_all [Vl.eqB,vX,ByteArray.toList_eq]
theorem rvright_any (v:Vl) (hc:I64 v.c) (w:World):Calls Tryz.prog 25 #[v.v] w fun r w'=>r=.returned (.bool (rightV v))/\Below w.heap.size w w':=by
 obtain⟨k,c,e,s,b,x⟩:=v;unfold rightV Vl.v Vl.cells;by_cases h0:k=0
 ·subst h0;exact rright_empty c e s b x w
 by_cases h1:k=1
 ·subst h1;exact rright_num c e s b x hc w
 by_cases h2:k=2
 ·subst h2;exact rright_text c e s b x w
 by_cases h3:k=3
 ·subst h3;exact rright_bool c e s b x w
 by_cases h4:k=4
 ·subst h4;show Calls Tryz.prog 25 _ w fun r w'=>r=.returned (.bool (codeB x&&(⟨4,c,e,s,b,x⟩:Vl).eqB (vX x)))/\_;unfold codeB;by_cases hx:1<=x
  ·by_cases hy:x<=7
   ·rw[decide_eq_true ⟨hx,hy⟩];exact rright_errok c e s b x hx hy w
   ·rw[decide_eq_false (by omega)];exact rright_errgt c e s b x hx hy w
  ·rw[decide_eq_false (by omega)];exact rright_errno c e s b x hx w
 ·simp only[h0,h1,h2,h3,h4,if_false];exact rright_none k c e s b x h0 h1 h2 h3 h4 w
theorem rtaken_any (v:Vl) (hc:I64 v.c) (w:World):Calls Tryz.prog 55 #[v.v] w fun r w'=>r=.returned (cleanV v).v/\Below w.heap.size w w':=by
 have HR:∀ V,Hid (Calls Tryz.prog 25 #[v.v] V fun r w'=>r=.returned (.bool (rightV v))/\Below V.heap.size V w'):=fun V=>rvright_any v hc V;unfold cleanV;obtain⟨R,hR⟩:∃ R,rightV v=R:=⟨_,rfl⟩;rw[hR] at HR ⊢;clear hR hc;obtain⟨k,c,e,s,b,x⟩:=v;unfold Vl.v Vl.cells at *;have h0:=PR.start w #[.int .i64 k,.int .i64 c,.int .i64 e,.string s,.bool b,.int .i64 x] #[.int .i64 0,.int .i64 0,.int .i64 0,.string .empty,.bool false,.int .i64 0];cases R
 ·go_enter Tryz.func55,Tryz.ntmps55;go_wp2_with fail;refine Calls.mono (HR _).out ?_;rintro _ w1 ⟨rfl,b1⟩;have h1:=h0.next b1
  clear h0 b1 HR;go_wp2_with fail;refine Calls.mono (rerr_any 2 _) ?_;rintro _ w2 ⟨rfl,b2⟩;rw[errW2];have h2:=h1.next b2
  obtain⟨y0,y1,y2,y3,y4,y5⟩:=h2.2.1.six;have zf:=h2.2.1.frozen;have wl:=h2.2.1.lt;clear h1 b2;go_wp2;exact bodyPost_ret (ret_one rfl (g:=w.heap.size+1) rfl ((h2.setR _ _ _ _ _ _).res rfl)) rfl ⟨rfl,(h2.setR _ _ _ _ _ _).2.2⟩
 ·go_enter Tryz.func55,Tryz.ntmps55;go_wp2_with fail;refine Calls.mono (HR _).out ?_;rintro _ w1 ⟨rfl,b1⟩;have h1:=h0.next b1
  obtain⟨y0,y1,y2,y3,y4,y5⟩:=h1.2.1.six;obtain⟨m0,m1,m2,m3,m4,m5⟩:=h1.1.six;have zf:=h1.2.1.frozen;have wl:=h1.2.1.lt;clear h0 b1 HR;go_wp2;exact bodyPost_ret (ret_one rfl (g:=w.heap.size+1) rfl ((h1.setR _ _ _ _ _ _).res rfl)) rfl ⟨rfl,(h1.setR _ _ _ _ _ _).2.2⟩
theorem asc_dec (n:Nat) (h:n<128) (t:List Nat):decL (n::t)=(n,1):=by
 have:=dec_wr n (by unfold charZ;omega) t;rw[wrN_1 h] at this;exact this
theorem asc_xml : ∀ l : List Nat, (∀ x ∈ l, 32 ≤ x ∧ x < 128) → xmlL l = true
  | [], _ => rfl
  | n :: t, h => by
    have hn := h n (by simp)
    have hd := asc_dec n hn.2 t
    rw [xmlL_step (by simp) (by rw [hd]; intro e; have := congrArg Prod.fst e; simp only at this; omega) (by rw [hd]; exact decide_eq_true (by omega)), hd]
    exact asc_xml t (fun x hx => h x (by simp [hx]))
theorem print_text {c e:Int} (hc:I64 c) (hw:within e):textB (printS c e)=true:=by
 obtain⟨_,_,p3,p4⟩:=parse_txt c e hc hw;rw[print_txt c e hc hw];generalize txtL (decW c e)=l at p3 p4;unfold textB;rw[decide_eq_true (by rw[bs_size];omega),Bool.true_and];refine asc_xml _ (fun x hx => ?_);unfold natsOf at hx;rw[bs_list] at hx;obtain⟨y,hy,rfl⟩:=List.mem_map.1 hx;rcases p4 y hy with rfl|rfl|h
 ·decide
 ·decide
 ·omega
theorem word_text (b:Bool):textB (wordS b)=true:=by cases b<;>kernel_rfl
theorem rvtext_any (v:Vl) (hc:I64 v.c) (w:World):Calls Tryz.prog 57 #[v.v] w fun r w'=>r=.returned (textV v).v/\Below w.heap.size w w':=by
 have hcc:∀c' e',cleanV v=vN c' e'->I64 c':=fun c' e' h=>by
  unfold cleanV at h;split at h
  ·rw[h] at hc;exact hc
  ·cases h
 have HT:∀ V,Hid (Calls Tryz.prog 55 #[v.v] V fun r w'=>r=.returned (cleanV v).v/\Below V.heap.size V w'):=fun V=>rtaken_any v hc V;obtain⟨u,hu⟩:∃u,cleanV v=u:=⟨_,rfl⟩;have hcs:=clean_cases v;unfold textV;rw[hu] at HT hcs hcc ⊢;have hhc:=hc;clear hu hc;obtain⟨k,c,e,s,b,x,hv⟩:=v.v_form;rw[hv] at HT ⊢;clear hv;have h0:=PR.start w #[.int .i64 k,.int .i64 c,.int .i64 e,.string s,.bool b,.int .i64 x] #[.int .i64 0,.int .i64 0,.int .i64 0,.string .empty,.bool false,.int .i64 0];rcases hcs with rfl|⟨c',e',rfl,hr⟩|⟨s',rfl,hr⟩|⟨b',rfl⟩|⟨x',rfl,hr⟩
 ·rw[vE_v] at HT;clear hcc hhc;have HST:∀ V,Hid (Calls Tryz.prog 94 #[.string ⟨#[]⟩] V fun r w'=>r=.returned (.agg #[.int .i64 2,.int .i64 0,.int .i64 0,.string ⟨#[]⟩,.bool false,.int .i64 0])/\Below V.heap.size V w'):=fun V=>by have h:=rstr_any ⟨#[]⟩ V;unfold strW at h;rw[show textB ⟨#[]⟩=true from by kernel_rfl] at h;exact h
  go_enter Tryz.func57,Tryz.ntmps57;go_wp2_with fail;refine Calls.mono (HT _).out ?_;rintro _ w1 ⟨rfl,b1⟩;have h1:=h0.next b1
  obtain⟨m0,m1,m2,m3,m4,m5⟩:=h1.1.six;have mf:=h1.1.frozen;have ml:=h1.1.lt;have h2:=h1.setP (.int .i64 0) (.int .i64 0) (.int .i64 0) (.string .empty) (.bool false) (.int .i64 0);obtain⟨n0,n1,n2,n3,n4,n5⟩:=h2.1.six;obtain⟨y0,y1,y2,y3,y4,y5⟩:=h2.2.1.six;have zf:=h2.2.1.frozen;have wl:=h2.2.1.lt;clear h0 b1 HT h1;go_wp2_with fail;refine Calls.mono (HST _).out ?_;rintro _ w2 ⟨rfl,b2⟩;have h3:=h2.next b2
  obtain⟨p0,p1,p2,p3,p4,p5⟩:=h3.2.1.six;have qf:=h3.2.1.frozen;have ql:=h3.2.1.lt;clear b2 n0 n1 n2 n3 n4 n5 y0 y1 y2 y3 y4 y5 zf wl HST;go_wp2;exact bodyPost_ret (ret_one rfl (g:=w.heap.size+1) rfl ((h3.setR _ _ _ _ _ _).res rfl)) rfl ⟨rfl,(h3.setR _ _ _ _ _ _).2.2⟩
 ·rw[vN_v] at HT;have hb:=hcc c' e' rfl;have HP:∀ V,Hid (Calls Tryz.prog 96 #[.agg #[.int .i64 c',.int .i64 e']] V fun r w'=>r=.returned (.string (printS c' e'))/\Below V.heap.size V w'):=fun V=>rprint_ok c' e' hb (right_within hr) V _ rfl;have HST:∀ V,Hid (Calls Tryz.prog 94 #[.string (printS c' e')] V fun r w'=>r=.returned (.agg #[.int .i64 2,.int .i64 0,.int .i64 0,.string (printS c' e'),.bool false,.int .i64 0])/\Below V.heap.size V w'):=fun V=>by have h:=rstr_any (printS c' e') V;unfold strW at h;rw[print_text hb (right_within hr)] at h;exact h
  clear hcc hhc hr hb;go_enter Tryz.func57,Tryz.ntmps57;go_wp2_with fail;refine Calls.mono (HT _).out ?_;rintro _ w1 ⟨rfl,b1⟩;have h1:=h0.next b1
  obtain⟨m0,m1,m2,m3,m4,m5⟩:=h1.1.six;have mf:=h1.1.frozen;have ml:=h1.1.lt;have h2:=h1.setP (.int .i64 1) (.int .i64 c') (.int .i64 e') (.string .empty) (.bool false) (.int .i64 0);obtain⟨n0,n1,n2,n3,n4,n5⟩:=h2.1.six;obtain⟨y0,y1,y2,y3,y4,y5⟩:=h2.2.1.six;have zf:=h2.2.1.frozen;have wl:=h2.2.1.lt;clear h0 b1 HT h1;go_wp2_with fail;refine Calls.mono (HP _).out ?_;rintro _ w3 ⟨rfl,b3⟩;have h2':=h2.next b3
  clear b3 n0 n1 n2 n3 n4 n5 y0 y1 y2 y3 y4 y5 zf wl h2;go_wp2_with fail;refine Calls.mono (HST _).out ?_;rintro _ w2 ⟨rfl,b2⟩;have h3:=h2'.next b2
  obtain⟨p0,p1,p2,p3,p4,p5⟩:=h3.2.1.six;have qf:=h3.2.1.frozen;have ql:=h3.2.1.lt;clear b2 h2' HST;go_wp2;exact bodyPost_ret (ret_one rfl (g:=w.heap.size+1) rfl ((h3.setR _ _ _ _ _ _).res rfl)) rfl ⟨rfl,(h3.setR _ _ _ _ _ _).2.2⟩
 ·rw[vT_v] at HT;clear hcc hhc hr;go_enter Tryz.func57,Tryz.ntmps57;go_wp2_with fail;refine Calls.mono (HT _).out ?_;rintro _ w1 ⟨rfl,b1⟩;have h1:=h0.next b1
  obtain⟨m0,m1,m2,m3,m4,m5⟩:=h1.1.six;have mf:=h1.1.frozen;have ml:=h1.1.lt;have h2:=h1.setP (.int .i64 2) (.int .i64 0) (.int .i64 0) (.string s') (.bool false) (.int .i64 0);obtain⟨n0,n1,n2,n3,n4,n5⟩:=h2.1.six;obtain⟨y0,y1,y2,y3,y4,y5⟩:=h2.2.1.six;have zf:=h2.2.1.frozen;have wl:=h2.2.1.lt;clear h0 b1 HT h1;go_wp2;exact bodyPost_ret (ret_one rfl (g:=w.heap.size+1) rfl ((h2.setR _ _ _ _ _ _).res rfl)) rfl ⟨rfl,(h2.setR _ _ _ _ _ _).2.2⟩
 ·rw[vB_v] at HT;clear hcc hhc;have HP:∀ V,Hid (Calls Tryz.prog 95 #[.bool b'] V fun r w'=>r=.returned (.string (wordS b'))/\Below V.heap.size V w'):=fun V=>(rword_any b' V).mono (fun r w h=>⟨h.1,by rw[h.2];exact Below.refl _ _⟩);have HST:∀ V,Hid (Calls Tryz.prog 94 #[.string (wordS b')] V fun r w'=>r=.returned (.agg #[.int .i64 2,.int .i64 0,.int .i64 0,.string (wordS b'),.bool false,.int .i64 0])/\Below V.heap.size V w'):=fun V=>by have h:=rstr_any (wordS b') V;unfold strW at h;rw[word_text b'] at h;exact h
  go_enter Tryz.func57,Tryz.ntmps57;go_wp2_with fail;refine Calls.mono (HT _).out ?_;rintro _ w1 ⟨rfl,b1⟩;have h1:=h0.next b1
  obtain⟨m0,m1,m2,m3,m4,m5⟩:=h1.1.six;have mf:=h1.1.frozen;have ml:=h1.1.lt;have h2:=h1.setP (.int .i64 3) (.int .i64 0) (.int .i64 0) (.string .empty) (.bool b') (.int .i64 0);obtain⟨n0,n1,n2,n3,n4,n5⟩:=h2.1.six;obtain⟨y0,y1,y2,y3,y4,y5⟩:=h2.2.1.six;have zf:=h2.2.1.frozen;have wl:=h2.2.1.lt;clear h0 b1 HT h1;go_wp2_with fail;refine Calls.mono (HP _).out ?_;rintro _ w3 ⟨rfl,b3⟩;have h2':=h2.next b3
  clear b3 n0 n1 n2 n3 n4 n5 y0 y1 y2 y3 y4 y5 zf wl h2;go_wp2_with fail;refine Calls.mono (HST _).out ?_;rintro _ w2 ⟨rfl,b2⟩;have h3:=h2'.next b2
  obtain⟨p0,p1,p2,p3,p4,p5⟩:=h3.2.1.six;have qf:=h3.2.1.frozen;have ql:=h3.2.1.lt;clear b2 h2' HST;go_wp2;exact bodyPost_ret (ret_one rfl (g:=w.heap.size+1) rfl ((h3.setR _ _ _ _ _ _).res rfl)) rfl ⟨rfl,(h3.setR _ _ _ _ _ _).2.2⟩
 ·rw[vX_v] at HT;clear hcc hhc hr;go_enter Tryz.func57,Tryz.ntmps57;go_wp2_with fail;refine Calls.mono (HT _).out ?_;rintro _ w1 ⟨rfl,b1⟩;have h1:=h0.next b1
  obtain⟨m0,m1,m2,m3,m4,m5⟩:=h1.1.six;have mf:=h1.1.frozen;have ml:=h1.1.lt;have h2:=h1.setP (.int .i64 4) (.int .i64 0) (.int .i64 0) (.string .empty) (.bool false) (.int .i64 x');obtain⟨n0,n1,n2,n3,n4,n5⟩:=h2.1.six;obtain⟨y0,y1,y2,y3,y4,y5⟩:=h2.2.1.six;have zf:=h2.2.1.frozen;have wl:=h2.2.1.lt;clear h0 b1 HT h1;go_wp2;exact bodyPost_ret (ret_one rfl (g:=w.heap.size+1) rfl ((h2.setR _ _ _ _ _ _).res rfl)) rfl ⟨rfl,(h2.setR _ _ _ _ _ _).2.2⟩
set_option maxHeartbeats 4000000
def namesA : Array Value := #[.string ⟨#[]⟩, .string ⟨#[35, 68, 73, 86, 47, 48, 33]⟩, .string ⟨#[35, 86, 65, 76, 85, 69, 33]⟩, .string ⟨#[35, 82, 69, 70, 33]⟩, .string ⟨#[35, 78, 65, 77, 69, 63]⟩, .string ⟨#[35, 78, 85, 77, 33]⟩, .string ⟨#[35, 78, 47, 65]⟩, .string ⟨#[35, 67, 89, 67, 76, 69, 33]⟩]
theorem names_any (w:World):Calls Tryz.prog 56 #[] w fun r w'=>r=.returned (.slice (some ⟨w.heap.size,0,none⟩) 8 8)/\w'=w.alloc (.cells namesA 9):=by
 unfold namesA;go_enter Tryz.func56,Tryz.ntmps56;go_wp2;go_ret;exact⟨rfl,rfl⟩
theorem names_row (w:World):Row (w.alloc (.cells namesA 9)) w.heap.size 9 #[.string ⟨#[]⟩,.string ⟨#[35,68,73,86,47,48,33]⟩,.string ⟨#[35,86,65,76,85,69,33]⟩,.string ⟨#[35,82,69,70,33]⟩,.string ⟨#[35,78,65,77,69,63]⟩,.string ⟨#[35,78,85,77,33]⟩,.string ⟨#[35,78,47,65]⟩,.string ⟨#[35,67,89,67,76,69,33]⟩]:=Row.new w 9 _
theorem rvshow_any (v:Vl) (hc:I64 v.c) (w:World):Calls Tryz.prog 27 #[v.v] w fun r w'=>r=.returned (.string (showV v))/\Below w.heap.size w w':=by
 have HT:∀ V,Hid (Calls Tryz.prog 55 #[v.v] V fun r w'=>r=.returned (cleanV v).v/\Below V.heap.size V w'):=fun V=>rtaken_any v hc V;have hcb:=clean_bd hc;have hcr:=clean_right v;unfold showV textV;obtain⟨u,hu⟩:∃u,cleanV v=u:=⟨_,rfl⟩;rw[hu] at HT hcb hcr ⊢;clear hu hc;obtain⟨k,c,e,s,b,x,hv⟩:=v.v_form;rw[hv] at HT ⊢;clear hv;have h0:=R1.start w #[.int .i64 k,.int .i64 c,.int .i64 e,.string s,.bool b,.int .i64 x];by_cases h4:u.k=4
 ·rw[if_pos h4];rcases right_cases hcr with rfl|⟨c',e',rfl,hr⟩|⟨s',rfl,hr⟩|⟨b',rfl⟩|⟨x',rfl,hr⟩
  ·cases h4
  ·cases h4
  ·cases h4
  ·cases h4
  ·rw[vX_v] at HT;show Calls Tryz.prog 27 _ w fun r w'=>r=.returned (.string (nameS x'))/\_;clear h4 hcb hcr;have hx':1<=x'/\x'<=7:=of_decide_eq_true hr;clear hr;obtain hx|hx|hx|hx|hx|hx|hx:x'=1\/x'=2\/x'=3\/x'=4\/x'=5\/x'=6\/x'=7:=by omega
   ·subst hx;clear hx';go_enter Tryz.func27,Tryz.ntmps27;go_wp2_with fail;refine Calls.mono (HT _).out ?_;rintro _ w1 ⟨rfl,b1⟩;have h1:=h0.next b1
    obtain⟨m0,m1,m2,m3,m4,m5⟩:=h1.1.six;have mf:=h1.1.frozen;have ml:=h1.1.lt;have h2:=h1.set (.int .i64 4) (.int .i64 0) (.int .i64 0) (.string .empty) (.bool false) (.int .i64 1);obtain⟨n0,n1,n2,n3,n4,n5⟩:=h2.1.six;clear h0 b1 HT h1;go_upto_region 3 with fail
    generalize ((((((w1.setCell ⟨w.heap.size,0,none⟩ (.int .i64 4)).setCell ⟨w.heap.size,1,none⟩ (.int .i64 0)).setCell ⟨w.heap.size,2,none⟩ (.int .i64 0)).setCell ⟨w.heap.size,3,none⟩ (.string .empty)).setCell ⟨w.heap.size,4,none⟩ (.bool false)).setCell ⟨w.heap.size,5,none⟩ (.int .i64 1))=W at *;clear m0 m1 m2 m3 m4 m5 mf ml n0 n1 n2 n3 n4 n5;have hS:=h2.drew;refine Ir (fun wx:World=>R1 w wx #[.int .i64 4,.int .i64 0,.int .i64 0,.string .empty,.bool false,.int .i64 1]) 3 6 ?_;refine Oh 1 hS ?_;refine Oh 2 hS ?_ (v:=.int .i64 1) (y:=by intro wx hx;obtain⟨z0,z1,z2,z3,z4,z5⟩:=hx.1.six;go_simp<;>rfl);refine Oo 0 ?_;go_wp2_with fail;refine Calls.mono (names_any _) ?_;rintro _ w3 ⟨rfl,hw3⟩;have hN:=names_row W.drew;rw[<-hw3] at hN;have h3:R1 w w3 #[.int .i64 4,.int .i64 0,.int .i64 0,.string .empty,.bool false,.int .i64 1]:=by rw[hw3];exact hS.alloc _
    clear hw3;generalize W.drew.heap.size=K at *;have c0:w3.cell? ⟨K,1,none⟩=some (.string ⟨#[35,68,73,86,47,48,33]⟩):=hN.cell rfl;have hf:=hN.frozen;go_wp2_with fail;refine⟨fun _=>h3,?_⟩;refine Oo 3 ?_;go_wp2_with fail;refine⟨fun h=>absurd h (by decide),?_⟩;refine Oo 4 ?_;go_wp2_with fail;refine⟨fun h=>absurd h (by decide),?_⟩;refine Oo 5 ?_;go_wp2_with fail;refine⟨fun h=>absurd h (by decide),?_⟩;refine Od ?_;go_wp2;go_ret;exact⟨rfl,h3.2⟩
   ·subst hx;clear hx';go_enter Tryz.func27,Tryz.ntmps27;go_wp2_with fail;refine Calls.mono (HT _).out ?_;rintro _ w1 ⟨rfl,b1⟩;have h1:=h0.next b1
    obtain⟨m0,m1,m2,m3,m4,m5⟩:=h1.1.six;have mf:=h1.1.frozen;have ml:=h1.1.lt;have h2:=h1.set (.int .i64 4) (.int .i64 0) (.int .i64 0) (.string .empty) (.bool false) (.int .i64 2);obtain⟨n0,n1,n2,n3,n4,n5⟩:=h2.1.six;clear h0 b1 HT h1;go_upto_region 3 with fail
    generalize ((((((w1.setCell ⟨w.heap.size,0,none⟩ (.int .i64 4)).setCell ⟨w.heap.size,1,none⟩ (.int .i64 0)).setCell ⟨w.heap.size,2,none⟩ (.int .i64 0)).setCell ⟨w.heap.size,3,none⟩ (.string .empty)).setCell ⟨w.heap.size,4,none⟩ (.bool false)).setCell ⟨w.heap.size,5,none⟩ (.int .i64 2))=W at *;clear m0 m1 m2 m3 m4 m5 mf ml n0 n1 n2 n3 n4 n5;have hS:=h2.drew;refine Ir (fun wx:World=>R1 w wx #[.int .i64 4,.int .i64 0,.int .i64 0,.string .empty,.bool false,.int .i64 2]) 3 6 ?_;refine Oh 1 hS ?_;refine Oh 2 hS ?_ (v:=.int .i64 2) (y:=by intro wx hx;obtain⟨z0,z1,z2,z3,z4,z5⟩:=hx.1.six;go_simp<;>rfl);refine Oo 0 ?_;go_wp2_with fail;refine Calls.mono (names_any _) ?_;rintro _ w3 ⟨rfl,hw3⟩;have hN:=names_row W.drew;rw[<-hw3] at hN;have h3:R1 w w3 #[.int .i64 4,.int .i64 0,.int .i64 0,.string .empty,.bool false,.int .i64 2]:=by rw[hw3];exact hS.alloc _
    clear hw3;generalize W.drew.heap.size=K at *;have c0:w3.cell? ⟨K,2,none⟩=some (.string ⟨#[35,86,65,76,85,69,33]⟩):=hN.cell rfl;have hf:=hN.frozen;go_wp2_with fail;refine⟨fun _=>h3,?_⟩;refine Oo 3 ?_;go_wp2_with fail;refine⟨fun h=>absurd h (by decide),?_⟩;refine Oo 4 ?_;go_wp2_with fail;refine⟨fun h=>absurd h (by decide),?_⟩;refine Oo 5 ?_;go_wp2_with fail;refine⟨fun h=>absurd h (by decide),?_⟩;refine Od ?_;go_wp2;go_ret;exact⟨rfl,h3.2⟩
   ·subst hx;clear hx';go_enter Tryz.func27,Tryz.ntmps27;go_wp2_with fail;refine Calls.mono (HT _).out ?_;rintro _ w1 ⟨rfl,b1⟩;have h1:=h0.next b1
    obtain⟨m0,m1,m2,m3,m4,m5⟩:=h1.1.six;have mf:=h1.1.frozen;have ml:=h1.1.lt;have h2:=h1.set (.int .i64 4) (.int .i64 0) (.int .i64 0) (.string .empty) (.bool false) (.int .i64 3);obtain⟨n0,n1,n2,n3,n4,n5⟩:=h2.1.six;clear h0 b1 HT h1;go_upto_region 3 with fail
    generalize ((((((w1.setCell ⟨w.heap.size,0,none⟩ (.int .i64 4)).setCell ⟨w.heap.size,1,none⟩ (.int .i64 0)).setCell ⟨w.heap.size,2,none⟩ (.int .i64 0)).setCell ⟨w.heap.size,3,none⟩ (.string .empty)).setCell ⟨w.heap.size,4,none⟩ (.bool false)).setCell ⟨w.heap.size,5,none⟩ (.int .i64 3))=W at *;clear m0 m1 m2 m3 m4 m5 mf ml n0 n1 n2 n3 n4 n5;have hS:=h2.drew;refine Ir (fun wx:World=>R1 w wx #[.int .i64 4,.int .i64 0,.int .i64 0,.string .empty,.bool false,.int .i64 3]) 3 6 ?_;refine Oh 1 hS ?_;refine Oh 2 hS ?_ (v:=.int .i64 3) (y:=by intro wx hx;obtain⟨z0,z1,z2,z3,z4,z5⟩:=hx.1.six;go_simp<;>rfl);refine Oo 0 ?_;go_wp2_with fail;refine Calls.mono (names_any _) ?_;rintro _ w3 ⟨rfl,hw3⟩;have hN:=names_row W.drew;rw[<-hw3] at hN;have h3:R1 w w3 #[.int .i64 4,.int .i64 0,.int .i64 0,.string .empty,.bool false,.int .i64 3]:=by rw[hw3];exact hS.alloc _
    clear hw3;generalize W.drew.heap.size=K at *;have c0:w3.cell? ⟨K,3,none⟩=some (.string ⟨#[35,82,69,70,33]⟩):=hN.cell rfl;have hf:=hN.frozen;go_wp2_with fail;refine⟨fun _=>h3,?_⟩;refine Oo 3 ?_;go_wp2_with fail;refine⟨fun h=>absurd h (by decide),?_⟩;refine Oo 4 ?_;go_wp2_with fail;refine⟨fun h=>absurd h (by decide),?_⟩;refine Oo 5 ?_;go_wp2_with fail;refine⟨fun h=>absurd h (by decide),?_⟩;refine Od ?_;go_wp2;go_ret;exact⟨rfl,h3.2⟩
   ·subst hx;clear hx';go_enter Tryz.func27,Tryz.ntmps27;go_wp2_with fail;refine Calls.mono (HT _).out ?_;rintro _ w1 ⟨rfl,b1⟩;have h1:=h0.next b1
    obtain⟨m0,m1,m2,m3,m4,m5⟩:=h1.1.six;have mf:=h1.1.frozen;have ml:=h1.1.lt;have h2:=h1.set (.int .i64 4) (.int .i64 0) (.int .i64 0) (.string .empty) (.bool false) (.int .i64 4);obtain⟨n0,n1,n2,n3,n4,n5⟩:=h2.1.six;clear h0 b1 HT h1;go_upto_region 3 with fail
    generalize ((((((w1.setCell ⟨w.heap.size,0,none⟩ (.int .i64 4)).setCell ⟨w.heap.size,1,none⟩ (.int .i64 0)).setCell ⟨w.heap.size,2,none⟩ (.int .i64 0)).setCell ⟨w.heap.size,3,none⟩ (.string .empty)).setCell ⟨w.heap.size,4,none⟩ (.bool false)).setCell ⟨w.heap.size,5,none⟩ (.int .i64 4))=W at *;clear m0 m1 m2 m3 m4 m5 mf ml n0 n1 n2 n3 n4 n5;have hS:=h2.drew;refine Ir (fun wx:World=>R1 w wx #[.int .i64 4,.int .i64 0,.int .i64 0,.string .empty,.bool false,.int .i64 4]) 3 6 ?_;refine Oh 1 hS ?_;refine Oh 2 hS ?_ (v:=.int .i64 4) (y:=by intro wx hx;obtain⟨z0,z1,z2,z3,z4,z5⟩:=hx.1.six;go_simp<;>rfl);refine Oo 0 ?_;go_wp2_with fail;refine Calls.mono (names_any _) ?_;rintro _ w3 ⟨rfl,hw3⟩;have hN:=names_row W.drew;rw[<-hw3] at hN;have h3:R1 w w3 #[.int .i64 4,.int .i64 0,.int .i64 0,.string .empty,.bool false,.int .i64 4]:=by rw[hw3];exact hS.alloc _
    clear hw3;generalize W.drew.heap.size=K at *;have c0:w3.cell? ⟨K,4,none⟩=some (.string ⟨#[35,78,65,77,69,63]⟩):=hN.cell rfl;have hf:=hN.frozen;go_wp2_with fail;refine⟨fun _=>h3,?_⟩;refine Oo 3 ?_;go_wp2_with fail;refine⟨fun h=>absurd h (by decide),?_⟩;refine Oo 4 ?_;go_wp2_with fail;refine⟨fun h=>absurd h (by decide),?_⟩;refine Oo 5 ?_;go_wp2_with fail;refine⟨fun h=>absurd h (by decide),?_⟩;refine Od ?_;go_wp2;go_ret;exact⟨rfl,h3.2⟩
   ·subst hx;clear hx';go_enter Tryz.func27,Tryz.ntmps27;go_wp2_with fail;refine Calls.mono (HT _).out ?_;rintro _ w1 ⟨rfl,b1⟩;have h1:=h0.next b1
    obtain⟨m0,m1,m2,m3,m4,m5⟩:=h1.1.six;have mf:=h1.1.frozen;have ml:=h1.1.lt;have h2:=h1.set (.int .i64 4) (.int .i64 0) (.int .i64 0) (.string .empty) (.bool false) (.int .i64 5);obtain⟨n0,n1,n2,n3,n4,n5⟩:=h2.1.six;clear h0 b1 HT h1;go_upto_region 3 with fail
    generalize ((((((w1.setCell ⟨w.heap.size,0,none⟩ (.int .i64 4)).setCell ⟨w.heap.size,1,none⟩ (.int .i64 0)).setCell ⟨w.heap.size,2,none⟩ (.int .i64 0)).setCell ⟨w.heap.size,3,none⟩ (.string .empty)).setCell ⟨w.heap.size,4,none⟩ (.bool false)).setCell ⟨w.heap.size,5,none⟩ (.int .i64 5))=W at *;clear m0 m1 m2 m3 m4 m5 mf ml n0 n1 n2 n3 n4 n5;have hS:=h2.drew;refine Ir (fun wx:World=>R1 w wx #[.int .i64 4,.int .i64 0,.int .i64 0,.string .empty,.bool false,.int .i64 5]) 3 6 ?_;refine Oh 1 hS ?_;refine Oh 2 hS ?_ (v:=.int .i64 5) (y:=by intro wx hx;obtain⟨z0,z1,z2,z3,z4,z5⟩:=hx.1.six;go_simp<;>rfl);refine Oo 0 ?_;go_wp2_with fail;refine Calls.mono (names_any _) ?_;rintro _ w3 ⟨rfl,hw3⟩;have hN:=names_row W.drew;rw[<-hw3] at hN;have h3:R1 w w3 #[.int .i64 4,.int .i64 0,.int .i64 0,.string .empty,.bool false,.int .i64 5]:=by rw[hw3];exact hS.alloc _
    clear hw3;generalize W.drew.heap.size=K at *;have c0:w3.cell? ⟨K,5,none⟩=some (.string ⟨#[35,78,85,77,33]⟩):=hN.cell rfl;have hf:=hN.frozen;go_wp2_with fail;refine⟨fun _=>h3,?_⟩;refine Oo 3 ?_;go_wp2_with fail;refine⟨fun h=>absurd h (by decide),?_⟩;refine Oo 4 ?_;go_wp2_with fail;refine⟨fun h=>absurd h (by decide),?_⟩;refine Oo 5 ?_;go_wp2_with fail;refine⟨fun h=>absurd h (by decide),?_⟩;refine Od ?_;go_wp2;go_ret;exact⟨rfl,h3.2⟩
   ·subst hx;clear hx';go_enter Tryz.func27,Tryz.ntmps27;go_wp2_with fail;refine Calls.mono (HT _).out ?_;rintro _ w1 ⟨rfl,b1⟩;have h1:=h0.next b1
    obtain⟨m0,m1,m2,m3,m4,m5⟩:=h1.1.six;have mf:=h1.1.frozen;have ml:=h1.1.lt;have h2:=h1.set (.int .i64 4) (.int .i64 0) (.int .i64 0) (.string .empty) (.bool false) (.int .i64 6);obtain⟨n0,n1,n2,n3,n4,n5⟩:=h2.1.six;clear h0 b1 HT h1;go_upto_region 3 with fail
    generalize ((((((w1.setCell ⟨w.heap.size,0,none⟩ (.int .i64 4)).setCell ⟨w.heap.size,1,none⟩ (.int .i64 0)).setCell ⟨w.heap.size,2,none⟩ (.int .i64 0)).setCell ⟨w.heap.size,3,none⟩ (.string .empty)).setCell ⟨w.heap.size,4,none⟩ (.bool false)).setCell ⟨w.heap.size,5,none⟩ (.int .i64 6))=W at *;clear m0 m1 m2 m3 m4 m5 mf ml n0 n1 n2 n3 n4 n5;have hS:=h2.drew;refine Ir (fun wx:World=>R1 w wx #[.int .i64 4,.int .i64 0,.int .i64 0,.string .empty,.bool false,.int .i64 6]) 3 6 ?_;refine Oh 1 hS ?_;refine Oh 2 hS ?_ (v:=.int .i64 6) (y:=by intro wx hx;obtain⟨z0,z1,z2,z3,z4,z5⟩:=hx.1.six;go_simp<;>rfl);refine Oo 0 ?_;go_wp2_with fail;refine Calls.mono (names_any _) ?_;rintro _ w3 ⟨rfl,hw3⟩;have hN:=names_row W.drew;rw[<-hw3] at hN;have h3:R1 w w3 #[.int .i64 4,.int .i64 0,.int .i64 0,.string .empty,.bool false,.int .i64 6]:=by rw[hw3];exact hS.alloc _
    clear hw3;generalize W.drew.heap.size=K at *;have c0:w3.cell? ⟨K,6,none⟩=some (.string ⟨#[35,78,47,65]⟩):=hN.cell rfl;have hf:=hN.frozen;go_wp2_with fail;refine⟨fun _=>h3,?_⟩;refine Oo 3 ?_;go_wp2_with fail;refine⟨fun h=>absurd h (by decide),?_⟩;refine Oo 4 ?_;go_wp2_with fail;refine⟨fun h=>absurd h (by decide),?_⟩;refine Oo 5 ?_;go_wp2_with fail;refine⟨fun h=>absurd h (by decide),?_⟩;refine Od ?_;go_wp2;go_ret;exact⟨rfl,h3.2⟩
   ·subst hx;clear hx';go_enter Tryz.func27,Tryz.ntmps27;go_wp2_with fail;refine Calls.mono (HT _).out ?_;rintro _ w1 ⟨rfl,b1⟩;have h1:=h0.next b1
    obtain⟨m0,m1,m2,m3,m4,m5⟩:=h1.1.six;have mf:=h1.1.frozen;have ml:=h1.1.lt;have h2:=h1.set (.int .i64 4) (.int .i64 0) (.int .i64 0) (.string .empty) (.bool false) (.int .i64 7);obtain⟨n0,n1,n2,n3,n4,n5⟩:=h2.1.six;clear h0 b1 HT h1;go_upto_region 3 with fail
    generalize ((((((w1.setCell ⟨w.heap.size,0,none⟩ (.int .i64 4)).setCell ⟨w.heap.size,1,none⟩ (.int .i64 0)).setCell ⟨w.heap.size,2,none⟩ (.int .i64 0)).setCell ⟨w.heap.size,3,none⟩ (.string .empty)).setCell ⟨w.heap.size,4,none⟩ (.bool false)).setCell ⟨w.heap.size,5,none⟩ (.int .i64 7))=W at *;clear m0 m1 m2 m3 m4 m5 mf ml n0 n1 n2 n3 n4 n5;have hS:=h2.drew;refine Ir (fun wx:World=>R1 w wx #[.int .i64 4,.int .i64 0,.int .i64 0,.string .empty,.bool false,.int .i64 7]) 3 6 ?_;refine Oh 1 hS ?_;refine Oh 2 hS ?_ (v:=.int .i64 7) (y:=by intro wx hx;obtain⟨z0,z1,z2,z3,z4,z5⟩:=hx.1.six;go_simp<;>rfl);refine Oo 0 ?_;go_wp2_with fail;refine Calls.mono (names_any _) ?_;rintro _ w3 ⟨rfl,hw3⟩;have hN:=names_row W.drew;rw[<-hw3] at hN;have h3:R1 w w3 #[.int .i64 4,.int .i64 0,.int .i64 0,.string .empty,.bool false,.int .i64 7]:=by rw[hw3];exact hS.alloc _
    clear hw3;generalize W.drew.heap.size=K at *;have c0:w3.cell? ⟨K,7,none⟩=some (.string ⟨#[35,67,89,67,76,69,33]⟩):=hN.cell rfl;have hf:=hN.frozen;go_wp2_with fail;refine⟨fun _=>h3,?_⟩;refine Oo 3 ?_;go_wp2_with fail;refine⟨fun h=>absurd h (by decide),?_⟩;refine Oo 4 ?_;go_wp2_with fail;refine⟨fun h=>absurd h (by decide),?_⟩;refine Oo 5 ?_;go_wp2_with fail;refine⟨fun h=>absurd h (by decide),?_⟩;refine Od ?_;go_wp2;go_ret;exact⟨rfl,h3.2⟩
 ·rw[if_neg h4];have HX:∀ V,Hid (Calls Tryz.prog 57 #[u.v] V fun r w'=>r=.returned (.agg #[.int .i64 2,.int .i64 0,.int .i64 0,.string (textK u).s,.bool false,.int .i64 0])/\Below V.heap.size V w'):=fun V=>by have h:=rvtext_any u hcb V;rw[text_of hcr h4] at h;exact h
  generalize (textK u).s=t at HX ⊢;obtain⟨k',c',e',s',b',x'⟩:=u;unfold Vl.v Vl.cells at HT HX;simp only at HT HX h4;have h5:(k'==4)=false:=by simpa using h4
  clear h4 hcb hcr;go_enter Tryz.func27,Tryz.ntmps27;go_wp2_with fail;refine Calls.mono (HT _).out ?_;rintro _ w1 ⟨rfl,b1⟩;have h1:=h0.next b1
  obtain⟨m0,m1,m2,m3,m4,m5⟩:=h1.1.six;have mf:=h1.1.frozen;have ml:=h1.1.lt;have h2:=h1.set (.int .i64 k') (.int .i64 c') (.int .i64 e') (.string s') (.bool b') (.int .i64 x');obtain⟨n0,n1,n2,n3,n4,n5⟩:=h2.1.six;clear h0 b1 HT h1;go_upto_region 2 with fail
  generalize ((((((w1.setCell ⟨w.heap.size,0,none⟩ (.int .i64 k')).setCell ⟨w.heap.size,1,none⟩ (.int .i64 c')).setCell ⟨w.heap.size,2,none⟩ (.int .i64 e')).setCell ⟨w.heap.size,3,none⟩ (.string s')).setCell ⟨w.heap.size,4,none⟩ (.bool b')).setCell ⟨w.heap.size,5,none⟩ (.int .i64 x'))=W at *;clear m0 m1 m2 m3 m4 m5 mf ml;go_wp2_with fail;refine Calls.mono (HX W).out ?_;rintro _ w2 ⟨rfl,b2⟩;have hf:=field25 2 0 0 0 t false;go_wp2;go_ret;exact⟨rfl,(h2.next b2).2⟩
end Go.Proofs.YtoncpcdepemlcaaGreatDoor
