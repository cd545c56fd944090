import Derived.Test.YtnhflnpjepiceaaGreatDoorPqzM
import Derived.Test.YtnhflnpjepiceaaGreatDoorWdgM
import Derived.Deep.CutBlock
import Derived.Deep.DeepCutAuto
import Derived.Test.YtnhflnpjepiceaaGreatDoorRlvM
import Derived.Test.YtnhflnpjepiceaaGreatDoorVnmM
import Derived.Test.YtnhflnpjepiceaaGreatDoorVcpM
namespace Go.Proofs.YtnhflnpjepiceaaGreatDoor
set_option maxRecDepth 100000
set_option maxHeartbeats 4000000
open Go.RowKit
theorem Row.triQ {W:World} {B:Nat} {t:TypeId} {a b c:Value} (h:Row W B t #[a,b,c]):W.cell? ⟨B,0,none⟩=some a∧W.cell? ⟨B,1,none⟩=some b∧W.cell? ⟨B,2,none⟩=some c:=⟨h.cell rfl,h.cell rfl,h.cell rfl⟩
theorem Zp (V:World) (d:Int):∀(j:Nat) (u:Value),([.int .u8 d]:List Value)[j]? = some u->(V.alloc (.cells #[.int .u8 d] 5)).cell? ((⟨V.heap.size,0,none⟩:Addr).add j)=some u:=by
 intro j u hu;have hR:=Row.new V 5 #[.int .u8 d];have h:=hR.cell (i:=j) (v:=u) (by simpa using hu);rw[Go.WideShapes.add_plain];simpa using h
theorem rprint_bad (c e:Int) (hc:I64 c) (he:¬ zo e) (w:World):Calls Tryz.prog 55 #[.agg #[.int .i64 c,.int .i64 e]] w fun r w'=>r=.returned (.string ⟨#[63]⟩)/\Below w.heap.size w w':=by
 obtain⟨p,q,er,hdv⟩:=yK (zu c e);have HMK:∀ V,Hid (Calls Tryz.prog 96 #[.int .i64 c,.int .i64 e] V _):=fun V=>rmake_any c e hc V;have HNU:∀ V,Hid (Calls Tryz.prog 97 #[.agg #[.int .i64 c,.int .i64 e]] V _):=fun V=>zX c e hc V;rw[hdv] at HMK;rw[decide_eq_false (show ¬ (-18<=e/\e<=18) from he)] at HNU;have r1:=Row.new w 23 #[.int .i64 c,.int .i64 e];have b0:=(Below.refl _ w).alloc (Nat.le_refl _) (.cells #[.int .i64 c,.int .i64 e] 23);obtain⟨z0,z1⟩:=r1.duo;clear hc he hdv;go_enter Tryz.func55,Tryz.ntmps55;go_wp2_with fail;refine Calls.mono (HMK _).out ?_;rintro _ w1 ⟨rfl,b1⟩;have q1:=(r1.below b1 r1.lt).alloc (.cells #[.int .i64 p,.int .i64 q] 23);have hB1:=(b0.trans (b1.mono b0.size));have hB2:=hB1.alloc hB1.size (.cells #[.int .i64 p,.int .i64 q] 23);clear r1 b0 b1 z0 z1 HMK;obtain⟨z0,z1⟩:=q1.duo;go_wp2_with fail;refine Calls.mono (HNU _).out ?_;rintro _ w2 ⟨sv,rfl,hD,hN,b2⟩;obtain⟨_,a3,c3,rfl,_,_⟩:=id hD;have hB3:=hB2.trans (b2.mono hB2.size);clear q1 z0 z1 HNU hD hN b2 hB1 hB2;have hB4:∀o,Below w.heap.size w (w2.alloc o):=fun o=>hB3.alloc hB3.size o;go_wp2;go_ret;exact⟨rfl,hB4 _⟩
theorem sc_sign (c e:Int):decide (sc (zj c e)<0)=(zj c e).neg:=by
 unfold sc zj zH yF;by_cases hc:c=0
 ·subst hc;rfl
 ·simp only[show c.natAbs≠0 by omega,if_false];have hs:=yj c.natAbs e (by omega);obtain⟨k,_,_,_,_,h5⟩:=hs;by_cases hn:c<0
  ·simp only[hn,decide_true,if_true];exact decide_eq_true (by omega)
  ·simp only[hn,decide_false];exact decide_eq_false (by simp)
theorem shl_abs (y:Wd) (k:Nat):(sc y*10 ^ k).natAbs=y.n*10 ^ k:=by
 rw[Int.natAbs_mul,Int.natAbs_pow,qH];rfl
theorem sign_shift (x:Int):decide (x*10 ^ 1<0)=decide (x<0):=by
 rw[Int.pow_succ,Int.pow_zero,Int.one_mul];by_cases hs:x<0
 ·rw[decide_eq_true hs,decide_eq_true (by omega)]
 ·rw[decide_eq_false hs,decide_eq_false (by omega)]
theorem decW_zero (c e:Int):(zj c e).n=0->(zj c e).e=0:=by
 unfold zj zH;split
 ·intro _;rfl
 ·rename_i h;intro h2;obtain⟨k,_,_,_,_,h5⟩:=yj (yF c e).n (yF c e).e h;exact absurd h2 h5
theorem print_digit (y:Wd) (q:Int) (M T i j:Nat) (hq:y.e=q) (hM:y.n*10 ^ q.toNat=M) (hT:(zQ y.n y.e).length=T) (hi:T-1-j=i) (hj:j<(zQ y.n y.e).length):48+(digs M)[i]?.getD 0=((zQ y.n y.e)[j].toNat:Int):=by
 subst hq hM hT;have h5:=digs_sign _ (kH y.n y.e) i (by omega);rw[Y3] at h5;have h6:(zQ y.n y.e).length-1-i=j:=by omega
 simp only[h6] at h5;omega
theorem owns_below {base:Nat} {W W':World} {v:Value} {n:Nat} {xs:List Value} (h:W.ownsRow base 5 1 v n xs) (hb:Below W.heap.size W W'):W'.ownsRow base 5 1 v n xs:=yu h (Kept.of_below hb (fun _ h=>h)) (fun k hk=>(h.lt k hk).2)
theorem Pl_len : ∀ (l : List UInt8) (t : Int), (Pl t l).length = l.length
  | [], _ => rfl
  | _ :: r, t => by simp [Pl, Pl_len r]
theorem rprint_ok (c e:Int) (hc:I64 c) (he:zo e) (w:World) (SS:ByteArray) (HSS:Hid (yY c e=SS)):Calls Tryz.prog 55 #[.agg #[.int .i64 c,.int .i64 e]] w fun r w'=>r=.returned (.string SS)/\Below w.heap.size w w':=by
 obtain⟨i0,hi,hzz⟩:=Option.map_eq_some_iff.1 Tryz.info5;simp only[Prod.mk.injEq] at hzz;obtain⟨hz0,hz1,hz2⟩:=hzz;have hte:=ZM c e hc he;have hS:=xa c e he.1 he.2 hc.1 hc.2;have hsg:=sc_sign c e;have hzr:=decW_zero c e;have HMK:∀ V,Hid (Calls Tryz.prog 96 #[.int .i64 c,.int .i64 e] V _):=fun V=>rmake_any c e hc V;have HNU:∀ V,Hid (Calls Tryz.prog 97 #[.agg #[.int .i64 c,.int .i64 e]] V _):=fun V=>zX c e hc V;rw[hte] at HMK;rw[decide_eq_true (show (-18<=e/\e<=18) from he)] at HNU;have HPS:Hid (strOfNums (j4 (zj c e).neg++zM (yN (zj c e)))=SS):=HSS;obtain⟨h1,h2,h3,h4,_,_,_⟩:=qX hte;generalize zj c e=y at *;obtain⟨p,hp⟩:∃p,sc y=p:=⟨_,rfl⟩;obtain⟨q,hq⟩:∃q,y.e=q:=⟨_,rfl⟩;rw[hp,hq] at HMK;rw[hp] at hsg h3 h4;rw[hq] at h1 h2;have hpI:I64 p:=⟨h3,h4⟩;have HNP:∀ V,Hid (Calls Tryz.prog 97 #[.agg #[.int .i64 p,.int .i64 q]] V _):=fun V=>zX p q hpI V;rw[decide_eq_true (show (-18<=q/\q<=18) from ⟨h1,h2⟩)] at HNP;obtain⟨ng,HNG⟩:∃ng,Hid (decide (p<0)=ng):=⟨_,rfl⟩;rw[HNG.out] at HNP;have HMKV:∀ V,Hid (Calls Tryz.prog 96 #[.int .i64 c,.int .i64 e] V fun r w'=>r=.returned (.tuple #[.agg #[.int .i64 p,.int .i64 q],.int .i64 0])/\Below V.heap.size V w'):=HMK;have HSC:Hid (sc y=p/\y.e=q):=⟨hp,hq⟩;have HNE:Hid (y.neg=ng):=by show _=_;rw[<-hsg];exact HNG.out
 have HZR:Hid (y.n=0->y.e=0):=hzr;have HBG:Hid (y.n<=9223372036854775808):=hS.big;have HPI:Hid (I64 p):=hpI;have r1:=Row.new w 23 #[.int .i64 c,.int .i64 e];have b0:=(Below.refl _ w).alloc (Nat.le_refl _) (.cells #[.int .i64 c,.int .i64 e] 23);obtain⟨z0,z1⟩:=r1.duo;clear hc he hte hS hsg hzr HMK hp hq h3 h4 hpI HSS;go_enter Tryz.func55,Tryz.ntmps55;go_wp2_with fail;refine Calls.mono (HMKV _).out ?_;rintro _ w1 ⟨rfl,b1⟩;have q1:=(r1.below b1 r1.lt).alloc (.cells #[.int .i64 p,.int .i64 q] 23);have s1:=Row.new w1 23 #[.int .i64 p,.int .i64 q];have hB1:=(b0.trans (b1.mono b0.size));have hB2:=hB1.alloc hB1.size (.cells #[.int .i64 p,.int .i64 q] 23);clear r1 b0 b1 z0 z1 HMKV hB1;obtain⟨z0,z1⟩:=q1.duo;go_wp2_with fail;generalize w1.alloc (.cells #[.int .i64 p,.int .i64 q] 23)=W2 at *;refine Calls.mono (HNU _).out ?_;rintro _ w2 ⟨sv,rfl,hD,hN,b2⟩;obtain⟨_,a3,c3,rfl,_,_⟩:=id hD;have hB3:=hB2.trans (b2.mono hB2.size);have s2:=s1.below b2 s1.lt;clear q1 z0 z1 HNU hN b2 hB2 s1 hD;generalize w1.heap.size=K1 at *;obtain⟨g1,hg1⟩:∃g1,decide (c<0)=g1:=⟨_,rfl⟩;obtain⟨n1,hn1⟩:∃n1,(digs c.natAbs).length=n1:=⟨_,rfl⟩;rw[hg1,hn1];clear hg1 hn1;have s3:=s2.alloc (.cells #[.bool g1,.slice a3 n1 c3,.int .i64 e] 76);have hB4:=hB3.alloc hB3.size (.cells #[.bool g1,.slice a3 n1 c3,.int .i64 e] 76);clear s2 hB3;obtain⟨z0,z1⟩:=s3.duo;go_wp2_with fail;generalize w2.alloc (.cells #[.bool g1,.slice a3 n1 c3,.int .i64 e] 76)=W3 at *;refine Calls.mono (HNP _).out ?_;rintro _ w3 ⟨sv,rfl,hD,hN,b3⟩;obtain⟨_,a4,c4,rfl,_,_⟩:=id hD;have hB5:=hB4.trans (b3.mono hB4.size);clear s3 z0 z1 HNP hN b3 hB4;obtain⟨n4,HN4⟩:∃n4,Hid ((digs p.natAbs).length=n4):=⟨_,rfl⟩;rw[HN4.out] at hD;rw[HN4.out];have rx:=Row.new w3 76 #[.bool ng,.slice a4 n4 c4,.int .i64 q];have hD5:=hD.below ((Below.refl _ w3).alloc (Nat.le_refl _) (.cells #[.bool ng,.slice a4 n4 c4,.int .i64 q] 76));have hB6:=hB5.alloc hB5.size (.cells #[.bool ng,.slice a4 n4 c4,.int .i64 q] 76);have hK3:w.heap.size<=w3.heap.size:=hB5.size;clear hD hB5;go_upto_block 0 with fail
 generalize w3.alloc (.cells #[.bool ng,.slice a4 n4 c4,.int .i64 q] 76)=W4 at *;generalize w3.heap.size=X at *;obtain⟨tz,HTZ⟩:∃tz,Hid ((if q<0 then q else 0)=tz):=⟨_,rfl⟩;obtain⟨M,HM⟩:∃ M,Hid (y.n*10 ^ q.toNat=M):=⟨_,rfl⟩;have htz : -18<=tz/\tz<=0:=by rw[<-HTZ.out];split<;>omega
 go_cut [] (fun wx=>∃(a:Option Addr) (n cc:Nat),Row wx X 76 #[.bool ng,.slice a n cc,.int .i64 tz]/\Hid (zr wx (.slice a n cc) (digs M))/\Hid ((digs M).length=n)/\n<=60/\Below w.heap.size w wx)
 case first =>
  as_aux_lemma =>
   go_wp2_with fail;go_loopw [] (fun wr=>∃(k:Nat) (a:Option Addr) (n cc:Nat),Row wr X 76 #[.bool ng,.slice a n cc,.int .i64 (q-(k:Int))]/\zr wr (.slice a n cc) (digs (p*10 ^ k).natAbs)/\Hid ((digs (p*10 ^ k).natAbs).length=n)/\Hid (decide (p*10 ^ k<0)=ng)/\(k=0\/0<=q-(k:Int))/\k<=18/\Below w.heap.size w wr) (fun wr=>(intOf ((wr.cell? ⟨X,2,none⟩).getD undef)+100).toNat)
   case atStart=>exact⟨0,a4,n4,c4,by simpa using rx,by rw[Int.pow_zero,Int.mul_one];exact hD5,by show _=_;rw[Int.pow_zero,Int.mul_one];exact HN4.out,by show _=_;rw[Int.pow_zero,Int.mul_one];exact HNG.out,.inl rfl,by omega,hB6⟩
   case round =>
    clear rx hD5 hB6;obtain⟨k,a,n,cc,hbx,hTd,HN,HNX,hk,hk18,hBr⟩:=hrel;have hlen:n<=19+k:=by rw[<-HN.out];refine zC _ _ ?_;have h5:=HPI.out;unfold I64 at h5;rw[Int.natAbs_mul,Int.natAbs_pow,Nat.pow_add];exact Nat.mul_lt_mul_of_pos_right (by omega) (Nat.pow_pos (by decide))
    obtain⟨x,HX⟩:∃x,Hid (p*10 ^ k=x):=⟨_,rfl⟩;obtain⟨g,HG⟩:∃g,Hid (q-(k:Int)=g):=⟨_,rfl⟩;rw[HX.out] at hTd HN HNX;rw[HG.out] at hbx;obtain⟨d0,d1,d2⟩:=hbx.triQ;have hgr : -18<=g+36/\g<=18:=by have:=HG.out;omega
    by_cases hgf:0<g
    ·have HSH:∀ V,Below wr.heap.size wr V->Hid (Calls Tryz.prog 98 #[.agg #[.bool ng,.slice a n cc],.int .i64 ((1:Nat):Int)] V fun r w'=>∃v',r=.returned v'/\zR w' (x*10 ^ 1) v'/\jb V.heap.size v'/\Below V.heap.size V w'):=fun V h=>by have:=jr x (bv ng (.slice a n cc)) 1 V ⟨_,by rw[<-HNX.out],hTd.below h⟩ (by decide) (by rw[HN.out];omega);exact this
     have fw1:IntKind.i64.wrap (g-1)=g-1:=IntWalk.i64_in _ ⟨by omega,by omega⟩;go_wp2_with fail;have hS:Below wr.heap.size wr wr.drew:=(Below.refl _ wr).drew;have tri:∀wx,Below wr.heap.size wr wx->wx.cell? ⟨X,0,none⟩=some (.bool ng)/\wx.cell? ⟨X,1,none⟩=some (.slice a n cc)/\wx.cell? ⟨X,2,none⟩=some (.int .i64 g):=fun wx hx=>(hbx.below hx hbx.lt).triQ;refine Ib wr 7 8 ?_;refine Oh 0 hS ?_;refine Oh 1 hS ?_ (v:=.agg #[.bool ng,.slice a n cc]) (y:=by intro wx hx;obtain⟨x0,x1,x2⟩:=tri wx hx;go_simp<;>rfl);refine Oh 3 hS ?_;refine Oh 4 hS ?_ (v:=.int .i64 g) (y:=by intro wx hx;obtain⟨x0,x1,x2⟩:=tri wx hx;go_simp<;>rfl);refine Oh 5 hS ?_ (v:=.int .i64 (g-1)) (y:=by intro wx hx;go_simp<;>first|rfl|exact fw1);refine Oo 2 ?_;go_wp2_with fail;refine Calls.mono (HSH _ hS).out ?_;rintro _ wb ⟨v2,rfl,hV2,hN2,b2⟩;obtain⟨s2,rfl,hD2⟩:=hV2;have hN2:=hN2.get;obtain⟨_,a6,c6,rfl,_,_⟩:=id hD2;have hW3:Below wr.heap.size wr wb:=hS.trans (b2.mono hS.size);have hNS:qV (X+1) (.slice a6 (digs (x*10 ^ 1).natAbs).length c6):=hN2.mono hbx.lt;clear b2 HSH hS hN2;unfold bv;have HNX2:Hid (decide (x*10 ^ 1<0)=ng):=by show _=_;rw[sign_shift];exact HNX.out
     rw[HNX2.out];obtain⟨n2,HN2⟩:∃n2:Nat,Hid ((digs (x*10 ^ 1:Int).natAbs).length=n2):=by exact⟨(digs (x*10 ^ 1:Int).natAbs).length,(rfl:(digs (x*10 ^ 1:Int).natAbs).length=(digs (x*10 ^ 1:Int).natAbs).length)⟩
     rw[HN2.out] at hD2 hNS;rw[HN2.out];have p2:=hbx.below hW3 hbx.lt;have hR3:Row (((wb.setCell ⟨X,0,none⟩ (.bool ng)).setCell ⟨X,1,none⟩ (.slice a6 n2 c6)).setCell ⟨X,2,none⟩ (.int .i64 (g-1))) X 76 #[.bool ng,.slice a6 n2 c6,.int .i64 (g-1)]:=((p2.set 0 _).set 1 _).set 2 _;have hD3:=((hD2.off hNS 0 (.bool ng)).off hNS 1 (.slice a6 n2 c6)).off hNS 2 (.int .i64 (g-1));have hB3:=za (za (za (hBr.trans (hW3.mono hBr.size)) (B:=X) 0 (.bool ng) (by omega)) (B:=X) 1 (.slice a6 n2 c6) (by omega)) (B:=X) 2 (.int .i64 (g-1)) (by omega);have HAL:Hid (Row (((wb.setCell ⟨X,0,none⟩ (.bool ng)).setCell ⟨X,1,none⟩ (.slice a6 n2 c6)).setCell ⟨X,2,none⟩ (.int .i64 (g-1))) X 76 #[.bool ng,.slice a6 n2 c6,.int .i64 (g-1)]/\zr _ _ _/\Below w.heap.size w _):=⟨hR3,hD3,hB3⟩;clear hR3 hD3 hB3 hD2 hNS hTd;go_wp2_with fail;refine⟨fun _=>hW3,?_⟩;refine Oo 6 ?_;go_wp2_with fail;refine⟨fun _=>hW3,?_⟩;obtain⟨y0,y1,y2⟩:=p2.triQ;have zf:=p2.frozen;refine Oo 7 ?_;go_wp2_with fail;refine⟨fun h=>by simp at h,?_⟩;refine Od ?_;go_wp2;go_roundw
     case rel =>
      have e1:p*10 ^ (k+1)=x*10 ^ 1:=by rw[<-HX.out,Int.pow_succ,Int.pow_succ,Int.pow_zero,Int.one_mul,Int.mul_assoc]
      have e2:q-((k+1:Nat):Int)=g-1:=by have:=HG.out;omega
      refine⟨k+1,a6,n2,c6,?_,?_,?_,?_,?_,?_,HAL.out.2.2⟩
      ·rw[e2];exact HAL.out.1
      ·rw[e1];exact HAL.out.2.1
      ·show _=_;rw[e1];exact HN2.out
      ·show _=_;rw[e1];exact HNX2.out
      ·right;have:=HG.out;omega
      ·have:=HG.out;omega
     case measure => have h3:=HAL.out.1.triQ.2.2;rw[h3,d2];simp only[Option.getD_some,intOf];omega
    ·have hg2:g=tz:=by rw[<-HTZ.out];have:=HG.out;split<;>omega
     subst hg2;have hxa:x.natAbs=M:=by rw[<-HX.out,<-HM.out,<-HSC.out.1,shl_abs,show k=q.toNat by have:=HG.out;omega]
     rw[hxa] at hTd HN;have HTd:Hid (zr wr (.slice a n cc) (digs M)):=hTd;clear hTd hxa;go_wp2_with fail;go_meet;exact⟨a,n,cc,hbx,HTd,HN,by omega,hBr⟩
 case rest =>
  as_aux_lemma =>
   obtain⟨a,n,cc,hbx,HTd,HN,hn60,hBr⟩:=hcut;clear rx hD5 hB6;obtain⟨wq,hwq⟩:∃wq,wq=wc:=⟨_,rfl⟩;subst hwq;have hbx0:=hbx;have hXl:=hbx.lt;obtain⟨d0,d1,d2⟩:=hbx.triQ;clear hbx;go_upto_region 8 with fail
   go_cut [9] (fun v9 wx=>∃(gz:Option Addr) (cz:Nat) (oz:List Int),v9=.slice gz oz.length cz/\Hid (oz=[])/\oz.length<=1/\Hid (wx.ownsRow wx.heap.size 5 1 (.slice gz oz.length cz) oz.length (oz.map (Value.int .u8)))/\wq=wx)
   case first => as_aux_lemma => go_wp2_with fail;go_meet;exact⟨none,0,[],rfl,rfl,by simp,World.ownsRow_nil _ _ _ _,rfl⟩
   case rest =>
    as_aux_lemma =>
     obtain⟨gz,cz,oz,rfl,HOZ,hoz,HO0,rfl⟩:=hcut;go_upto_if 48 with fail
     go_cut [9] (fun v9 wx=>Hid (Below wq.heap.size wq wx/\wx.ownsRow wq.heap.size 5 1 v9 (j4 ng).length ((j4 ng).map (Value.int .u8))))
     case first =>
      as_aux_lemma =>
       cases ng with
       | false =>
        go_wp2_with fail;go_meet;have hz9:=HOZ.out;subst hz9;exact⟨Below.refl _ _,HO0.out⟩
       | true =>
        have hO0:=HO0.out;have hBq:Below wq.heap.size wq wq:=Below.refl _ _;have HNW:Hid _:=Zp wq 45;have hOa:(wq.alloc (.cells #[.int .u8 45] 5)).ownsRow wq.heap.size 5 1 _ oz.length (oz.map (Value.int .u8)):=World.ownsRow.alloc hO0 _;have hBa:=hBq.alloc hBq.size (.cells #[.int .u8 45] 5);have hsa:=hBq.size;go_wp2_with (at_builtin;refine zk _ rfl (.tmp 49) (.tmp 50) 82 rfl wq.heap.size 5 i0 (.int .u8 0) 1 1 Tryz.underlying82 hi hz0 hz1 hz2 rfl (by decide) _ _ _ rfl hOa ⟨wq.heap.size,0,none⟩ 1 1 [.int .u8 45] rfl rfl HNW.out (by simp[Value.oneCell']) (by unfold maxLen;omega) (by omega) (by simp<;>omega) ?_);intro v_xs xs hown_xs hgrow_xs hblk_xs;have hB_xs:Below wq.heap.size wq xs:=hBa.grown hgrow_xs hBa.size (fun k e=>(hOa.lt k e).1);have hO_xs:xs.ownsRow wq.heap.size 5 1 v_xs (oz++[45]).length ((oz++[45]).map (Value.int .u8)):=by rw[List.length_append,List.map_append];exact hown_xs
        clear hown_xs hgrow_xs hblk_xs HNW hOa hBa hsa;rw[HOZ.out] at hO_xs;go_wp2_with fail;go_meet;exact⟨hB_xs,hO_xs⟩
     case rest =>
      as_aux_lemma =>
       have HS1:=hcut;clear hcut d0 d1 d2;obtain⟨T,HT⟩:∃ T,Hid ((zQ y.n y.e).length=T):=⟨_,rfl⟩;have hTe:T=if (n:Int)<1-tz then (1-tz).toNat else n:=by have h5:=dlist_top y.n y.e HZR.out;rw[HT.out,HSC.out.2,HTZ.out,HM.out,HN.out] at h5;exact h5
       have hT1:1<=T:=by rw[hTe];split<;>omega
       have q0:=hbx0.below HS1.out.1 hbx0.lt;obtain⟨d0,d1,d2⟩:=q0.triQ;go_upto_if 60 with fail
       go_cut [10] (fun v10 wx=>v10=.int .i64 (T:Int)/\wc=wx)
       case first =>
        as_aux_lemma =>
         by_cases hlt:(n:Int)<1-tz
         ·rw[if_pos hlt] at hTe;have hT2:1-tz=(T:Int):=by omega
          clear hTe;go_wp2_with fail;go_meet;exact⟨by first|rfl|(congr 1),by first|rfl|trivial⟩
         ·rw[if_neg hlt] at hTe;subst hTe;go_wp2_with fail;go_meet;exact⟨rfl,rfl⟩
       case rest =>
        as_aux_lemma =>
         obtain⟨rfl,rfl⟩:=hcut;have hT60:T<=100:=by rw[hTe];split<;>omega
         have HTP:Hid (jI y.n y.e=(T:Int)-1+tz):=by have h5:=jA y.n y.e (ZD y.n (by have:=HBG.out;omega)).1;rw[HT.out,HSC.out.2,HTZ.out] at h5;show jI y.n y.e=_;rw[HSC.out.2];omega
         have HDL:Hid ((yN y).length=T):=by show _=_;unfold yN;rw[Pl_len];exact HT.out
         clear hTe d0 d1 d2 q0;go_upto_block 2 with fail
         go_cut [9,11] (fun v9 v11 wx=>∃os:List Int,Hid (os=j4 ng++zM (yN y))/\os.length<=400/\Hid (Below wq.heap.size wq wx/\wx.ownsRow wq.heap.size 5 1 v9 os.length (os.map (Value.int .u8))))
         case first =>
          as_aux_lemma =>
           go_wp2_with fail;go_loopw [9,11] (fun v9 v11 wr=>∃(j:Nat) (os:List Int),j<=T/\v11=.int .i64 ((T:Int)-1-(j:Int))/\Hid (os=j4 ng++zM ((yN y).take j))/\os.length<=2*j+1/\Below wq.heap.size wq wr/\wr.ownsRow wq.heap.size 5 1 v9 os.length (os.map (Value.int .u8))) (fun _ v11 _=>(intOf v11+1).toNat)
           case atStart=>exact⟨0,j4 ng,Nat.zero_le _,by simp,by show _=_;simp[zM],by cases ng<;>simp[j4],HS1.out.1,HS1.out.2⟩
           case round =>
            clear HS1;obtain⟨j,os,hj,rfl,HOS,hol,hB,hO⟩:=hrel;by_cases hjT:j<T
            ·obtain⟨i,hie⟩:∃i,T-1-j=i:=⟨_,rfl⟩;have hv:(T:Int)-1-(j:Int)=(i:Int):=by omega
             have hjL:j<(zQ y.n y.e).length:=by rw[HT.out];exact hjT
             have hiL:i<(zQ y.n y.e).length:=by rw[HT.out];omega
             obtain⟨b,hb⟩:∃b,(zQ y.n y.e)[j]=b:=⟨_,rfl⟩;have hbd:=kH y.n y.e b (by rw[<-hb];exact List.getElem_mem hjL);obtain⟨bd,hbde⟩:∃bd:Int,(b.toNat:Int)=bd:=⟨_,rfl⟩;obtain⟨dg,hdg⟩:∃dg,(digs M)[i]?.getD 0=dg:=⟨_,rfl⟩;have hdb:48+dg=bd:=by rw[<-hdg,<-hbde,<-hb];exact print_digit y q M T i j HSC.out.2 HM.out HT.out hie hjL
             have HDV:Hid ((digs M)[i]?.getD 0=dg):=hdg;have HIW:Hid (i<=100):=by show _<=_;omega
             have hjT2:Hid (j+1<=T):=hjT;have hi0:(0:Int)<=(i:Int):=by omega
             have hib:(i:Int)<=100:=by omega
             have hbb:48<=bd/\bd<=57:=by omega
             have wu:IntKind.u8.wrap bd=bd:=by simp[IntKind.wrap_u8]<;>omega
             have hjv:(T:Int)-1-((j+1:Nat):Int)=(i:Int)-1:=by omega
             have HSN:Hid (zM ((yN y).take (j+1))=zM ((yN y).take j)++((if (i:Int) = -tz-1 then [46] else [])++[bd])):=by
              show _=_;have h5:=Y6 (zQ y.n y.e) (jI y.n y.e) j hjL;have h6:j<(yN y).length:=by rw[HDL.out];exact hjT
              have h7:(yN y)[j]=(jI y.n y.e-(j:Int),bd):=by have h8:(yN y)[j]? = some (jI y.n y.e-(j:Int),((zQ y.n y.e)[j].toNat:Int)):=h5;rw[List.getElem?_eq_getElem h6,hb,hbde] at h8;exact Option.some.inj h8
              rw[List.take_succ_eq_append_getElem h6,ZS,h7];congr 2;simp only;rw[HTP.out];by_cases hx:(i:Int) = -tz-1
              ·rw[if_pos hx,if_pos (by omega)]
              ·rw[if_neg hx,if_neg (by omega)]
             have HAT:∀ V,Below wq.heap.size wq V->Hid (Calls Tryz.prog 99 #[.agg #[.bool ng,.slice a n cc],.int .i64 (i:Int)] V fun r w'=>r=.returned (.int .i64 ((digs M)[i]?.getD 0))/\Below V.heap.size V w'):=fun V hV=>by have h5:=HTd.out.below hV;have h6:=h5.1;rw[<-HN.out] at h6;have:=Z9 ng a cc (digs M) (i:Int) V h6;rw[if_pos (by omega),Int.toNat_natCast,HN.out] at this;exact this
             obtain⟨gu,cu,rfl⟩:=zY hO;rw[hv];clear hv hb hbde hdg hbd hjL hiL hie hj;have qd0:=hbx0.below hB hbx0.lt;obtain⟨d0,d1,d2⟩:=qd0.triQ;by_cases hdot:(i:Int) = -tz-1
             ·have hdt:((i:Int) == -tz-1)=true:=by simpa using hdot
              have HRL:Hid (os++[46]++[bd]=j4 ng++zM ((yN y).take (j+1))):=by show _=_;rw[HSN.out,if_pos hdot,HOS.out];simp
              clear hdot HOS HSN;have HNW:Hid _:=Zp wr 46;have hOa:(wr.alloc (.cells #[.int .u8 46] 5)).ownsRow wq.heap.size 5 1 _ os.length (os.map (Value.int .u8)):=World.ownsRow.alloc hO _;have hBa:=hB.alloc hB.size (.cells #[.int .u8 46] 5);have hsa:=hB.size;go_wp2_with (at_builtin;refine zk _ rfl (.tmp 76) (.tmp 77) 82 rfl wq.heap.size 5 i0 (.int .u8 0) 1 1 Tryz.underlying82 hi hz0 hz1 hz2 rfl (by decide) _ _ _ rfl hOa ⟨wr.heap.size,0,none⟩ 1 1 [.int .u8 46] rfl rfl HNW.out (by simp[Value.oneCell']) (by unfold maxLen;omega) (by omega) (by simp<;>omega) ?_);intro v_xd xd hown_xd hgrow_xd hblk_xd;have hB_xd:Below wq.heap.size wq xd:=hBa.grown hgrow_xd hBa.size (fun k e=>(hOa.lt k e).1);have hO_xd:xd.ownsRow wq.heap.size 5 1 v_xd (os++[46]).length ((os++[46]).map (Value.int .u8)):=by rw[List.length_append,List.map_append];exact hown_xd
              clear hown_xd hgrow_xd hblk_xd HNW hOa hBa hsa;clear hO hB d0 d1 d2 qd0;obtain⟨g1,k1,hv1⟩:=zY hO_xd;subst hv1;have hol2:(os++[46]).length<=2*j+2:=by rw[List.length_append];simp;omega
              generalize os++[46]=os2 at *;have qd:=hbx0.below hB_xd hbx0.lt;obtain⟨d0,d1,d2⟩:=qd.triQ;have HA:=HAT xd hB_xd;go_wp2_with fail;refine Calls.mono HA.out ?_;rintro _ wb ⟨rfl,bb⟩;rw[HDV.out];have hBb:Below wq.heap.size wq wb:=hB_xd.trans (bb.mono hB_xd.size);have hOb:wb.ownsRow wq.heap.size 5 1 _ os2.length (os2.map (Value.int .u8)):=owns_below hO_xd bb;clear HA bb hO_xd hB_xd d0 d1 d2 qd;have HNW:Hid _:=Zp wb bd;have hOa:(wb.alloc (.cells #[.int .u8 bd] 5)).ownsRow wq.heap.size 5 1 _ os2.length (os2.map (Value.int .u8)):=World.ownsRow.alloc hOb _;have hBa:=hBb.alloc hBb.size (.cells #[.int .u8 bd] 5);have hsa:=hBb.size;go_wp2_with (at_builtin;refine zk _ rfl (.tmp 79) (.tmp 86) 82 rfl wq.heap.size 5 i0 (.int .u8 0) 1 1 Tryz.underlying82 hi hz0 hz1 hz2 rfl (by decide) _ _ _ rfl hOa ⟨wb.heap.size,0,none⟩ 1 1 [.int .u8 bd] rfl rfl HNW.out (by simp[Value.oneCell']) (by unfold maxLen;omega) (by omega) (by simp<;>omega) ?_);intro v_xe xe hown_xe hgrow_xe hblk_xe;have hB_xe:Below wq.heap.size wq xe:=hBa.grown hgrow_xe hBa.size (fun k e=>(hOa.lt k e).1);have hO_xe:xe.ownsRow wq.heap.size 5 1 v_xe (os2++[bd]).length ((os2++[bd]).map (Value.int .u8)):=by rw[List.length_append,List.map_append];exact hown_xe
              clear hown_xe hgrow_xe hblk_xe HNW hOa hBa hsa;go_wp2;go_roundw
              case rel=>exact⟨j+1,os2++[bd],hjT2.out,by congr 1;omega,HRL,by rw[List.length_append];simp;omega,hB_xe,hO_xe⟩
              case measure=>have:=HIW.out;simp[intOf]<;>omega
             ·have hdt:((i:Int) == -tz-1)=false:=by simpa using hdot
              have HRL:Hid (os++[bd]=j4 ng++zM ((yN y).take (j+1))):=by show _=_;rw[HSN.out,if_neg hdot,HOS.out];simp
              clear hdot HOS HSN qd0;have HA:=HAT wr hB;go_wp2_with fail;refine Calls.mono HA.out ?_;rintro _ wb ⟨rfl,bb⟩;rw[HDV.out];have hBb:Below wq.heap.size wq wb:=hB.trans (bb.mono hB.size);have hOb:wb.ownsRow wq.heap.size 5 1 _ os.length (os.map (Value.int .u8)):=owns_below hO bb;clear HA bb hO hB d0 d1 d2;have HNW:Hid _:=Zp wb bd;have hOa:(wb.alloc (.cells #[.int .u8 bd] 5)).ownsRow wq.heap.size 5 1 _ os.length (os.map (Value.int .u8)):=World.ownsRow.alloc hOb _;have hBa:=hBb.alloc hBb.size (.cells #[.int .u8 bd] 5);have hsa:=hBb.size;go_wp2_with (at_builtin;refine zk _ rfl (.tmp 79) (.tmp 86) 82 rfl wq.heap.size 5 i0 (.int .u8 0) 1 1 Tryz.underlying82 hi hz0 hz1 hz2 rfl (by decide) _ _ _ rfl hOa ⟨wb.heap.size,0,none⟩ 1 1 [.int .u8 bd] rfl rfl HNW.out (by simp[Value.oneCell']) (by unfold maxLen;omega) (by omega) (by simp<;>omega) ?_);intro v_xe xe hown_xe hgrow_xe hblk_xe;have hB_xe:Below wq.heap.size wq xe:=hBa.grown hgrow_xe hBa.size (fun k e=>(hOa.lt k e).1);have hO_xe:xe.ownsRow wq.heap.size 5 1 v_xe (os++[bd]).length ((os++[bd]).map (Value.int .u8)):=by rw[List.length_append,List.map_append];exact hown_xe
              clear hown_xe hgrow_xe hblk_xe HNW hOa hBa hsa;go_wp2;go_roundw
              case rel=>exact⟨j+1,os++[bd],hjT2.out,by congr 1;omega,HRL,by rw[List.length_append];simp;omega,hB_xe,hO_xe⟩
              case measure=>have:=HIW.out;simp[intOf]<;>omega
            ·have h8:¬ (0:Int)<=(T:Int)-1-(j:Int):=by omega
             have HRE:Hid (os=j4 ng++zM (yN y)):=by show _=_;rw[HOS.out,List.take_of_length_le (by rw[HDL.out];omega)]
             clear HOS;go_wp2_with fail;go_meet;exact⟨os,HRE,by omega,hB,hO⟩
         case rest =>
          as_aux_lemma =>
           clear HS1;obtain⟨os,HOS,hol,HS2⟩:=hcut;have hown:=HS2.out.2;have hne:os≠[]:=by intro h5;have h6:=X9 (yN y);rw[HDL.out] at h6;have h7:=HOS.out;rw[h5] at h7;have h8:=congrArg List.length h7;rw[List.length_append,List.length_nil] at h8;omega
           rcases hown.2 with ⟨_,hx⟩|⟨g,cap,cur,hv9,_⟩
           ·exact absurd (List.eq_nil_of_length_eq_zero hx) hne
           ·subst hv9;have hcv:(convert 82 9 (.slice (some ⟨g,0,none⟩) os.length cap)).run Tryz.prog wc=.ok (.string SS) wc:=by rw[<-HPS.out,HNE.out,<-HOS.out];exact run_convert_bytes_arg (P:=Tryz.prog) wc 82 5 Tryz.underlying82 Tryz.underlying5 g 0 os.length cap os rfl (fun i hi=>by rw[Nat.zero_add,hown.cellAt i (by omega)];simp[List.getElem?_eq_getElem hi]) 9 Tryz.underlying9
            have hBe:Below w.heap.size w wc:=hBr.trans (HS2.out.1.mono hBr.size);clear hown hne;generalize os.length=LN at *;go_wp2;go_ret;exact⟨rfl,hBe⟩
set_option maxHeartbeats 2000000
theorem asc_dec (n:Nat) (h:n<128) (t:List Nat):zO (n::t)=(n,1):=by
 have:=XB n (by unfold yU;omega) t;rw[Yk h] at this;exact this
theorem asc_xml : ∀ l : List Nat, (∀ x ∈ l, 32 ≤ x ∧ x < 128) → qJ l = true
  | [], _ => rfl
  | n :: t, h => by
    have hn := h n (by simp)
    have hd := asc_dec n hn.2 t
    rw [ko (by simp) (by rw [hd]; intro e; have := congrArg Prod.fst e; simp only at this; omega) (by rw [hd]; exact decide_eq_true (by omega)), hd]
    exact asc_xml t (fun x hx => h x (by simp [hx]))
theorem print_text {c e:Int} (hc:I64 c) (hw:zo e):yB (yY c e)=true:=by
 obtain⟨_,_,p3,p4⟩:=parse_txt c e hc hw;rw[print_txt c e hc hw];generalize kJ (zj c e)=l at p3 p4;unfold yB;rw[decide_eq_true (by rw[zG];omega),Bool.true_and];refine asc_xml _ (fun x hx => ?_);unfold zc at hx;rw[Xi] at hx;obtain⟨y,hy,rfl⟩:=List.mem_map.1 hx;rcases p4 y hy with rfl|rfl|h
 ·decide
 ·decide
 ·omega
theorem word_text (b:Bool):yB (x9 b)=true:=by cases b<;>kernel_rfl
theorem rvtext_any (v:Vl) (hc:I64 v.c) (w:World):Calls Tryz.prog 14 #[v.v] w fun r w'=>r=.returned (jd v).v/\Below w.heap.size w w':=by
 have hcc:∀c' e',zp v=vN c' e'->I64 c':=fun c' e' h=>by
  unfold zp at h;split at h
  ·rw[h] at hc;exact hc
  ·cases h
 have HT:∀ V,Hid (Calls Tryz.prog 50 #[v.v] V fun r w'=>r=.returned (zp v).v/\Below V.heap.size V w'):=fun V=>qm v hc V;obtain⟨u,hu⟩:∃u,zp v=u:=⟨_,rfl⟩;have hcs:=xJ v;unfold jd;rw[hu] at HT hcs hcc ⊢;have hhc:=hc;clear hu hc;obtain⟨k,c,e,s,b,x,hv⟩:=v.v_form;rw[hv] at HT ⊢;clear hv;have h0:=PR.start w #[.int .i64 k,.int .i64 c,.int .i64 e,.string s,.bool b,.int .i64 x] #[.int .i64 0,.int .i64 0,.int .i64 0,.string .empty,.bool false,.int .i64 0];rcases hcs with rfl|⟨c',e',rfl,hr⟩|⟨s',rfl,hr⟩|⟨b',rfl⟩|⟨x',rfl,hr⟩
 ·rw[XZ] at HT;clear hcc hhc;have HST:∀ V,Hid (Calls Tryz.prog 26 #[.string ⟨#[]⟩] V fun r w'=>r=.returned (.agg #[.int .i64 2,.int .i64 0,.int .i64 0,.string ⟨#[]⟩,.bool false,.int .i64 0])/\Below V.heap.size V w'):=fun V=>by have h:=kc ⟨#[]⟩ V;unfold jW at h;rw[show yB ⟨#[]⟩=true from by kernel_rfl] at h;exact h
  go_enter Tryz.func14,Tryz.ntmps14;go_wp2_with fail;refine Calls.mono (HT _).out ?_;rintro _ w1 ⟨rfl,b1⟩;have h1:=h0.next b1
  obtain⟨m0,m1,m2,m3,m4,m5⟩:=h1.1.six;have mf:=h1.1.frozen;have ml:=h1.1.lt;have h2:=h1.setP (.int .i64 0) (.int .i64 0) (.int .i64 0) (.string .empty) (.bool false) (.int .i64 0);obtain⟨n0,n1,n2,n3,n4,n5⟩:=h2.1.six;obtain⟨y0,y1,y2,y3,y4,y5⟩:=h2.2.1.six;have zf:=h2.2.1.frozen;have wl:=h2.2.1.lt;clear h0 b1 HT h1;go_wp2_with fail;refine Calls.mono (HST _).out ?_;rintro _ w2 ⟨rfl,b2⟩;have h3:=h2.next b2
  obtain⟨p0,p1,p2,p3,p4,p5⟩:=h3.2.1.six;have qf:=h3.2.1.frozen;have ql:=h3.2.1.lt;clear b2 n0 n1 n2 n3 n4 n5 y0 y1 y2 y3 y4 y5 zf wl HST;go_wp2;exact bodyPost_ret (zb rfl (g:=w.heap.size+1) rfl ((h3.setR _ _ _ _ _ _).res rfl)) rfl ⟨rfl,(h3.setR _ _ _ _ _ _).2.2⟩
 ·rw[YR] at HT;have hb:=hcc c' e' rfl;have HP:∀ V,Hid (Calls Tryz.prog 55 #[.agg #[.int .i64 c',.int .i64 e']] V fun r w'=>r=.returned (.string (yY c' e'))/\Below V.heap.size V w'):=fun V=>rprint_ok c' e' hb (xS hr) V _ rfl;have HST:∀ V,Hid (Calls Tryz.prog 26 #[.string (yY c' e')] V fun r w'=>r=.returned (.agg #[.int .i64 2,.int .i64 0,.int .i64 0,.string (yY c' e'),.bool false,.int .i64 0])/\Below V.heap.size V w'):=fun V=>by have h:=kc (yY c' e') V;unfold jW at h;rw[print_text hb (xS hr)] at h;exact h
  clear hcc hhc hr hb;go_enter Tryz.func14,Tryz.ntmps14;go_wp2_with fail;refine Calls.mono (HT _).out ?_;rintro _ w1 ⟨rfl,b1⟩;have h1:=h0.next b1
  obtain⟨m0,m1,m2,m3,m4,m5⟩:=h1.1.six;have mf:=h1.1.frozen;have ml:=h1.1.lt;have h2:=h1.setP (.int .i64 1) (.int .i64 c') (.int .i64 e') (.string .empty) (.bool false) (.int .i64 0);obtain⟨n0,n1,n2,n3,n4,n5⟩:=h2.1.six;obtain⟨y0,y1,y2,y3,y4,y5⟩:=h2.2.1.six;have zf:=h2.2.1.frozen;have wl:=h2.2.1.lt;clear h0 b1 HT h1;go_wp2_with fail;refine Calls.mono (HP _).out ?_;rintro _ w3 ⟨rfl,b3⟩;have h2':=h2.next b3
  clear b3 n0 n1 n2 n3 n4 n5 y0 y1 y2 y3 y4 y5 zf wl h2;go_wp2_with fail;refine Calls.mono (HST _).out ?_;rintro _ w2 ⟨rfl,b2⟩;have h3:=h2'.next b2
  obtain⟨p0,p1,p2,p3,p4,p5⟩:=h3.2.1.six;have qf:=h3.2.1.frozen;have ql:=h3.2.1.lt;clear b2 h2' HST;go_wp2;exact bodyPost_ret (zb rfl (g:=w.heap.size+1) rfl ((h3.setR _ _ _ _ _ _).res rfl)) rfl ⟨rfl,(h3.setR _ _ _ _ _ _).2.2⟩
 ·rw[vT_v] at HT;clear hcc hhc hr;go_enter Tryz.func14,Tryz.ntmps14;go_wp2_with fail;refine Calls.mono (HT _).out ?_;rintro _ w1 ⟨rfl,b1⟩;have h1:=h0.next b1
  obtain⟨m0,m1,m2,m3,m4,m5⟩:=h1.1.six;have mf:=h1.1.frozen;have ml:=h1.1.lt;have h2:=h1.setP (.int .i64 2) (.int .i64 0) (.int .i64 0) (.string s') (.bool false) (.int .i64 0);obtain⟨n0,n1,n2,n3,n4,n5⟩:=h2.1.six;obtain⟨y0,y1,y2,y3,y4,y5⟩:=h2.2.1.six;have zf:=h2.2.1.frozen;have wl:=h2.2.1.lt;clear h0 b1 HT h1;go_wp2;exact bodyPost_ret (zb rfl (g:=w.heap.size+1) rfl ((h2.setR _ _ _ _ _ _).res rfl)) rfl ⟨rfl,(h2.setR _ _ _ _ _ _).2.2⟩
 ·rw[Y7] at HT;clear hcc hhc;have HP:∀ V,Hid (Calls Tryz.prog 54 #[.bool b'] V fun r w'=>r=.returned (.string (x9 b'))/\Below V.heap.size V w'):=fun V=>(rword_any b' V).mono (fun r w h=>⟨h.1,by rw[h.2];exact Below.refl _ _⟩);have HST:∀ V,Hid (Calls Tryz.prog 26 #[.string (x9 b')] V fun r w'=>r=.returned (.agg #[.int .i64 2,.int .i64 0,.int .i64 0,.string (x9 b'),.bool false,.int .i64 0])/\Below V.heap.size V w'):=fun V=>by have h:=kc (x9 b') V;unfold jW at h;rw[word_text b'] at h;exact h
  go_enter Tryz.func14,Tryz.ntmps14;go_wp2_with fail;refine Calls.mono (HT _).out ?_;rintro _ w1 ⟨rfl,b1⟩;have h1:=h0.next b1
  obtain⟨m0,m1,m2,m3,m4,m5⟩:=h1.1.six;have mf:=h1.1.frozen;have ml:=h1.1.lt;have h2:=h1.setP (.int .i64 3) (.int .i64 0) (.int .i64 0) (.string .empty) (.bool b') (.int .i64 0);obtain⟨n0,n1,n2,n3,n4,n5⟩:=h2.1.six;obtain⟨y0,y1,y2,y3,y4,y5⟩:=h2.2.1.six;have zf:=h2.2.1.frozen;have wl:=h2.2.1.lt;clear h0 b1 HT h1;go_wp2_with fail;refine Calls.mono (HP _).out ?_;rintro _ w3 ⟨rfl,b3⟩;have h2':=h2.next b3
  clear b3 n0 n1 n2 n3 n4 n5 y0 y1 y2 y3 y4 y5 zf wl h2;go_wp2_with fail;refine Calls.mono (HST _).out ?_;rintro _ w2 ⟨rfl,b2⟩;have h3:=h2'.next b2
  obtain⟨p0,p1,p2,p3,p4,p5⟩:=h3.2.1.six;have qf:=h3.2.1.frozen;have ql:=h3.2.1.lt;clear b2 h2' HST;go_wp2;exact bodyPost_ret (zb rfl (g:=w.heap.size+1) rfl ((h3.setR _ _ _ _ _ _).res rfl)) rfl ⟨rfl,(h3.setR _ _ _ _ _ _).2.2⟩
 ·rw[XY] at HT;clear hcc hhc hr;go_enter Tryz.func14,Tryz.ntmps14;go_wp2_with fail;refine Calls.mono (HT _).out ?_;rintro _ w1 ⟨rfl,b1⟩;have h1:=h0.next b1
  obtain⟨m0,m1,m2,m3,m4,m5⟩:=h1.1.six;have mf:=h1.1.frozen;have ml:=h1.1.lt;have h2:=h1.setP (.int .i64 4) (.int .i64 0) (.int .i64 0) (.string .empty) (.bool false) (.int .i64 x');obtain⟨n0,n1,n2,n3,n4,n5⟩:=h2.1.six;obtain⟨y0,y1,y2,y3,y4,y5⟩:=h2.2.1.six;have zf:=h2.2.1.frozen;have wl:=h2.2.1.lt;clear h0 b1 HT h1;go_wp2;exact bodyPost_ret (zb rfl (g:=w.heap.size+1) rfl ((h2.setR _ _ _ _ _ _).res rfl)) rfl ⟨rfl,(h2.setR _ _ _ _ _ _).2.2⟩
end Go.Proofs.YtnhflnpjepiceaaGreatDoor
