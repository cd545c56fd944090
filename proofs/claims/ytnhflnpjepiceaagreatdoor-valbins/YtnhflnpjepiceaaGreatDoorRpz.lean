import Derived.Test.YtnhflnpjepiceaaGreatDoorPqzM
import Derived.Deep.CutBlock
import Derived.Deep.DeepCutAuto
namespace Go.Proofs.YtnhflnpjepiceaaGreatDoor
set_option maxRecDepth 100000
set_option maxHeartbeats 80000000
open Go.RowKit
structure PsAt (w : World) (E : Int) (wr : World) : Prop where
  rz : Row wr w.heap.size 23 #[.int .i64 0, .int .i64 0]
  rn : Row wr (w.heap.size + 1) 76 #[.bool false, .slice none 0 0, .int .i64 E]
  be : Below w.heap.size w wr
theorem PsAt.grown {w:World} {E:Int} {A W:World} {B:Nat} {v:Value} {n:Nat} {xs:List Value} (h:PsAt w E A) (hs:w.heap.size<=A.heap.size) (hB:B=w.heap.size) (ho:A.ownsRow B 3 1 v n xs) (hg:A.grownBy W v.ownBlock):PsAt w E W:=by
 subst hB;exact⟨yk h.rz ho hg (by decide),yk h.rn ho hg (by decide),yP h.be hs ho hg⟩
theorem PsAt.alloc {w:World} {E:Int} {A:World} (h:PsAt w E A) (o:Obj):PsAt w E (A.alloc o):=⟨h.rz.alloc o,h.rn.alloc o,h.be.alloc h.be.size o⟩
theorem PsAt.putE {w:World} {E:Int} {W:World} (h:PsAt w E W) (E':Int):PsAt w E' (W.setCell ⟨w.heap.size+1,2,none⟩ (.int .i64 E')):=⟨h.rz.kept ((Kept.refl (fun b=>b≠w.heap.size+1) W).setCell (p:=⟨w.heap.size+1,2,none⟩) (by simp) _) (by omega),Row.set 2 _ h.rn,za h.be 2 _ (by omega)⟩
theorem PsAt.own {w:World} {E:Int} {W:World} (h:PsAt w E W) {v:Value} {ds:List Int} (hO:yy w.heap.size W v ds) (i:Nat) (u:Value):yy w.heap.size (W.setCell ⟨w.heap.size+1,i,none⟩ u) v ds:=by
 have hne:=yq hO h.rn (by decide);exact yu hO ((Kept.refl (fun k=>k≠w.heap.size+1) W).setCell (p:=⟨w.heap.size+1,i,none⟩) (by simp) _) (fun k hk e=>hne (e ▸ hk))
theorem Row.triP {W:World} {B:Nat} {t:TypeId} {a b c:Value} (h:Row W B t #[a,b,c]):W.cell? ⟨B,0,none⟩=some a∧W.cell? ⟨B,1,none⟩=some b∧W.cell? ⟨B,2,none⟩=some c:=⟨h.cell rfl,h.cell rfl,h.cell rfl⟩
def isE : List UInt8 → Bool
  | [] => false
  | a :: _ => decide (a = 69) || decide (a = 101)
theorem expO_E {a:UInt8} {r dd rr:List UInt8} {mn:Bool} (ha:isE (a::r)=true) (hd:zI (jm r) zB=dd) (hr:x6 (jm r) zB=rr) (hm:Lib.hasPrefix r [45]=mn):qq (a::r)=if decide (1<=dd.length)&&decide (dd.length<=3)&&rr.isEmpty then ((if mn then -((yX dd:Nat):Int) else ((yX dd:Nat):Int)),true) else (0,false):=by
 have ha:(decide (a=69)||decide (a=101))=true:=ha;unfold qq ZW;simp only[List.isEmpty_cons,Bool.false_eq_true,if_false,ha,if_true,hd,hr,hm]
theorem expO_N {a:UInt8} {r:List UInt8} (ha:isE (a::r)=false):(qq (a::r)).2=false:=by
 have ha:(decide (a=69)||decide (a=101))=false:=ha;unfold qq ZW;simp only[List.isEmpty_cons,Bool.false_eq_true,if_false,ha]
theorem qB (a b:UInt8) (r:List UInt8):Lib.hasPrefix (a::r) [b]=(a==b):=by simp[Lib.hasPrefix,List.isPrefixOf];exact BEq.comm
theorem XV {a:UInt8} {n:Nat} (hn:n<256):((a.toNat:Int)==(n:Int))=(a==UInt8.ofNat n):=by
 by_cases h:a=UInt8.ofNat n
 ·subst h;have:(UInt8.ofNat n).toNat=n:=by simp;omega
  simp[this]
 ·have h2:(a==UInt8.ofNat n)=false:=by simpa using h
  rw[h2];simp only[beq_eq_false_iff_ne];intro e;exact h (UInt8.toNat_inj.1 (by simp;omega))
theorem exp_place {l r:List UInt8} {p:Nat} {mn sg:Bool} (h:PzAt l p r) (hm:Lib.hasPrefix r [45]=mn) (hs:(mn||Lib.hasPrefix r [43])=sg):PzAt l (if sg then p+1 else p) (jm r):=by
 subst hs hm;unfold jm;cases r with
 | nil=>exact h
 | cons b s =>
  have e1:=qB b 45 s;have e2:=qB b 43 s;obtain⟨_,_,h5⟩:=h.cons;by_cases hA:b=45
  ·subst hA;exact h5
  ·have hA2:(b==45)=false:=by simpa using hA
   rw[e1,hA2,if_neg (show ¬ (false=true) by simp),Bool.false_or];by_cases hB:b=43
   ·subst hB;exact h5
   ·have hB2:(b==43)=false:=by simpa using hB
    rw[e2,hB2,if_neg (show ¬ (false=true) by simp)];unfold Lib.trimPrefix;rw[e2,hB2];exact h
theorem YC {l2 pt l3:List UInt8} {okp:Bool} (h:x8 l2=(pt,l3,okp)):Dig pt:=by
 unfold x8 at h;split at h
 ·simp only[Prod.mk.injEq] at h;rw[<-h.1];exact jF _
 ·simp only[Prod.mk.injEq] at h;rw[<-h.1];intro b hb;simp at hb
theorem own_apart {B N:Nat} {W:World} {v:Value} {ds:List Int} (h:yy B W v ds) (hne:v.ownBlock≠some N):qa (fun b=>b<W.heap.size/\b≠N) W v ds:=by
 rcases h.2 with ⟨rfl,hx⟩|⟨g,cap,cur,rfl,h1,h2,_⟩
 ·have:ds=[]:=List.eq_nil_of_length_eq_zero hx;subst this;exact .inl ⟨rfl,_,_,rfl⟩
 ·refine .inr ⟨g,0,cap,rfl,⟨(Array.getElem?_eq_some_iff.1 h2).1,fun e=>hne (by rw[<-e];rfl)⟩,fun j hj => ?_⟩;have:=World.ownsRow.cellAt h j (by omega);rw[Nat.zero_add,this];simp[List.getElem?_eq_getElem hj]
theorem rev_take (ds:List Int) (m:Nat) (h:m<ds.length):ds.reverse.take (m+1)=ds.reverse.take m++[ds[ds.length-1-m]?.getD 0]:=by
 rw[List.take_succ_eq_append_getElem (by simpa using h),List.getElem_reverse,List.getElem?_eq_getElem (by omega),Option.getD_some]
def X1 : Value := .tuple #[dv 0 0, .int .i64 40]
theorem ZB {l l1 wh l2 pt l3:List UInt8} {okp:Bool} (htl:Lib.trimPrefix l [45]=l1) (hwh:zI l1 zB=wh) (hl2:x6 l1 zB=l2) (hpt:x8 l2=(pt,l3,okp)) (h:(!wh.isEmpty&&okp&&(qq l3).2)=false):j9 l=X1:=by
 unfold j9;have:(yc l).2=false:=by unfold yc;simp only[htl,hwh,hl2,hpt];exact h
 rw[this];simp[X1]
theorem dec_okR {l l1 wh l2 pt l3:List UInt8} {okp:Bool} (hl:(bs l).size<=255) (htl:Lib.trimPrefix l [45]=l1) (hwh:zI l1 zB=wh) (hl2:x6 l1 zB=l2) (hpt:x8 l2=(pt,l3,okp)) (h:(!wh.isEmpty&&okp&&(qq l3).2)=true):j9 l=yf (zu (if Lib.hasPrefix l [45] then -((xm (wh++pt):Nat):Int) else ((xm (wh++pt):Nat):Int)) ((qq l3).1-(pt.length:Int))):=by
 unfold j9;have:(yc l).2=true:=by unfold yc;simp only[htl,hwh,hl2,hpt];exact h
 rw[this,parsed_tell];rw[zG] at hl;rw[decide_eq_false (by omega)];simp only[Bool.not_true,Bool.or_self,Bool.false_eq_true,if_false];unfold wrZ wrE yc;simp only[htl,hwh,hl2,hpt]
theorem rparse_short (l:List UInt8) (hl:(bs l).size<=255) (w:World) (neg:Bool) (i0:Nat) (l1 wh l2:List UInt8) (pt l3:List UInt8) (okp:Bool) (HTL:Hid (Lib.trimPrefix l [45]=l1)) (HPT:Hid (x8 l2=(pt,l3,okp))) (HNG:Hid (Lib.hasPrefix l [45]=neg)) (HI0:Hid (i0=if neg then 1 else 0)) (HL1:Hid (PzAt l i0 l1)) (HWH:Hid (zI l1 zB=wh)) (HL2:Hid (x6 l1 zB=l2)):Calls Tryz.prog 51 #[.string (bs l)] w fun r w'=>r=.returned (j9 l)/\Below w.heap.size w w':=by
 obtain⟨i9,hi9,hzz⟩:=Option.map_eq_some_iff.1 Tryz.info3;simp only[Prod.mk.injEq] at hzz;obtain⟨hz0,hz1,hz2⟩:=hzz;have t1:¬ (255:Int)<((bs l).size:Int):=by omega
 obtain⟨res,HRES⟩:∃res,Hid (j9 l=res):=⟨_,rfl⟩;rw[HRES.out];go_enter Tryz.func51,Tryz.ntmps51;go_upto_region 5 with fail
 go_cut [6] (fun v6 wx=>v6=.bool neg/\Hid (PsAt w 0 wx))
 case first =>
  as_aux_lemma =>
   cases l with
   | nil =>
    have hn:neg=false:=by rw[<-HNG.out];rfl
    subst hn;have hs0:(((bs []).size:Nat):Int)=0:=rfl;go_wp2_with fail;go_meet;exact⟨rfl,⟨(Row.new w 23 _).alloc _,Row.new1 w _ 76 _,((Below.refl _ w).alloc (Nat.le_refl _) _).alloc (by simp) _⟩⟩
   | cons a r =>
    have h0:(0:Int)<(((bs (a::r)).size:Nat):Int):=by rw[zG];simp
    have h0n:0<(bs (a::r)).size:=by omega
    have hn:((((bs (a::r))[0]'h0n).toNat:Int)==45)=neg:=by
     rw[<-HNG.out];show ((a.toNat:Int)==45)=_;rw[show Lib.hasPrefix (a::r) [45]=(a==45) by simp[Lib.hasPrefix,List.isPrefixOf];exact BEq.comm];by_cases h:a=45
     ·subst h;rfl
     ·rw[beq_eq_false_iff_ne.2 h];simp only[beq_eq_false_iff_ne];intro e;exact h (UInt8.toNat_inj.1 (by rw[show (45:UInt8).toNat=45 from rfl];omega))
    go_wp2_with fail;go_meet;exact⟨rfl,⟨(Row.new w 23 _).alloc _,Row.new1 w _ 76 _,((Below.refl _ w).alloc (Nat.le_refl _) _).alloc (by simp) _⟩⟩
 case rest =>
  obtain⟨rfl,HPS⟩:=hcut;go_upto_if 25 with fail
  go_cut [5] (fun v5 wx=>v5=.int .i64 (i0:Int)/\Hid (PsAt w 0 wx))
  case first =>
   as_aux_lemma =>
    cases neg with
    | false =>
     obtain rfl:i0=0:=HI0.out;go_wp2_with fail;go_meet;exact⟨rfl,HPS⟩
    | true =>
     obtain rfl:i0=1:=HI0.out;go_wp2_with fail;go_meet;exact⟨rfl,HPS⟩
  case rest =>
   clear HPS;obtain⟨rfl,HPS⟩:=hcut;have hdg:∀(x:UInt8) (W:World),Hid (Calls Tryz.prog 92 #[.int .u8 (x.toNat:Int)] W fun e w'=>e=.returned (.bool (zB.contains x))/\w'=W):=fun x W=>digit_any x W;have hp1:=HL1.out;obtain⟨p1,hp1e⟩:∃p1,i0+wh.length=p1:=⟨_,rfl⟩;have HP1:Hid (i0+wh.length=p1):=hp1e;have HL2a:Hid (PzAt l p1 l2):=by have:=hp1;rw[<-yR l1 zB,HWH.out,HL2.out] at this;have:=this.app;rwa [HP1.out] at this
   have p1s:p1<=(bs l).size:=HL2a.out.le;have HAT:Hid (∀j:Nat,j<wh.length->∃hi:i0+j<(bs l).size,∃hw:j<wh.length,(bs l)[i0+j]=wh[j]/\zB.contains wh[j]=true):=by intro j hj;have h5:=hp1;rw[<-yR l1 zB,HWH.out] at h5;obtain⟨hi,h6⟩:=h5.nth j (by rw[List.length_append];omega);refine⟨hi,hj,by rw[h6,List.getElem_append_left hj],xK (l:=l1) ?_⟩;rw[HWH.out];exact List.getElem_mem hj
   have HNX:Hid (p1=(bs l).size\/∃hi:p1<(bs l).size,zB.contains (bs l)[p1]=false):=by
    cases hl2:l2 with
    | nil=>rw[hl2] at HL2a;exact .inl HL2a.out.nil
    | cons a r =>
     rw[hl2] at HL2a;obtain⟨hi,h6,_⟩:=HL2a.out.cons;exact .inr ⟨hi,by rw[h6];exact YP (HL2.out.trans hl2)⟩
   clear hp1 hp1e;go_upto_block 0 with fail
   go_cut [5,7] (fun v5 v7 wx=>v5=.int .i64 (p1:Int)/\Hid (PsAt w 0 wx/\yy w.heap.size wx v7 (dgI wh)))
   case first =>
    as_aux_lemma =>
     go_wp2_with fail;go_loopw [5,7] (fun v5 v7 wr=>∃k j:Nat,j<=wh.length/\v5=.int .i64 (k:Int)/\k<=255/\Hid (k=i0+j)/\yy w.heap.size wr v7 (dgI (wh.take j))/\PsAt w 0 wr) (fun v5 _ _=>300-(intOf v5).toNat)
     case atStart=>exact⟨i0,0,Nat.zero_le _,rfl,by have:=HP1.out;omega,rfl,World.ownsRow_nil _ _ _ _,HPS.out⟩
     case round =>
      clear HPS;obtain⟨k,j,hj,rfl,hk,HK,hO,hP⟩:=hrel;by_cases hjl:j<wh.length
      ·obtain⟨hi,hw,hc,hcd⟩:=HAT.out j hjl;have HKs:Hid (k+1<=255):=by have h1:=HK.out;have h2:=HP1.out;show _<=_;omega
       have hkl:k<(bs l).size:=by rw[HK.out];exact hi
       have hc2:(bs l)[k]=wh[j]:=by rw[<-hc];congr 1<;>exact HK.out
       obtain⟨b,hb⟩:∃b,(bs l)[k]=b:=⟨_,rfl⟩;have HD:=hdg b wr;rw[show zB.contains b=true by rw[<-hb,hc2];exact hcd] at HD;have hbd:=yZ (b:=b) (by rw[<-hb,hc2];exact hcd);obtain⟨x,hx⟩:∃x:Nat,b.toNat=x:=⟨_,rfl⟩;rw[hx] at hbd HD;obtain⟨d,hd⟩:∃d:Int,(x:Int)-48=d:=⟨_,rfl⟩;have hd9:0<=d/\d<=9:=by omega
       have w1:IntKind.u8.wrap ((x:Int)-48)=d:=by rw[hd];simp[IntKind.wrap_u8]<;>omega
       have HSN:Hid ((dgI (wh.take (j+1)))=(dgI (wh.take j))++[d]):=by show _=_;rw[dgI_take wh j hjl];rw[<-hd,<-hx,<-hb,hc2]
       have hix:((bs l)[k]'hkl).toNat=x:=by rw[hb];exact hx
       have hdl:(dgI (wh.take j)).length<=600:=by unfold dgI;rw[List.length_map,List.length_take];have h1:=HK.out;omega
       have HJ:Hid (j<wh.length):=hjl;generalize (dgI (wh.take j))=ds at *;clear hc hcd hc2 hb hx hd hw hi hj hjl;obtain⟨gu,cu,rfl⟩:=hO.form;have hBs:=hP.be.size;have HNW:Hid _:=qr wr d;have hO1:(wr.alloc (.cells #[.int .i64 d] 3)).ownsRow w.heap.size 3 1 (.slice gu ds.length cu) ds.length (ds.map (Value.int .i64)):=World.ownsRow.alloc hO _;have HP2:Hid (PsAt w 0 (wr.alloc (.cells #[.int .i64 d] 3))):=hP.alloc _;clear hO hP;go_wp2_with fail;refine Calls.mono HD.out ?_;rintro _ w5 ⟨rfl,hw5⟩;rw[hw5];clear hw5 w5 HD;go_wp2_with (at_builtin;refine zk _ rfl (.tmp 37) (.tmp 43) 71 rfl w.heap.size 3 i9 (.int .i64 0) 1 8 Tryz.underlying71 hi9 hz0 hz1 hz2 rfl (by decide) _ _ _ rfl hO1 ⟨wr.heap.size,0,none⟩ 1 1 [.int .i64 d] rfl rfl HNW.out (by simp[Value.oneCell']) (by unfold maxLen;omega) (by omega) (by simp;omega) ?_);intro v1 x1 hown1 hgrow1 hblk1;have hP3:=HP2.out.grown (by simp;omega) rfl hO1 hgrow1;have hO2:=yy.snoc hown1;clear hown1 hgrow1 hblk1 HP2 hO1;go_wp2;go_roundw
       case rel=>exact⟨k+1,j+1,HJ.out,by go_num,HKs.out,by have:=HK.out;show _=_;omega,by rw[HSN.out];exact hO2,hP3⟩
       case measure=>have:=HKs.out;simp[intOf];omega
      ·obtain rfl:j=wh.length:=by omega
       rw[List.take_length] at hO;obtain rfl:k=p1:=by rw[HK.out];exact HP1.out
       have HPO:Hid (PsAt w 0 wr/\yy w.heap.size wr _ (dgI wh)):=⟨hP,hO⟩;clear hP hO;rcases HNX.out with h6|⟨hi,h6⟩
       ·have h7:¬ (k:Int)<((bs l).size:Int):=by omega
        clear h6;go_wp2_with fail;go_meet;exact⟨rfl,HPO⟩
       ·have h7:(k:Int)<((bs l).size:Int):=by omega
        have HD:=hdg ((bs l)[k]'hi) wr;rw[h6] at HD;go_wp2_with fail;refine Calls.mono HD.out ?_;rintro _ w5 ⟨rfl,hw5⟩;rw[hw5];clear hw5 w5 HD;go_wp2_with fail;go_meet;exact⟨rfl,HPO⟩
   case rest =>
    clear HPS;obtain⟨rfl,HPO⟩:=hcut;cases hwe:wh with
    | nil =>
     have HV:Hid (res=X1):=by show _=_;rw[<-HRES.out];exact ZB HTL.out HWH.out HL2.out HPT.out (by rw[hwe];rfl)
     obtain rfl:i0=p1:=by have:=HP1.out;rw[hwe] at this;simpa using this
     have hPS:=HPO.out.1;have hZe:=Row.set2 hPS.rz (.int .i64 0) (.int .i64 0);have hBe:=za (za hPS.be (B:=w.heap.size) 0 (.int .i64 0) (Nat.le_refl _)) (B:=w.heap.size) 1 (.int .i64 0) (Nat.le_refl _);have zl:=hPS.rz.lt;have zf:=hPS.rz.frozen;obtain⟨z0,z1⟩:=hPS.rz.duo;go_wp2_with fail;exact bodyPost_ret (zd rfl (g:=w.heap.size) rfl rfl (zm hZe rfl)) rfl ⟨by rw[HV.out];rfl,hBe⟩
    | cons wa wr0 =>
     have hne:((p1:Int)==(i0:Int))=false:=by have:=HP1.out;rw[hwe,List.length_cons] at this;simp;omega
     have HWN:Hid ((!wh.isEmpty)=true):=by show _=_;rw[hwe];rfl
     clear hwe wa wr0;obtain⟨pb,HPB⟩:∃pb,Hid (Lib.hasPrefix l2 [46]=pb):=⟨_,rfl⟩;go_upto_region 15 with fail
     go_cut [60] (fun v60 wx=>v60=.bool pb/\wc=wx)
     case first =>
      as_aux_lemma =>
       cases hl2:l2 with
       | nil =>
        rw[hl2] at HL2a;have h7:¬ (p1:Int)<((bs l).size:Int):=by have:=HL2a.out.nil;omega
        go_wp2_with fail;go_meet;exact⟨by rw[<-HPB.out,hl2];rfl,rfl⟩
       | cons a r =>
        rw[hl2] at HL2a;obtain⟨hi,h6,_⟩:=HL2a.out.cons;have h7:(p1:Int)<((bs l).size:Int):=by omega
        go_wp2_with fail;go_meet;exact⟨by rw[<-HPB.out,hl2,qB];exact congrArg Value.bool (XV (n:=46) (by omega)),rfl⟩
     case rest =>
      obtain⟨rfl,rfl⟩:=hcut;go_upto_if 60 with fail
      go_cut [5,7,8] (fun v5 v7 v8 wx=>∃p3:Nat,v5=.int .i64 (p3:Int)/\wh.length+pt.length<=255/\Hid (okp=true/\PzAt l p3 l3/\PsAt w (-(pt.length:Int)) wx/\yy w.heap.size wx v7 (dgI (wh++pt))))
      case first =>
       as_aux_lemma =>
        cases pb with
        | false =>
         have hpt:=HPT.out;unfold x8 at hpt;rw[HPB.out,if_neg (by simp)] at hpt;simp only[Prod.mk.injEq] at hpt;obtain⟨rfl,rfl,rfl⟩:=hpt;go_wp2_with fail;go_meet;exact⟨p1,rfl,by have:=HP1.out;simp;omega,rfl,HL2a.out,HPO.out.1,by rw[List.append_nil];exact HPO.out.2⟩
        | true =>
         obtain⟨r,rfl⟩:∃r,l2=46::r:=by
          cases hl2:l2 with
          | nil=>rw[hl2] at HPB;exact absurd HPB.out (by decide)
          | cons a r =>
           rw[hl2,qB] at HPB;have:a=46:=by simpa using HPB.out
           exact⟨r,by rw[this]⟩
         have hpt:=HPT.out;unfold x8 at hpt;rw[HPB.out,if_pos rfl,show Lib.trimPrefix (46::r) [46]=r from rfl] at hpt;simp only[Prod.mk.injEq] at hpt;obtain⟨hpa,hpb,hpc⟩:=hpt;have HPA:Hid (zI r zB=pt):=hpa;have HPBh:Hid (x6 r zB=l3):=hpb;have HPC:Hid ((!pt.isEmpty)=okp):=by rw[<-hpa];exact hpc
         clear hpa hpb hpc;obtain⟨hi1,h61,hr1⟩:=HL2a.out.cons;have h71:(p1:Int)+1<=255:=by omega
         obtain⟨p2,hp2⟩:∃p2,p1+1=p2:=⟨_,rfl⟩;have HP2e:Hid (p1+1=p2):=hp2;have w12:(p1:Int)+1=(p2:Int):=by omega
         have HLr:Hid (PzAt l p2 r):=by rw[hp2] at hr1;exact hr1
         clear hr1 hi1 h61 hp2;have hp1:=HLr.out;obtain⟨p3,hp1e⟩:∃p1,p2+pt.length=p1:=⟨_,rfl⟩;have HP3:Hid (p2+pt.length=p3):=hp1e;have HL3a:Hid (PzAt l p3 l3):=by have:=hp1;rw[<-yR r zB,HPA.out,HPBh.out] at this;have:=this.app;rwa [HP3.out] at this
         have p3s:p3<=(bs l).size:=HL3a.out.le;have HAT2:Hid (∀j:Nat,j<pt.length->∃hi:p2+j<(bs l).size,∃hw:j<pt.length,(bs l)[p2+j]=pt[j]/\zB.contains pt[j]=true):=by intro j hj;have h5:=hp1;rw[<-yR r zB,HPA.out] at h5;obtain⟨hi,h6⟩:=h5.nth j (by rw[List.length_append];omega);refine⟨hi,hj,by rw[h6,List.getElem_append_left hj],xK (l:=r) ?_⟩;rw[HPA.out];exact List.getElem_mem hj
         have HNX2:Hid (p3=(bs l).size\/∃hi:p3<(bs l).size,zB.contains (bs l)[p3]=false):=by
          cases hl2:l3 with
          | nil=>rw[hl2] at HL3a;exact .inl HL3a.out.nil
          | cons a r =>
           rw[hl2] at HL3a;obtain⟨hi,h6,_⟩:=HL3a.out.cons;exact .inr ⟨hi,by rw[h6];exact YP (HPBh.out.trans hl2)⟩
         clear hp1 hp1e;go_upto_block 2 with fail
         go_cut [5,7] (fun v5 v7 wx=>v5=.int .i64 (p3:Int)/\Hid (PsAt w (-(pt.length:Int)) wx/\yy w.heap.size wx v7 (dgI wh++dgI pt)))
         case first =>
          as_aux_lemma =>
           go_wp2_with fail;go_loopw [5,7] (fun v5 v7 wr=>∃k j:Nat,j<=pt.length/\v5=.int .i64 (k:Int)/\k<=255/\Hid (k=p2+j)/\yy w.heap.size wr v7 (dgI wh++dgI (pt.take j))/\PsAt w (-(j:Int)) wr) (fun v5 _ _=>300-(intOf v5).toNat)
           case atStart=>exact⟨p2,0,Nat.zero_le _,rfl,by have:=HP3.out;omega,rfl,by simpa [dgI] using HPO.out.2,by simpa using HPO.out.1⟩
           case round =>
            clear HPO;obtain⟨k,j,hj,rfl,hk,HK,hO,hP⟩:=hrel;by_cases hjl:j<pt.length
            ·obtain⟨hi,hw,hc,hcd⟩:=HAT2.out j hjl;have HKs:Hid (k+1<=255):=by have h1:=HK.out;have h2:=HP3.out;show _<=_;omega
             have hkl:k<(bs l).size:=by rw[HK.out];exact hi
             have hc2:(bs l)[k]=pt[j]:=by rw[<-hc];congr 1<;>exact HK.out
             obtain⟨b,hb⟩:∃b,(bs l)[k]=b:=⟨_,rfl⟩;have HD:=hdg b wr;rw[show zB.contains b=true by rw[<-hb,hc2];exact hcd] at HD;have hbd:=yZ (b:=b) (by rw[<-hb,hc2];exact hcd);obtain⟨x,hx⟩:∃x:Nat,b.toNat=x:=⟨_,rfl⟩;rw[hx] at hbd HD;obtain⟨d,hd⟩:∃d:Int,(x:Int)-48=d:=⟨_,rfl⟩;have hd9:0<=d/\d<=9:=by omega
             have w1:IntKind.u8.wrap ((x:Int)-48)=d:=by rw[hd];simp[IntKind.wrap_u8]<;>omega
             have HSN:Hid ((dgI wh++dgI (pt.take (j+1)))=(dgI wh++dgI (pt.take j))++[d]):=by show _=_;rw[dgI_take pt j hjl,List.append_assoc];rw[<-hd,<-hx,<-hb,hc2]
             have hix:((bs l)[k]'hkl).toNat=x:=by rw[hb];exact hx
             have hdl:(dgI wh++dgI (pt.take j)).length<=600:=by rw[List.length_append];unfold dgI;rw[List.length_map,List.length_map,List.length_take];have h1:=HK.out;have h2:=HP1.out;omega
             have HJ:Hid (j<pt.length):=hjl;generalize (dgI wh++dgI (pt.take j))=ds at *;clear hc hcd hc2 hb hx hd hw hi hj hjl;obtain⟨gu,cu,rfl⟩:=hO.form;have hBs:=hP.be.size;have HNW:Hid _:=qr wr d;have hO1:(wr.alloc (.cells #[.int .i64 d] 3)).ownsRow w.heap.size 3 1 (.slice gu ds.length cu) ds.length (ds.map (Value.int .i64)):=World.ownsRow.alloc hO _;have HP2:Hid (PsAt w (-(j:Int)) (wr.alloc (.cells #[.int .i64 d] 3))):=hP.alloc _;clear hO hP;go_wp2_with fail;refine Calls.mono HD.out ?_;rintro _ w5 ⟨rfl,hw5⟩;rw[hw5];clear hw5 w5 HD;go_wp2_with (at_builtin;refine zk _ rfl (.tmp 74) (.tmp 80) 71 rfl w.heap.size 3 i9 (.int .i64 0) 1 8 Tryz.underlying71 hi9 hz0 hz1 hz2 rfl (by decide) _ _ _ rfl hO1 ⟨wr.heap.size,0,none⟩ 1 1 [.int .i64 d] rfl rfl HNW.out (by simp[Value.oneCell']) (by unfold maxLen;omega) (by omega) (by simp;omega) ?_);intro v1 x1 hown1 hgrow1 hblk1;have hP3:=HP2.out.grown (by simp;omega) rfl hO1 hgrow1;have hO2:=yy.snoc hown1;clear hown1 hgrow1 hblk1 HP2 hO1;obtain⟨f0,f1,f2⟩:=hP3.rn.triP;have ff:=hP3.rn.frozen;have hjb:(j:Int)<=255:=by have h1:=HJ.out;have h2:=HP3.out;omega
             have hP4:=hP3.putE (-((j+1:Nat):Int));have hO4:=hP3.own hO2 2 (.int .i64 (-((j+1:Nat):Int)));have e5 : -(j:Int)-1 = -((j+1:Nat):Int):=by omega
             have HPO4:Hid (PsAt w (-((j+1:Nat):Int)) (x1.setCell ⟨w.heap.size+1,2,none⟩ (.int .i64 (-(j:Int)-1)))/\yy w.heap.size (x1.setCell ⟨w.heap.size+1,2,none⟩ (.int .i64 (-(j:Int)-1))) v1 (ds++[d])):=by rw[e5];exact⟨hP4,hO4⟩
             clear hP4 hO4 hP3 hO2 e5;go_wp2;go_roundw
             case rel=>exact⟨k+1,j+1,HJ.out,by go_num,HKs.out,by have:=HK.out;show _=_;omega,by rw[HSN.out];exact HPO4.out.2,HPO4.out.1⟩
             case measure=>have:=HKs.out;simp[intOf];omega
            ·obtain rfl:j=pt.length:=by omega
             rw[List.take_length] at hO;obtain rfl:k=p3:=by rw[HK.out];exact HP3.out
             have HPO:Hid (PsAt w (-(pt.length:Int)) wr/\yy w.heap.size wr _ (dgI wh++dgI pt)):=⟨hP,hO⟩;clear hP hO;rcases HNX2.out with h6|⟨hi,h6⟩
             ·have h7:¬ (k:Int)<((bs l).size:Int):=by omega
              clear h6;go_wp2_with fail;go_meet;exact⟨rfl,HPO⟩
             ·have h7:(k:Int)<((bs l).size:Int):=by omega
              have HD:=hdg ((bs l)[k]'hi) wr;rw[h6] at HD;go_wp2_with fail;refine Calls.mono HD.out ?_;rintro _ w5 ⟨rfl,hw5⟩;rw[hw5];clear hw5 w5 HD;go_wp2_with fail;go_meet;exact⟨rfl,HPO⟩
         case rest =>
          clear HPO;obtain⟨rfl,HPO⟩:=hcut;cases hpe:pt with
          | nil =>
           have HV:Hid (res=X1):=by show _=_;rw[<-HRES.out];exact ZB HTL.out HWH.out HL2.out HPT.out (by rw[<-HPC.out,hpe];simp)
           obtain rfl:p2=p3:=by have:=HP3.out;rw[hpe] at this;simpa using this
           have hPS:=HPO.out.1;have hZe:=Row.set2 hPS.rz (.int .i64 0) (.int .i64 0);have hBe:=za (za hPS.be (B:=w.heap.size) 0 (.int .i64 0) (Nat.le_refl _)) (B:=w.heap.size) 1 (.int .i64 0) (Nat.le_refl _);have zl:=hPS.rz.lt;have zf:=hPS.rz.frozen;obtain⟨z0,z1⟩:=hPS.rz.duo;go_wp2_with fail;exact bodyPost_ret (zd rfl (g:=w.heap.size) rfl rfl (zm hZe rfl)) rfl ⟨by rw[HV.out];rfl,hBe⟩
          | cons wa wr0 =>
           have hne:((p3:Int)==(p2:Int))=false:=by have:=HP3.out;rw[hpe,List.length_cons] at this;simp;omega
           have HOK:Hid (okp=true):=by show _=_;rw[<-HPC.out,hpe];rfl
           clear hpe wa wr0;go_wp2_with fail;go_meet;exact⟨p3,rfl,by have h1:=HP3.out;have h2:=HP2e.out;have h3:=HP1.out;omega,HOK.out,HL3a.out,HPO.out.1,by rw[dgI_app];exact HPO.out.2⟩
      case rest =>
       clear HPO HP1 HL2a HAT HNX p1s hne;clear p1;obtain⟨p3,rfl,hptl,HP⟩:=hcut;have h3s:p3<=(bs l).size:=HP.out.2.1.le;obtain⟨eb,HEB⟩:∃eb,Hid (isE l3=eb):=⟨_,rfl⟩;go_upto_region 24 with fail
       go_cut [107] (fun v107 wx=>v107=.bool eb/\wc=wx)
       case first =>
        as_aux_lemma =>
         cases hl3:l3 with
         | nil =>
          have h7:¬ (p3:Int)<((bs l).size:Int):=by have:=HP.out.2.1;rw[hl3] at this;have:=this.nil;omega
          rw[hl3] at HEB;obtain rfl:false=eb:=HEB.out;go_wp2_with fail;go_meet;exact⟨rfl,rfl⟩
         | cons a r =>
          obtain⟨hi,h6,_⟩:∃hi:p3<(bs l).size,(bs l)[p3]=a/\PzAt l (p3+1) r:=by have:=HP.out.2.1;rw[hl3] at this;exact this.cons
          have h7:(p3:Int)<((bs l).size:Int):=by omega
          rw[hl3] at HEB;have heb:(decide (a=69)||decide (a=101))=eb:=HEB.out;by_cases hA:a=101
          ·obtain rfl:true=eb:=by rw[<-heb,hA];rfl
           have c1:((a.toNat:Int)==101)=true:=by rw[hA];rfl
           clear heb;go_wp2_with fail;go_meet;exact⟨rfl,rfl⟩
          ·have c1:((a.toNat:Int)==101)=false:=(XV (a:=a) (n:=101) (by omega)).trans (by simpa using hA);by_cases hB:a=69
           ·obtain rfl:true=eb:=by rw[<-heb,hB];rfl
            have c2:((a.toNat:Int)==69)=true:=by rw[hB];rfl
            clear heb;go_wp2_with fail;go_meet;exact⟨rfl,rfl⟩
           ·obtain rfl:false=eb:=by rw[<-heb,decide_eq_false hA,decide_eq_false hB];rfl
            have c2:((a.toNat:Int)==69)=false:=(XV (a:=a) (n:=69) (by omega)).trans (by simpa using hB);clear heb;go_wp2_with fail;go_meet;exact⟨rfl,rfl⟩
       case rest =>
        obtain⟨rfl,rfl⟩:=hcut;go_upto_if 107 with fail
        go_cut [5,8,9,10] (fun v5 v8 v9 v10 wx=>∃(p6:Nat) (E:Int) (l5:List UInt8),v5=.int .i64 (p6:Int) /\ -2000<=E/\E<=2000/\Hid (PzAt l p6 l5/\(l5=[]->(qq l3).2=true/\E=(qq l3).1-(pt.length:Int))/\(l5≠[]->(qq l3).2=false)/\PsAt w E wx/\yy w.heap.size wx u7 (dgI (wh++pt))))
        case first =>
         as_aux_lemma =>
          cases eb with
          | false =>
           go_wp2_with fail;go_meet;refine⟨p3,-(pt.length:Int),l3,rfl,by omega,by omega,HP.out.2.1,fun h => ?_,fun h => ?_,HP.out.2.2.1,HP.out.2.2.2⟩
           ·rw[h];exact⟨rfl,by simp[qq]⟩
           ·cases hl3:l3 with
            | nil=>exact absurd hl3 h
            | cons a r =>
             rw[hl3] at HEB;exact expO_N HEB.out
          | true =>
           obtain⟨a,r,hl3⟩:∃a r,l3=a::r:=by
            cases hl3:l3 with
            | nil=>rw[hl3] at HEB;exact absurd HEB.out (by decide)
            | cons a r=>exact⟨a,r,rfl⟩
           have HL3:Hid (l3=a::r):=hl3;obtain⟨hi,h6,hz⟩:∃hi:p3<(bs l).size,(bs l)[p3]=a/\PzAt l (p3+1) r:=by have:=HP.out.2.1;rw[hl3] at this;exact this.cons
           obtain⟨p4,hp4⟩:∃p4,p3+1=p4:=⟨_,rfl⟩;rw[hp4] at hz;have HL4:Hid (PzAt l p4 r):=hz;have w4:(p3:Int)+1=(p4:Int):=by omega
           have h4s:p4<=(bs l).size:=hz.le;obtain⟨mn,HMN⟩:∃mn,Hid (Lib.hasPrefix r [45]=mn):=⟨_,rfl⟩;obtain⟨sg,HSG⟩:∃sg,Hid ((mn||Lib.hasPrefix r [43])=sg):=⟨_,rfl⟩;have h3b:(p3:Int)<=255:=by omega
           clear hi h6 hz hl3 hp4;go_upto_region 26 with fail
           go_cut [9] (fun v9 wx=>v9=.bool mn/\wc=wx)
           case first =>
            as_aux_lemma =>
             cases hr:r with
             | nil =>
              have h7:¬ (p4:Int)<((bs l).size:Int):=by have:=HL4.out;rw[hr] at this;have:=this.nil;omega
              obtain rfl:false=mn:=by rw[<-HMN.out,hr];rfl
              go_wp2_with fail;go_meet;exact⟨rfl,rfl⟩
             | cons b s =>
              obtain⟨hi,h6,_⟩:∃hi:p4<(bs l).size,(bs l)[p4]=b/\PzAt l (p4+1) s:=by have:=HL4.out;rw[hr] at this;exact this.cons
              have h7:(p4:Int)<((bs l).size:Int):=by omega
              go_wp2_with fail;go_meet;exact⟨by rw[<-HMN.out,hr,qB];exact congrArg Value.bool (XV (n:=45) (by omega)),rfl⟩
           case rest =>
            obtain⟨rfl,rfl⟩:=hcut;go_upto_region 27 with fail
            go_cut [135] (fun v135 wx=>v135=.bool sg/\wc=wx)
            case first =>
             as_aux_lemma =>
              cases hr:r with
              | nil =>
               have h7:¬ (p4:Int)<((bs l).size:Int):=by have:=HL4.out;rw[hr] at this;have:=this.nil;omega
               obtain rfl:false=sg:=by rw[<-HSG.out,<-HMN.out,hr];rfl
               go_wp2_with fail;go_meet;exact⟨rfl,rfl⟩
              | cons b s =>
               obtain⟨hi,h6,_⟩:∃hi:p4<(bs l).size,(bs l)[p4]=b/\PzAt l (p4+1) s:=by have:=HL4.out;rw[hr] at this;exact this.cons
               have h7:(p4:Int)<((bs l).size:Int):=by omega
               have hsg:((b==45)||(b==43))=sg:=by rw[<-HSG.out,<-HMN.out,hr,qB,qB]
               by_cases hA:b=45
               ·obtain rfl:true=sg:=by rw[<-hsg,hA];rfl
                have c1:((b.toNat:Int)==45)=true:=by rw[hA];rfl
                clear hsg;go_wp2_with fail;go_meet;exact⟨rfl,rfl⟩
               ·have c1:((b.toNat:Int)==45)=false:=(XV (a:=b) (n:=45) (by omega)).trans (by simpa using hA);have hA2:(b==45)=false:=by simpa using hA
                rw[hA2,Bool.false_or] at hsg;have c2:((b.toNat:Int)==43)=sg:=(XV (a:=b) (n:=43) (by omega)).trans hsg;clear hsg hA2;go_wp2_with fail;go_meet;exact⟨rfl,rfl⟩
            case rest =>
             obtain⟨rfl,rfl⟩:=hcut;obtain⟨p5,HP5⟩:∃p5,Hid ((if sg then p4+1 else p4)=p5):=⟨_,rfl⟩;obtain⟨X,HX⟩:∃ X,Hid (jm r=X):=⟨_,rfl⟩;have HLX:Hid (PzAt l p5 X):=by show PzAt l p5 X;rw[<-HP5.out,<-HX.out];exact exp_place HL4.out HMN.out HSG.out
             go_upto_if 135 with fail
             go_cut [5] (fun v5 wx=>v5=.int .i64 (p5:Int)/\wc=wx)
             case first =>
              as_aux_lemma =>
               have h4b:(p4:Int)<=255:=by omega
               cases sg with
               | false =>
                obtain rfl:p4=p5:=HP5.out;go_wp2_with fail;go_meet;exact⟨rfl,rfl⟩
               | true =>
                have hp5:p4+1=p5:=HP5.out;have w5:(p4:Int)+1=(p5:Int):=by omega
                clear hp5;go_wp2_with fail;go_meet;exact⟨rfl,rfl⟩
             case rest =>
              obtain⟨rfl,rfl⟩:=hcut;have h5s:p5<=(bs l).size:=HLX.out.le;obtain⟨dd,HDD⟩:∃dd,Hid (zI X zB=dd):=⟨_,rfl⟩;obtain⟨rr,HRR⟩:∃rr,Hid (x6 X zB=rr):=⟨_,rfl⟩;have hp1:=HLX.out;obtain⟨p6,hp1e⟩:∃p1,p5+dd.length=p1:=⟨_,rfl⟩;have HP6:Hid (p5+dd.length=p6):=hp1e;have HL6a:Hid (PzAt l p6 rr):=by have:=hp1;rw[<-yR X zB,HDD.out,HRR.out] at this;have:=this.app;rwa [HP6.out] at this
              have p6s:p6<=(bs l).size:=HL6a.out.le;have HAT3:Hid (∀j:Nat,j<dd.length->∃hi:p5+j<(bs l).size,∃hw:j<dd.length,(bs l)[p5+j]=dd[j]/\zB.contains dd[j]=true):=by intro j hj;have h5:=hp1;rw[<-yR X zB,HDD.out] at h5;obtain⟨hi,h6⟩:=h5.nth j (by rw[List.length_append];omega);refine⟨hi,hj,by rw[h6,List.getElem_append_left hj],xK (l:=X) ?_⟩;rw[HDD.out];exact List.getElem_mem hj
              have HNX3:Hid (p6=(bs l).size\/∃hi:p6<(bs l).size,zB.contains (bs l)[p6]=false):=by
               cases hl2:rr with
               | nil=>rw[hl2] at HL6a;exact .inl HL6a.out.nil
               | cons a r =>
                rw[hl2] at HL6a;obtain⟨hi,h6,_⟩:=HL6a.out.cons;exact .inr ⟨hi,by rw[h6];exact YP (HRR.out.trans hl2)⟩
              clear hp1 hp1e;have HEX:Hid (qq l3=if decide (1<=dd.length)&&decide (dd.length<=3)&&rr.isEmpty then ((if mn then -((yX dd:Nat):Int) else ((yX dd:Nat):Int)),true) else (0,false)):=by show _=_;have h1:=HEB.out;rw[HL3.out] at h1 ⊢;exact expO_E h1 (by rw[HX.out];exact HDD.out) (by rw[HX.out];exact HRR.out) HMN.out
              have HDB:Hid (∀b ∈ dd,b.toNat<=57):=fun b hb=>by have:=jF X b (by rw[HDD.out];exact hb);omega
              go_upto_block 4 with fail
              go_cut [5,10] (fun v5 v10 wx=>dd.length<=3/\v5=.int .i64 (p6:Int)/\v10=.int .i64 ((yX dd:Nat):Int)/\wc=wx)
              case first =>
               as_aux_lemma =>
                go_wp2_with fail;go_loopw [5,10] (fun v5 v10 wr=>∃k j u:Nat,j<=dd.length/\j<=3/\v5=.int .i64 (k:Int)/\Hid (k=p5+j/\u=yX (dd.take j))/\k<=255/\v10=.int .i64 (u:Int)/\u<=999/\wc=wr) (fun v5 _ _=>300-(intOf v5).toNat)
                case atStart=>exact⟨p5,0,0,Nat.zero_le _,Nat.zero_le _,rfl,⟨rfl,rfl⟩,by have:=HP6.out;omega,rfl,by omega,rfl⟩
                case round =>
                 obtain⟨k,j,u,hj,hj3,rfl,HK,hk,rfl,hu,rfl⟩:=hrel;by_cases hjl:j<dd.length
                 ·obtain⟨hi,hw,hc,hcd⟩:=HAT3.out j hjl;have HKs:Hid (k+1<=255):=by have h1:=HK.out.1;have h2:=HP6.out;show _<=_;omega
                  have hkl:k<(bs l).size:=by rw[HK.out.1];exact hi
                  have hc2:(bs l)[k]=dd[j]:=by rw[<-hc];congr 1<;>exact HK.out.1
                  obtain⟨b,hb⟩:∃b,(bs l)[k]=b:=⟨_,rfl⟩;have HD:=hdg b wc;rw[show zB.contains b=true by rw[<-hb,hc2];exact hcd] at HD;have hbd:=yZ (b:=b) (by rw[<-hb,hc2];exact hcd);obtain⟨x,hx⟩:∃x:Nat,b.toNat=x:=⟨_,rfl⟩;rw[hx] at hbd HD;obtain⟨d,hd⟩:∃d:Int,(x:Int)-48=d:=⟨_,rfl⟩;have w1:IntKind.u8.wrap ((x:Int)-48)=d:=by rw[hd];simp[IntKind.wrap_u8]<;>omega
                  have hd9:0<=d/\d<=9:=by omega
                  have hix:((bs l)[k]'hkl).toNat=x:=by rw[hb];exact hx
                  have HU:Hid (yX (dd.take (j+1))=u*10+(x-48)):=by show _=_;rw[kv dd j hjl,<-HK.out.2,<-hc2,hb,hx]
                  obtain⟨u2,hu2⟩:∃u2:Nat,u*10+(x-48)=u2:=⟨_,rfl⟩;have w2:(u:Int)*10+d=(u2:Int):=by omega
                  have w3:IntKind.i64.wrap ((u:Int)*10+d)=(u2:Int):=by rw[IntKind.wrap_i64];omega
                  have HU2:Hid (u2=yX (dd.take (j+1))):=by show _=_;rw[HU.out,hu2]
                  have HJ:Hid (j<dd.length):=hjl;have hkp:(k:Int)=(p5:Int)+(j:Int):=by have:=HK.out.1;omega
                  by_cases hj4:j+1<=3
                  ·have t9:¬ (3:Int)<(k:Int)+1-(p5:Int):=by omega
                   have hub:u2<=999:=by have h1:=qN (j+1) dd HDB.out;rw[<-HU2.out] at h1;have h2:10 ^ (j+1)<=10 ^ 3:=Nat.pow_le_pow_right (by decide) hj4;omega
                   clear hc hcd hc2 hb hx hd hw hi hj hjl hu2 w2 hkp;go_wp2_with fail;refine Calls.mono HD.out ?_;rintro _ w5 ⟨rfl,hw5⟩;rw[hw5];clear hw5 w5 HD;go_wp2;go_roundw
                   case rel=>exact⟨k+1,j+1,u2,HJ.out,hj4,by go_num,⟨by have:=HK.out.1;omega,HU2.out⟩,HKs.out,rfl,hub,by first|rfl|trivial⟩
                   case measure=>have:=HKs.out;simp[intOf];omega
                  ·have t9:(3:Int)<(k:Int)+1-(p5:Int):=by omega
                   have HV:Hid (res=X1):=by show _=_;rw[<-HRES.out];refine ZB HTL.out HWH.out HL2.out HPT.out ?_;rw[HEX.out,decide_eq_false (show ¬ dd.length<=3 by omega)];simp
                   have hPS:=HP.out.2.2.1;clear hc hcd hc2 hb hx hd hw hi hj hjl hu2 w2 hkp;go_wp2_with fail;refine Calls.mono HD.out ?_;rintro _ w5 ⟨rfl,hw5⟩;rw[hw5];clear hw5 w5 HD;have hZe:=Row.set2 hPS.rz (.int .i64 0) (.int .i64 0);have hBe:=za (za hPS.be (B:=w.heap.size) 0 (.int .i64 0) (Nat.le_refl _)) (B:=w.heap.size) 1 (.int .i64 0) (Nat.le_refl _);have zl:=hPS.rz.lt;have zf:=hPS.rz.frozen;obtain⟨z0,z1⟩:=hPS.rz.duo;go_wp2_with fail;exact bodyPost_ret (zd rfl (g:=w.heap.size) rfl rfl (zm hZe rfl)) rfl ⟨by rw[HV.out];rfl,hBe⟩
                 ·obtain rfl:j=dd.length:=by omega
                  rw[List.take_length] at HK;obtain rfl:k=p6:=by rw[HK.out.1];exact HP6.out
                  obtain rfl:u=yX dd:=HK.out.2;rcases HNX3.out with h6|⟨hi,h6⟩
                  ·have h7:¬ (k:Int)<((bs l).size:Int):=by omega
                   clear h6;go_wp2_with fail;go_meet;exact⟨hj3,rfl,rfl,rfl⟩
                  ·have h7:(k:Int)<((bs l).size:Int):=by omega
                   have HD:=hdg ((bs l)[k]'hi) wc;rw[h6] at HD;go_wp2_with fail;refine Calls.mono HD.out ?_;rintro _ w5 ⟨rfl,hw5⟩;rw[hw5];clear hw5 w5 HD;go_wp2_with fail;go_meet;exact⟨hj3,rfl,rfl,rfl⟩
              case rest =>
               obtain⟨hd3,rfl,rfl,rfl⟩:=hcut;have hrb:yX dd<=999:=by have h1:=qN dd.length dd HDB.out;rw[List.take_length] at h1;have h2:10 ^ dd.length<=10 ^ 3:=Nat.pow_le_pow_right (by decide) hd3;omega
               cases hde:dd with
               | nil =>
                have HV:Hid (res=X1):=by show _=_;rw[<-HRES.out];refine ZB HTL.out HWH.out HL2.out HPT.out ?_;rw[HEX.out,hde];simp
                obtain rfl:p5=p6:=by have:=HP6.out;rw[hde] at this;simpa using this
                have hPS:=HP.out.2.2.1;have hZe:=Row.set2 hPS.rz (.int .i64 0) (.int .i64 0);have hBe:=za (za hPS.be (B:=w.heap.size) 0 (.int .i64 0) (Nat.le_refl _)) (B:=w.heap.size) 1 (.int .i64 0) (Nat.le_refl _);have zl:=hPS.rz.lt;have zf:=hPS.rz.frozen;obtain⟨z0,z1⟩:=hPS.rz.duo;go_wp2_with fail;exact bodyPost_ret (zd rfl (g:=w.heap.size) rfl rfl (zm hZe rfl)) rfl ⟨by rw[HV.out];rfl,hBe⟩
               | cons wa wr0 =>
                have hne:((p6:Int)==(p5:Int))=false:=by have:=HP6.out;rw[hde,List.length_cons] at this;simp;omega
                have h1d:Hid (1<=dd.length):=by show _<=_;rw[hde];simp
                rw[<-hde];clear hde wa wr0;obtain⟨u,hu⟩:∃u,yX dd=u:=⟨_,rfl⟩;rw[hu] at hrb;rw[hu];have HU:Hid (yX dd=u):=hu;clear hu;obtain⟨ee,HEE⟩:∃ee,Hid ((if mn then -(u:Int) else (u:Int))=ee):=⟨_,rfl⟩;go_upto_if 168 with fail
                go_cut [10] (fun v10 wx=>v10=.int .i64 ee/\wc=wx)
                case first =>
                 as_aux_lemma =>
                  cases mn with
                  | false =>
                   obtain rfl:(u:Int)=ee:=HEE.out;go_wp2_with fail;go_meet;exact⟨rfl,rfl⟩
                  | true =>
                   obtain rfl : -(u:Int)=ee:=HEE.out;go_wp2_with fail;go_meet;exact⟨rfl,rfl⟩
                case rest =>
                 obtain⟨rfl,rfl⟩:=hcut;have heb : -999<=ee/\ee<=999:=by rw[<-HEE.out];split<;>omega
                 have hP3:=HP.out.2.2.1;have hO3:=HP.out.2.2.2;obtain⟨f0,f1,f2⟩:=hP3.rn.triP;have ff:=hP3.rn.frozen;have fl:=hP3.rn.lt;have hP4:=hP3.putE (-(pt.length:Int)+ee);have hO4:=hP3.own hO3 2 (.int .i64 (-(pt.length:Int)+ee));have HPO4:Hid (PsAt w (-(pt.length:Int)+ee) _/\yy w.heap.size _ _ _):=⟨hP4,hO4⟩;clear hP4 hO4 hP3 hO3;go_wp2_with fail;go_meet;refine⟨p6,-(pt.length:Int)+ee,rr,rfl,by omega,by omega,HL6a.out,fun h => ?_,fun h => ?_,HPO4.out.1,HPO4.out.2⟩
                 ·rw[HEX.out,decide_eq_true h1d.out,decide_eq_true hd3,h,HU.out,HEE.out];exact⟨rfl,by simp;omega⟩
                 ·rw[HEX.out,show rr.isEmpty=false by cases rr with|nil=>exact absurd rfl h|cons _ _=>rfl];simp
        case rest =>
         obtain⟨p6,E,l5,rfl,hE1,hE2,HQ⟩:=hcut;cases hl5:l5 with
         | cons b s =>
          have HV:Hid (res=X1):=by show _=_;rw[<-HRES.out];exact ZB HTL.out HWH.out HL2.out HPT.out (by rw[HQ.out.2.2.1 (by rw[hl5];simp)];simp)
          obtain⟨hi,_,_⟩:∃hi:p6<(bs l).size,(bs l)[p6]=b/\PzAt l (p6+1) s:=by have:=HQ.out.1;rw[hl5] at this;exact this.cons
          have h7:(p6:Int)<((bs l).size:Int):=by omega
          have hPS:=HQ.out.2.2.2.1;have hZe:=Row.set2 hPS.rz (.int .i64 0) (.int .i64 0);have hBe:=za (za hPS.be (B:=w.heap.size) 0 (.int .i64 0) (Nat.le_refl _)) (B:=w.heap.size) 1 (.int .i64 0) (Nat.le_refl _);have zl:=hPS.rz.lt;have zf:=hPS.rz.frozen;obtain⟨z0,z1⟩:=hPS.rz.duo;go_wp2_with fail;exact bodyPost_ret (zd rfl (g:=w.heap.size) rfl rfl (zm hZe rfl)) rfl ⟨by rw[HV.out];rfl,hBe⟩
         | nil =>
          have h7:¬ (p6:Int)<((bs l).size:Int):=by have:=HQ.out.1;rw[hl5] at this;have:=this.nil;omega
          obtain⟨hx1,hx2⟩:=HQ.out.2.1 hl5;have hPS:=HQ.out.2.2.2.1;have hO:=HQ.out.2.2.2.2;have HV:Hid (res=yf (zu (zV neg (dgI (wh++pt)).reverse) E)):=by show _=_;rw[<-HRES.out,dec_okR hl HTL.out HWH.out HL2.out HPT.out (by rw[hx1,HP.out.1,HWN.out];rfl),HNG.out,hx2];unfold zV;rw[YM (show Dig (wh++pt) from (show Dig wh by rw[<-HWH.out];exact jF _).append (YC HPT.out))]
          have HDG:Hid (DgL (dgI (wh++pt)).reverse):=fun d hd=>dgI_dg ((show Dig wh by rw[<-HWH.out];exact jF _).append (YC HPT.out)) d (List.mem_reverse.1 hd);have HLN:Hid ((digs (zV neg (dgI (wh++pt)).reverse).natAbs).length<=500):=by have hd:=(show Dig wh by rw[<-HWH.out];exact jF _).append (YC HPT.out);refine Nat.le_trans (zC _ (wh++pt).length ?_) (by rw[List.length_append];omega);unfold zV;rw[YM hd,kh];exact numD_lt hd
          have hdl:(dgI (wh++pt)).length<=255:=by unfold dgI;rw[List.length_map,List.length_append];exact hptl
          generalize dgI (wh++pt)=ds at *;clear hx1 hx2 HQ HP hl5;obtain⟨gu,cu,rfl⟩:=hO.form;have HI:Hid (qa (fun b=>b<wc.heap.size/\b≠w.heap.size+1) wc (.slice gu ds.length cu) ds):=own_apart hO (yq hO hPS.rn (by decide));have hws:w.heap.size+1<wc.heap.size:=hPS.rn.lt;have HR0:Hid (Row wc (w.heap.size+1) 76 #[.bool false,.slice none 0 0,.int .i64 E]):=hPS.rn;have HZ0:Hid (Row wc w.heap.size 23 #[.int .i64 0,.int .i64 0]):=hPS.rz;have HB0:Hid (Below w.heap.size w wc):=hPS.be;clear hPS hO;obtain⟨wq,hwq⟩:∃wq,wq=wc:=⟨_,rfl⟩;subst hwq;go_upto_block 6 with fail
          go_cut [11] (fun v11 wx=>∃(rs:List Int) (gv:Option Addr) (cv:Nat),Hid (rs=ds.reverse)/\Row wx (w.heap.size+1) 76 #[.bool false,.slice gv rs.length cv,.int .i64 E]/\Hid (Kept (fun b=>b<wq.heap.size/\b≠w.heap.size+1) wq wx/\yy wq.heap.size wx (.slice gv rs.length cv) rs))
          case first =>
           as_aux_lemma =>
            go_wp2_with fail;go_loopw [11] (fun v11 wr=>∃(rs:List Int) (gv:Option Addr) (cv:Nat),rs.length<=ds.length/\v11=.int .i64 ((ds.length:Int)-1-(rs.length:Int))/\Hid (rs=ds.reverse.take rs.length)/\Row wr (w.heap.size+1) 76 #[.bool false,.slice gv rs.length cv,.int .i64 E]/\Hid (Kept (fun b=>b<wq.heap.size/\b≠w.heap.size+1) wq wr/\yy wq.heap.size wr (.slice gv rs.length cv) rs)) (fun v11 _=>(intOf v11+1).toNat)
            case atStart=>exact⟨[],none,0,Nat.zero_le _,by simp,rfl,HR0.out,Kept.refl _ _,World.ownsRow_nil _ _ _ _⟩
            case round =>
             obtain⟨rs,gv,cv,hrl,rfl,HRS,hR,HKO⟩:=hrel;by_cases hm:rs.length<ds.length
             ·obtain⟨i,hi⟩:∃i,ds.length-1-rs.length=i:=⟨_,rfl⟩;have hv:(ds.length:Int)-1-(rs.length:Int)=(i:Int):=by omega
              have hil:i<ds.length:=by omega
              obtain⟨b,off,hgu,hb,hc⟩:=(HI.out.kept HKO.out.1).at i hil;obtain⟨x,hx⟩:∃x,ds[i]?.getD 0=x:=⟨_,rfl⟩;rw[hx] at hc;have HSN:Hid (rs++[x]=ds.reverse.take (rs++[x]).length):=by show _=_;rw[List.length_append,show ([x]:List Int).length=1 from rfl,rev_take ds _ hm,<-HRS.out,hi,hx]
              have hblt:b<wr.heap.size:=Nat.lt_of_lt_of_le hb.1 HKO.out.1.size;have hnlt:w.heap.size+1<wr.heap.size:=Nat.lt_of_lt_of_le hws HKO.out.1.size;have hrl2:(rs++[x]).length<=ds.length:=by rw[List.length_append];simp;omega
              have hvl:(ds.length:Int)-1-((rs++[x]).length:Int)=(i:Int)-1:=by rw[List.length_append];simp;omega
              have hi3:(i:Int)<(ds.length:Int):=by omega
              have hi0:(0:Int)<=(i:Int):=by omega
              have hib:(i:Int)<=255:=by omega
              have hrb:rs.length<=255:=by omega
              subst hgu;rw[hv];have HIW:Hid (i<=255):=by show _<=_;omega
              clear hi hx hv hb HRS;go_wp2_with fail;have hS:Below wr.heap.size wr wr.drew:=(Below.refl _ wr).drew;refine Ib wr 8 12 ?_;refine Oh 0 hS ?_ (v:=.pointer (some ⟨w.heap.size+1,0,none⟩));refine Oh 1 hS ?_ (v:=.pointer (some ⟨w.heap.size+1,1,none⟩));refine Oh 2 hS ?_ (v:=.slice gv rs.length cv) (y:=by intro wx hx;obtain⟨x0,x1,x2⟩:=(hR.below hx hR.lt).triP;go_simp<;>rfl);refine Oh 3 hS ?_ (v:=.slice (some ⟨b,off,none⟩) ds.length cu);refine Oh 4 hS ?_ (v:=.int .i64 (i:Int));refine Oh 5 hS ?_ (v:=.pointer (some ⟨b,off+i,none⟩));refine Oh 6 hS ?_ (v:=.int .i64 x) (y:=by intro wx hx;have hcx:wx.cell? ⟨b,off+i,none⟩=some (.int .i64 x):=(World.cell?_of_block (w:=wr) (a:=⟨b,off+i,none⟩) (hx.block b hblt)).trans hc;go_simp<;>rfl);refine Oo 7 ?_;go_wp2_with fail;have hS2:Below wr.heap.size wr (wr.drew.alloc (.cells #[.int .i64 x] 3)):=hS.alloc (Nat.le_refl _) _;refine⟨fun _=>hS2,?_⟩;refine Oo 8 ?_;have hO1:(wr.drew.alloc (.cells #[.int .i64 x] 3)).ownsRow wq.heap.size 3 1 (.slice gv rs.length cv) rs.length (rs.map (Value.int .i64)):=(HKO.out.2.below hS2);have HNW:Hid _:=qr wr.drew x;have hqs:=HKO.out.1.size;refine zk _ rfl (.tmp 190) (.tmp 195) 71 rfl wq.heap.size 3 i9 (.int .i64 0) 1 8 Tryz.underlying71 hi9 hz0 hz1 hz2 rfl (by decide) _ _ _ rfl hO1 ⟨wr.heap.size,0,none⟩ 1 1 [.int .i64 x] rfl rfl HNW.out (by simp[Value.oneCell']) (by unfold maxLen;omega) (by omega) (by simp;omega) ?_;intro v1 x1 hown1 hgrow1 hblk1;have hR1:=yk (hR.below hS2 hR.lt) hO1 hgrow1 (by decide);have hK1:Kept (fun b=>b<wq.heap.size/\b≠w.heap.size+1) wq x1:=(HKO.out.1.trans (Kept.of_below hS2 (fun k hk=>Nat.lt_of_lt_of_le hk.1 hqs))).grown hgrow1 (fun k hk=>Nat.lt_of_lt_of_le hk.1 (by simp;omega)) (fun k e hk=>by have:=(hO1.lt k e).1;omega);have hO2:yy wq.heap.size x1 v1 (rs++[x]):=yy.snoc hown1;generalize hts:rs++[x]=ts at *;clear hts;obtain⟨g1,k1,rfl⟩:=hO2.form;obtain⟨f0,f1,f2⟩:=hR1.triP;have ff:=hR1.frozen;have hR2:=Row.set 1 (.slice g1 ts.length k1) hR1;have hK2:=hK1.setCell (p:=⟨w.heap.size+1,1,none⟩) (by simp) (.slice g1 ts.length k1);have hO3:yy wq.heap.size (x1.setCell ⟨w.heap.size+1,1,none⟩ (.slice g1 ts.length k1)) (.slice g1 ts.length k1) ts:=by have hne:=yq hO2 hR1 (by decide);exact yu hO2 ((Kept.refl (fun k=>k≠w.heap.size+1) x1).setCell (p:=⟨w.heap.size+1,1,none⟩) (by simp) _) (fun k hk e=>hne (e ▸ hk))
              have HKO3:Hid _:=And.intro hK2 hO3;have HR3:Hid (Row _ _ _ _):=hR2;clear hown1 hgrow1 hblk1 hO1 hK1 hO2 hO3 hK2 hR2 HKO hR;go_wp2_with fail;refine⟨fun h=>by simp at h,?_⟩;refine Oo 9 ?_;go_wp2_with fail;refine⟨fun h=>by simp at h,?_⟩;refine Oo 10 ?_;go_wp2_with fail;refine⟨fun h=>by simp at h,?_⟩;refine Oo 11 ?_;go_wp2_with fail;refine⟨fun h=>by simp at h,?_⟩;refine Od ?_;go_wp2;go_roundw
              case rel=>exact⟨ts,g1,k1,hrl2,by rw[hvl],HSN,HR3.out,HKO3⟩
              case measure=>have:=HIW.out;simp[intOf]<;>omega
             ·have hE0:rs.length=ds.length:=by omega
              have h8:¬ (0:Int)<=(ds.length:Int)-1-(rs.length:Int):=by omega
              have HRE:Hid (rs=ds.reverse):=by show _=_;rw[HRS.out,hE0,List.take_of_length_le (by simp)]
              clear hE0 HRS;go_wp2_with fail;go_meet;exact⟨rs,gv,cv,HRE,hR,HKO⟩
          case rest =>
           obtain⟨rs,gv,cv,HRE,hR,HKO⟩:=hcut;obtain⟨f0,f1,f2⟩:=hR.triP;have ff:=hR.frozen;have hqs:=HKO.out.1.size;have hR1:Row (wc.setCell ⟨w.heap.size+1,0,none⟩ (.bool neg)) (w.heap.size+1) 76 #[.bool neg,.slice gv rs.length cv,.int .i64 E]:=Row.set 0 (.bool neg) hR;have hO1:yy wq.heap.size (wc.setCell ⟨w.heap.size+1,0,none⟩ (.bool neg)) (.slice gv rs.length cv) rs:=by have hne:=yq HKO.out.2 hR (by decide);exact yu HKO.out.2 ((Kept.refl (fun k=>k≠w.heap.size+1) wc).setCell (p:=⟨w.heap.size+1,0,none⟩) (by simp) _) (fun k hk e=>hne (e ▸ hk))
           have hK1:Kept (fun b=>b<wq.heap.size/\b≠w.heap.size+1) wq (wc.setCell ⟨w.heap.size+1,0,none⟩ (.bool neg)):=HKO.out.1.setCell (p:=⟨w.heap.size+1,0,none⟩) (by simp) _;have HTR:Hid (Calls Tryz.prog 93 #[.agg #[.bool neg,.slice gv rs.length cv]] (wc.setCell ⟨w.heap.size+1,0,none⟩ (.bool neg)) _):=jX neg _ rs (wc.setCell ⟨w.heap.size+1,0,none⟩ (.bool neg)) hO1.dg (by rw[HRE.out];exact HDG.out) (by rw[HRE.out,List.length_reverse];omega);rw[HRE.out] at HTR;obtain⟨z,HZ⟩:∃z,Hid (zV neg ds.reverse=z):=⟨_,rfl⟩;rw[HZ.out] at HTR HV HLN;clear hO1;go_upto_region 48 with fail
           clear f0 f1 f2 ff;have hlt1:=hR1.lt;rw[<-HRE.out] at HTR;have hBq:Below w.heap.size wq (wc.setCell ⟨w.heap.size+1,0,none⟩ (.bool neg)):=hK1.below (fun k hk=>⟨by omega,by omega⟩);have hBx:=HB0.out.trans hBq;have hZx:=HZ0.out.kept hK1 ⟨by omega,by omega⟩;have hwl:w.heap.size+1<(wc.setCell ⟨w.heap.size+1,0,none⟩ (.bool neg)).heap.size:=hR1.lt;clear hK1 hBq HKO hR;generalize wc.setCell ⟨w.heap.size+1,0,none⟩ (.bool neg)=wx at *;obtain⟨f0,f1,f2⟩:=hR1.triP;obtain⟨sg,HSG⟩:∃sg,Hid (decide (z<0)=sg):=⟨_,rfl⟩;go_wp2_with fail;refine Calls.mono HTR.out ?_;rintro _ w2 ⟨v2,rfl,hV2,hN2,b2⟩;obtain⟨s2,rfl,hD2⟩:=hV2;obtain⟨_,a3,c3,rfl,_,_⟩:=id hD2;obtain⟨n3,HN3⟩:∃n3,Hid ((digs z.natAbs).length=n3):=⟨_,rfl⟩;have hNS:qV (w.heap.size+1+1) (.slice a3 (digs z.natAbs).length c3):=hN2.get.mono (by omega);have p2:=hR1.below b2 hR1.lt;have hZ2:=hZx.below b2 hZx.lt;have hB2:=hBx.trans (b2.mono hBx.size);clear f0 f1 f2 HTR hR1 hZx hBx hN2 b2;obtain⟨f0,f1,f2⟩:=p2.triP;have ff:=p2.frozen;have hR3:Row ((w2.setCell ⟨w.heap.size+1,0,none⟩ (.bool sg)).setCell ⟨w.heap.size+1,1,none⟩ (.slice a3 n3 c3)) (w.heap.size+1) 76 #[.bool sg,.slice a3 n3 c3,.int .i64 E]:=(p2.set 0 _).set 1 _;have hD3:=(hD2.off hNS 0 (.bool sg)).off hNS 1 (.slice a3 n3 c3);have hZ3:Row ((w2.setCell ⟨w.heap.size+1,0,none⟩ (.bool sg)).setCell ⟨w.heap.size+1,1,none⟩ (.slice a3 n3 c3)) w.heap.size 23 #[.int .i64 0,.int .i64 0]:=hZ2.kept (((Kept.refl (fun b=>b≠w.heap.size+1) w2).setCell (p:=⟨w.heap.size+1,0,none⟩) (by simp) _).setCell (p:=⟨w.heap.size+1,1,none⟩) (by simp) _) (by omega);have hB3:=za (za hB2 (B:=w.heap.size+1) 0 (.bool sg) (by omega)) (B:=w.heap.size+1) 1 (.slice a3 n3 c3) (by omega);have HTE:Hid (Calls Tryz.prog 88 #[.agg #[.bool (decide (z<0)),.slice a3 (digs z.natAbs).length c3,.int .i64 E]] ((w2.setCell ⟨w.heap.size+1,0,none⟩ (.bool sg)).setCell ⟨w.heap.size+1,1,none⟩ (.slice a3 n3 c3)) _):=xE z E _ _ ⟨_,rfl,hD3⟩ hE1 hE2 HLN.out;obtain⟨c,e,er,hdv⟩:=yK (zu z E);rw[hdv] at HTE HV;rw[HSG.out,HN3.out] at HTE;unfold bv;rw[HSG.out,HN3.out];clear hD3 hD2 hNS hdv;go_upto_region 49 with fail
           clear f0 f1 f2 ff p2 hZ2 hB2;generalize (w2.setCell ⟨w.heap.size+1,0,none⟩ (.bool sg)).setCell ⟨w.heap.size+1,1,none⟩ (.slice a3 n3 c3)=w3 at *;obtain⟨f0,f1,f2⟩:=hR3.triP;go_wp2_with fail;refine Calls.mono HTE.out ?_;rintro _ w4 ⟨rfl,b4⟩;have hZ4:=hZ3.below b4 hZ3.lt;have hB4:=hB3.trans (b4.mono hB3.size);clear HTE f0 f1 f2 hZ3 hB3 b4;obtain⟨z0,z1⟩:=hZ4.duo;have zf:=hZ4.frozen;have hZe:=Row.set2 hZ4 (.int .i64 c) (.int .i64 e);have hBe:=za (za hB4 (B:=w.heap.size) 0 (.int .i64 c) (Nat.le_refl _)) (B:=w.heap.size) 1 (.int .i64 e) (Nat.le_refl _);go_wp2;exact bodyPost_ret (zd rfl (g:=w.heap.size) rfl rfl (zm hZe rfl)) rfl ⟨by rw[HV.out];rfl,hBe⟩
end Go.Proofs.YtnhflnpjepiceaaGreatDoor
