import Derived.Test.YtoncpcdepemlcaaGreatDoorUfi
import Derived.Test.YtoncpcdepemlcaaGreatDoorPrgM
namespace Go.Proofs.YtoncpcdepemlcaaGreatDoor
open Go.RowKit
theorem byteAt_nats (s:ByteArray) (j:Nat) (h:j<s.size):byteAt s j=((natsOf s).getD j 0:Nat):=by
 unfold byteAt;rw[dif_pos h];congr 1;unfold natsOf;have h':j<s.data.toList.length:=by simpa using h
 rw[List.getD_eq_getElem?_getD,List.getElem?_map,List.getElem?_eq_getElem h'];rfl
theorem nats_take (s:ByteArray) (k:Nat):natsOf (s.extract 0 k)=(natsOf s).take k:=by
 unfold natsOf;rw[ByteArray.data_extract,Array.toList_extract,List.extract_eq_take_drop];simp
theorem nats_inj {a b:ByteArray} (h:natsOf a=natsOf b):a=b:=by
 rw[<-str_nats a,<-str_nats b,h]
theorem hitS_iff (s:ByteArray) (sz:Nat) (m:Int) (hm:part s sz (sz-1)=m):hitS s sz↔charZ m/\wrN m.toNat=(natsOf s).take sz:=by
 unfold hitS;rw[hm];constructor
 ·rintro⟨hc,he⟩;refine⟨hc,?_⟩;have e1:chrZ m=m.toNat:=if_pos hc;have:=congrArg natsOf he;rw[e1,nats_take,nats_str (wrN_byte (by have:=hc.2.1;omega))] at this;exact this
 ·rintro⟨hc,he⟩;refine⟨hc,nats_inj ?_⟩;have e1:chrZ m=m.toNat:=if_pos hc;rw[e1,nats_take,nats_str (wrN_byte (by have:=hc.2.1;omega)),he]
theorem take_one {l:List Nat} (h:1<=l.length):l.take 1=[l.getD 0 0]:=by
 match l,h with
 | a::r,_=>simp
theorem take_two {l:List Nat} (h:2<=l.length):l.take 2=[l.getD 0 0,l.getD 1 0]:=by
 match l,h with
 | a::b::r,_=>simp
theorem take_three {l:List Nat} (h:3<=l.length):l.take 3=[l.getD 0 0,l.getD 1 0,l.getD 2 0]:=by
 match l,h with
 | a::b::c::r,_=>simp
theorem take_four {l:List Nat} (h:4<=l.length):l.take 4=[l.getD 0 0,l.getD 1 0,l.getD 2 0,l.getD 3 0]:=by
 match l,h with
 | a::b::c::d::r,_=>simp
theorem getD_lt {l:List Nat} (h:Bys l) (j:Nat):l.getD j 0<256:=by
 rw[List.getD_eq_getElem?_getD];by_cases hj:j<l.length
 ·rw[List.getElem?_eq_getElem hj];exact h _ (List.getElem_mem hj)
 ·rw[List.getElem?_eq_none (by omega)];simp
theorem hitS1 (s:ByteArray) (h:1<=s.size):(hitS s 1↔(natsOf s).getD 0 0<128)/\part s 1 0=((natsOf s).getD 0 0:Nat):=by
 have hb:=getD_lt (bys_nats s);have e:part s 1 0=((natsOf s).getD 0 0:Nat):=by show byteAt s 0-baseS 1=_;rw[byteAt_nats s 0 (by omega)];simp[baseS]
 refine⟨?_,e⟩;rw[hitS_iff s 1 _ e,take_one (by rw[natsOf_len];exact h),Int.toNat_natCast];exact hit1 _ (hb 0)
theorem hitS2 (s:ByteArray) (h:2<=s.size):(hitS s 2↔((natsOf s).getD 0 0 / 32=6/\(natsOf s).getD 1 0 / 64=2/\(natsOf s).getD 0 0 % 32*64+(natsOf s).getD 1 0 % 64≥128))/\part s 2 1=(((natsOf s).getD 0 0:Nat)-192:Int)*64+((natsOf s).getD 1 0:Nat)-128:=by
 have hb:=getD_lt (bys_nats s);have e:part s 2 1=(((natsOf s).getD 0 0:Nat)-192:Int)*64+((natsOf s).getD 1 0:Nat)-128:=by show (byteAt s 0-baseS 2)*64+byteAt s 1-128=_;rw[byteAt_nats s 0 (by omega),byteAt_nats s 1 (by omega)];simp[baseS]
 refine⟨?_,e⟩;rw[hitS_iff s 2 _ e,take_two (by rw[natsOf_len];exact h)];exact hit2 _ _ (hb 1) rfl
theorem hitS3 (s:ByteArray) (h:3<=s.size):(hitS s 3↔((natsOf s).getD 0 0 / 16=14/\(natsOf s).getD 1 0 / 64=2/\(natsOf s).getD 2 0 / 64=2/\(natsOf s).getD 0 0 % 16*4096+(natsOf s).getD 1 0 % 64*64+(natsOf s).getD 2 0 % 64≥2048/\((natsOf s).getD 0 0 % 16*4096+(natsOf s).getD 1 0 % 64*64+(natsOf s).getD 2 0 % 64<55296\/(57344<=(natsOf s).getD 0 0 % 16*4096+(natsOf s).getD 1 0 % 64*64+(natsOf s).getD 2 0 % 64/\(natsOf s).getD 0 0 % 16*4096+(natsOf s).getD 1 0 % 64*64+(natsOf s).getD 2 0 % 64<=1114111))))/\part s 3 2=((((natsOf s).getD 0 0:Nat)-224:Int)*64+((natsOf s).getD 1 0:Nat)-128)*64+((natsOf s).getD 2 0:Nat)-128:=by
 have hb:=getD_lt (bys_nats s);have e:part s 3 2=((((natsOf s).getD 0 0:Nat)-224:Int)*64+((natsOf s).getD 1 0:Nat)-128)*64+((natsOf s).getD 2 0:Nat)-128:=by show ((byteAt s 0-baseS 3)*64+byteAt s 1-128)*64+byteAt s 2-128=_;rw[byteAt_nats s 0 (by omega),byteAt_nats s 1 (by omega),byteAt_nats s 2 (by omega)];simp[baseS]
 refine⟨?_,e⟩;rw[hitS_iff s 3 _ e,take_three (by rw[natsOf_len];exact h)];exact hit3 _ _ _ (hb 1) rfl
theorem hitS4 (s:ByteArray) (h:4<=s.size):(hitS s 4↔((natsOf s).getD 0 0 / 8=30/\(natsOf s).getD 1 0 / 64=2/\(natsOf s).getD 2 0 / 64=2/\(natsOf s).getD 3 0 / 64=2/\(natsOf s).getD 0 0 % 8*262144+(natsOf s).getD 1 0 % 64*4096+(natsOf s).getD 2 0 % 64*64+(natsOf s).getD 3 0 % 64≥65536/\((natsOf s).getD 0 0 % 8*262144+(natsOf s).getD 1 0 % 64*4096+(natsOf s).getD 2 0 % 64*64+(natsOf s).getD 3 0 % 64<55296\/(57344<=(natsOf s).getD 0 0 % 8*262144+(natsOf s).getD 1 0 % 64*4096+(natsOf s).getD 2 0 % 64*64+(natsOf s).getD 3 0 % 64/\(natsOf s).getD 0 0 % 8*262144+(natsOf s).getD 1 0 % 64*4096+(natsOf s).getD 2 0 % 64*64+(natsOf s).getD 3 0 % 64<=1114111))))/\part s 4 3=(((((natsOf s).getD 0 0:Nat)-240:Int)*64+((natsOf s).getD 1 0:Nat)-128)*64+((natsOf s).getD 2 0:Nat)-128)*64+((natsOf s).getD 3 0:Nat)-128:=by
 have hb:=getD_lt (bys_nats s);have e:part s 4 3=(((((natsOf s).getD 0 0:Nat)-240:Int)*64+((natsOf s).getD 1 0:Nat)-128)*64+((natsOf s).getD 2 0:Nat)-128)*64+((natsOf s).getD 3 0:Nat)-128:=by show (((byteAt s 0-baseS 4)*64+byteAt s 1-128)*64+byteAt s 2-128)*64+byteAt s 3-128=_;rw[byteAt_nats s 0 (by omega),byteAt_nats s 1 (by omega),byteAt_nats s 2 (by omega),byteAt_nats s 3 (by omega)];simp[baseS]
 refine⟨?_,e⟩;rw[hitS_iff s 4 _ e,take_four (by rw[natsOf_len];exact h)];exact hit4 _ _ _ _ (hb 1) (hb 2) rfl
theorem found_at (s:ByteArray) (sz:Nat) (h1:1<=sz) (h4:sz<=4) (hs:sz<=s.size) (hno:∀j,1<=j->j<sz->¬ hitS s j) (hh:hitS s sz):decL (natsOf s)=((part s sz (sz-1)).toNat,sz)/\0<=part s sz (sz-1)/\decL (natsOf s)≠(65533,1):=by
 have hb:=getD_lt (bys_nats s);have b0:=hb 0;have b1:=hb 1;have b2:=hb 2;have b3:=hb 3;have hlen:=natsOf_len s;have q1:=hitS1 s (by omega);unfold decL;rw[hlen];rcases(by omega:sz=1\/sz=2\/sz=3\/sz=4) with rfl|rfl|rfl|rfl
 ·have g:=q1.1.1 hh;have e:=q1.2;rw[show (1:Nat)-1=0 from rfl,e];generalize (natsOf s).getD 0 0=x0 at *;unfold Lib.decodeN;rw[if_pos g];refine⟨by simp,by omega,?_⟩;intro h;simp only[Prod.mk.injEq] at h;omega
 ·have n1:=mt q1.1.2 (hno 1 (by omega) (by omega));have q2:=hitS2 s (by omega);have g:=q2.1.1 hh;have e:=q2.2;rw[show (2:Nat)-1=1 from rfl,e];clear q1 q2 e hh hno;generalize (natsOf s).getD 0 0=x0 at *;generalize (natsOf s).getD 1 0=x1 at *;unfold Lib.decodeN;rw[if_neg n1,if_pos ⟨g.1,by omega,g.2.1⟩,if_pos g.2.2];refine⟨by apply Prod.ext<;>simp only<;>omega,by omega,?_⟩;intro h;simp only[Prod.mk.injEq] at h;omega
 ·have n1:=mt q1.1.2 (hno 1 (by omega) (by omega));have q3:=hitS3 s (by omega);have g:=q3.1.1 hh;have e:=q3.2;rw[show (3:Nat)-1=2 from rfl,e];clear q1 q3 e hh hno;generalize (natsOf s).getD 0 0=x0 at *;generalize (natsOf s).getD 1 0=x1 at *;generalize (natsOf s).getD 2 0=x2 at *;obtain⟨g0,g1,g2,g3,g4⟩:=g;unfold Lib.decodeN;rw[if_neg n1,if_neg (by omega),if_pos ⟨g0,⟨by omega,g1⟩,by omega,g2⟩,if_pos ⟨g3,g4⟩];refine⟨by apply Prod.ext<;>simp only<;>omega,by omega,?_⟩;intro h;simp only[Prod.mk.injEq] at h;omega
 ·have n1:=mt q1.1.2 (hno 1 (by omega) (by omega));have q4:=hitS4 s (by omega);have g:=q4.1.1 hh;have e:=q4.2;rw[show (4:Nat)-1=3 from rfl,e];clear q1 q4 e hh hno;generalize (natsOf s).getD 0 0=x0 at *;generalize (natsOf s).getD 1 0=x1 at *;generalize (natsOf s).getD 2 0=x2 at *;generalize (natsOf s).getD 3 0=x3 at *;obtain⟨g0,g1,g2,g3,g4,g5⟩:=g;unfold Lib.decodeN;rw[if_neg n1,if_neg (by omega),if_neg (by omega),if_pos ⟨g0,⟨by omega,g1⟩,⟨by omega,g2⟩,by omega,g3⟩,if_pos ⟨g4,g5⟩];refine⟨by apply Prod.ext<;>simp only<;>omega,by omega,?_⟩;intro h;simp only[Prod.mk.injEq] at h;omega
theorem found_not (s:ByteArray) (hs:1<=s.size) (hno:∀j,1<=j->j<=4->j<=s.size->¬ hitS s j):decL (natsOf s)=(65533,1):=by
 have n1:=mt (hitS1 s hs).1.2 (hno 1 (by omega) (by omega) hs);unfold decL;rw[natsOf_len];unfold Lib.decodeN;rw[if_neg n1];split
 ·rename_i c;refine if_neg (fun h => ?_);exact hno 2 (by omega) (by omega) (by omega) ((hitS2 s (by omega)).1.2 ⟨c.1,c.2.2,h⟩)
 ·split
  ·rename_i c;refine if_neg (fun h => ?_);exact hno 3 (by omega) (by omega) (by omega) ((hitS3 s (by omega)).1.2 ⟨c.1,c.2.1.2,c.2.2.2,h.1,h.2⟩)
  ·split
   ·rename_i c;refine if_neg (fun h => ?_);exact hno 4 (by omega) (by omega) (by omega) ((hitS4 s (by omega)).1.2 ⟨c.1,c.2.1.2,c.2.2.1.2,c.2.2.2.2,h.1,h.2⟩)
   ·rfl
theorem first_says:FirstSays:=by
 intro s w hs hl;refine(first_walk s hs hl w).mono ?_;rintro e w' ⟨hb,⟨sz,h1,h4,hsz,hno,hh,rfl⟩|⟨hno,rfl⟩⟩
 ·obtain⟨e1,e2,e3⟩:=found_at s sz h1 h4 hsz hno hh;refine⟨?_,hb⟩;rw[decide_eq_true e3,e1];simp only;rw[Int.toNat_of_nonneg e2]
 ·have e1:=found_not s hs hno;refine⟨?_,hb⟩;rw[decide_eq_false (by rw[e1];simp),e1];rfl
set_option maxRecDepth 100000
set_option maxHeartbeats 4000000
theorem xml_any (s:ByteArray) (hl:s.size<=140737488351232) (w:World):Calls Tryz.prog 93 #[.string s] w fun e w'=>e=.returned (.int .i64 (errX (xmlL (natsOf s))))/\Below w.heap.size w w':=by
 obtain⟨R,HR⟩:∃ R,Hid (xmlL (natsOf s)=R):=⟨_,rfl⟩;rw[HR.out];go_enter Tryz.func93,Tryz.ntmps93;go_wp2_with fail;go_loopw [0] (fun v0 wr=>∃t:ByteArray,v0=.string t/\t.size<=s.size/\Hid (xmlL (natsOf t)=R)/\Below w.heap.size w wr) (fun v0 _=>(strV v0).size)
 case atStart=>exact⟨s,rfl,Nat.le_refl _,HR,Below.refl _ _⟩
 case round =>
  obtain⟨t,rfl,ht,HT,hB⟩:=hrel;by_cases h0:0<t.size
  ·have HC:Hid _:=first_says t wr h0 (by omega);have hne:natsOf t≠[]:=by intro h;have:=natsOf_len t;rw[h] at this;simp at this;omega
   have hcl:=decL_le (natsOf t);have hnl:=dec_le hne;rw[natsOf_len] at hnl;have hn1:=(dec_size (natsOf t)).1;have hbad:decL (natsOf t)=(65533,1)->R=false:=fun e=>HT.out.symm.trans (xmlL_bad hne e);have hnot:okX (decL (natsOf t)).1=false->R=false:=fun e=>HT.out.symm.trans (xmlL_not hne e);have hstep:decL (natsOf t)≠(65533,1)->okX (decL (natsOf t)).1=true->xmlL (natsOf (t.extract (decL (natsOf t)).2 t.size))=R:=fun h1 h2=>by rw[natsOf_drop,<-xmlL_step hne h1 h2];exact HT.out
   obtain⟨D,hD⟩:∃ D,decL (natsOf t)=D:=⟨_,rfl⟩;rw[hD] at HC hcl hnl hn1 hbad hnot hstep;obtain⟨c,n⟩:=D;simp only at HC hcl hnl hn1 hnot hstep;have hsx:(t.extract n t.size).size=t.size-n:=by rw[ByteArray.size_extract];omega
   have hsx2:(t.extract n t.size).size<=s.size:=by omega
   have hcz:(c:Int)<=1114111:=by omega
   go_wp2_with fail;refine Calls.mono HC.out ?_;rintro e w1 ⟨rfl,hb1⟩;clear HC hD hne;have HB1:Hid (Below w.heap.size w w1):=hB.trans (hb1.mono hB.size);clear hB hb1;by_cases hd:(c,n)=(65533,1)
   ·have e:decide ((c,n)≠(65533,1))=false:=by simp[hd]
    rw[e];have hRf:=hbad hd;clear hbad hnot hstep e hd;subst hRf;clear HT HR;go_wp2;go_ret;exact⟨rfl,HB1.out⟩
   have e:decide ((c,n)≠(65533,1))=true:=by simp[hd]
   rw[e];clear e;by_cases k9:c=9
   ·subst k9;have HN:Hid _:=hstep hd (by decide);clear hbad hnot hstep hd;clear HT HR;go_wp2;exact⟨⟨_,rfl,hsx2,HN,HB1.out⟩,by simp only[strV];omega⟩
   by_cases k10:c=10
   ·subst k10;have HN:Hid _:=hstep hd (by decide);clear hbad hnot hstep hd;clear HT HR;go_wp2;exact⟨⟨_,rfl,hsx2,HN,HB1.out⟩,by simp only[strV];omega⟩
   by_cases k13:c=13
   ·subst k13;have HN:Hid _:=hstep hd (by decide);clear hbad hnot hstep hd;clear HT HR;go_wp2;exact⟨⟨_,rfl,hsx2,HN,HB1.out⟩,by simp only[strV];omega⟩
   by_cases k65534:c=65534
   ·subst k65534;have hRf:=hnot (by decide);clear hbad hnot hstep hd;subst hRf;clear HT HR;go_wp2;go_ret;exact⟨rfl,HB1.out⟩
   by_cases k65535:c=65535
   ·subst k65535;have hRf:=hnot (by decide);clear hbad hnot hstep hd;subst hRf;clear HT HR;go_wp2;go_ret;exact⟨rfl,HB1.out⟩
   have z1:¬ (c:Int)=9:=by omega
   have z2:¬ (c:Int)=10:=by omega
   have z3:¬ (c:Int)=13:=by omega
   have z4:¬ (c:Int)=65534:=by omega
   have z5:¬ (c:Int)=65535:=by omega
   by_cases k32:32<=c
   ·have z6:¬ (c:Int)<32:=by omega
    have z7:((c:Int)==65534)=false:=by simp;omega
    have z8:((c:Int)==65535)=false:=by simp;omega
    have HN:Hid _:=hstep hd (decide_eq_true (by omega));clear hbad hnot hstep hd;clear HT HR;go_wp2;exact⟨⟨_,rfl,hsx2,HN,HB1.out⟩,by simp only[strV];omega⟩
   ·have z6:(c:Int)<32:=by omega
    have hRf:=hnot (decide_eq_false (by omega));clear hbad hnot hstep hd;subst hRf;clear HT HR;go_wp2;go_ret;exact⟨rfl,HB1.out⟩
  ·have hR:R=true:=by rw[<-HT.out];have:natsOf t=[]:=List.eq_nil_of_length_eq_zero (by rw[natsOf_len];omega);rw[this];rfl
   subst hR;have HB:Hid (Below w.heap.size w wr):=hB;have e0:(t.size:Int)=0:=by omega
   clear hB HT HR;go_wp2;go_ret;exact⟨rfl,HB.out⟩
end Go.Proofs.YtoncpcdepemlcaaGreatDoor
