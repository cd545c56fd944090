import Derived.Test.YtoncpcdepemlcaaGreatDoorSh3
import Derived.Test.YtoncpcdepemlcaaGreatDoorPtn
import Derived.Test.YtoncpcdepemlcaaGreatDoorUtxM
import Derived.WalkSmall
namespace Go.Proofs.YtoncpcdepemlcaaGreatDoor
set_option maxRecDepth 100000
set_option maxHeartbeats 2000000
open Go.RowKit
theorem natsOf_getD (s:ByteArray) (j:Nat):(natsOf s).getD j 0=(s.get! j).toNat:=by
 unfold natsOf;by_cases h:j<s.size
 ·have h':j<s.data.toList.length:=by simpa using h
  have h2:j<s.data.size:=h;rw[List.getD_eq_getElem?_getD,List.getElem?_map,List.getElem?_eq_getElem h'];simp only[ByteArray.get!,getElem!_pos s.data j h2];simp
 ·have h':¬ j<s.data.toList.length:=by simpa using h
  have h2:¬ j<s.data.size:=h;rw[List.getD_eq_getElem?_getD,List.getElem?_map,List.getElem?_eq_none (by omega)];simp only[ByteArray.get!,getElem!_neg s.data j h2];rfl
theorem drop_getD (l:List Nat) (i j:Nat):(l.drop i).getD j 0=l.getD (i+j) 0:=by
 rw[List.getD_eq_getElem?_getD,List.getD_eq_getElem?_getD,List.getElem?_drop]
theorem decode_nats (s:ByteArray) (i:Nat):Utf8.decode s i=decL ((natsOf s).drop i):=by
 rw[Lib.decode_at];unfold decL;rw[List.length_drop,natsOf_len,drop_getD,drop_getD,drop_getD,drop_getD,natsOf_getD,natsOf_getD,natsOf_getD,natsOf_getD];rfl
theorem drop_ne {s:ByteArray} {i:Nat} (h:i<s.size):(natsOf s).drop i≠[]:=by
 intro e;have:=congrArg List.length e;rw[List.length_drop,natsOf_len] at this;simp at this;omega
theorem drop_end {s:ByteArray} {i:Nat} (h:¬ i<s.size):(natsOf s).drop i=[]:=List.drop_eq_nil_of_le (by rw[natsOf_len];omega)
theorem decL_le (l:List Nat):(decL l).1<=1114111:=by
 unfold decL Lib.decodeN;repeat' split
 all_goals simp only
 all_goals omega
theorem step_in {s:ByteArray} {i:Nat} (h:i<s.size):i+(decL ((natsOf s).drop i)).2<=s.size/\1<=(decL ((natsOf s).drop i)).2:=by
 have h1:=dec_le (drop_ne h);rw[List.length_drop,natsOf_len] at h1;have:=(dec_size ((natsOf s).drop i)).1;omega
theorem wr_fffd:wrN 65533=[239,191,189]:=by decide
theorem dec_fffd {l:List Nat} (hb:Bys l) (hn:l≠[]) (h1:(decL l).1=65533):(decL l≠(65533,1))↔[239,191,189] <+: l:=by
 constructor
 ·intro h;obtain⟨_,r,hl,_⟩:=dec_ok hb hn h;rw[h1,wr_fffd] at hl;exact⟨r,hl.symm⟩
 ·rintro⟨r,rfl⟩ h;have:=dec_wr 65533 ⟨by omega,by omega,by omega⟩ r;rw[wr_fffd,h] at this;simp at this
theorem bys_nats (s:ByteArray):Bys (natsOf s):=by
 intro x hx;obtain⟨b,_,rfl⟩:=List.mem_map.1 hx;exact b.toNat_lt
theorem bys_drop {l:List Nat} (h:Bys l) (n:Nat):Bys (l.drop n):=fun x hx=>h x (List.mem_of_mem_drop hx)
theorem prefix_map : ∀ (p l : List UInt8), p.isPrefixOf l = (p.map UInt8.toNat).isPrefixOf (l.map UInt8.toNat)
  | [], l => by simp
  | a :: p, [] => by simp
  | a :: p, b :: l => by
    simp only [List.map_cons, List.isPrefixOf_cons_cons, prefix_map p l]
    congr 1
    rw [Bool.eq_iff_iff, beq_iff_eq, beq_iff_eq, UInt8.toNat_inj]
theorem hasP (s:ByteArray) (pos:Nat) (h:pos<s.size) (h1:(decL ((natsOf s).drop pos)).1=65533):Lib.hasPrefix (s.extract pos s.size).data.toList [239,191,189]=decide (decL ((natsOf s).drop pos)≠(65533,1)):=by
 unfold Lib.hasPrefix;rw[prefix_map];have e:(s.extract pos s.size).data.toList.map UInt8.toNat=(natsOf s).drop pos:=natsOf_drop s pos;rw[e,Bool.eq_iff_iff,decide_eq_true_iff,List.isPrefixOf_iff_prefix];exact(dec_fffd (bys_drop (bys_nats s) pos) (drop_ne h) h1).symm
theorem broken_any (s:ByteArray) (pos:Nat) (h:pos<s.size) (w:World):Calls Tryz.prog 102 #[.string s,.int .i64 (pos:Int),.int .i32 ((decL ((natsOf s).drop pos)).1:Nat)] w fun e w'=>e=.returned (.bool (decide (decL ((natsOf s).drop pos)=(65533,1))))/\w'=w:=by
 have hle:=decL_le ((natsOf s).drop pos);by_cases h1:(decL ((natsOf s).drop pos)).1=65533
 ·have hp:=hasP s pos h h1;have HC:Hid _:=Tryz.strings_HasPrefix (s.extract pos s.size) ⟨#[239,191,189]⟩ w;have e:decide (decL ((natsOf s).drop pos)=(65533,1)) = !decide (decL ((natsOf s).drop pos)≠(65533,1)):=by simp
  rw[h1,e];clear e;obtain⟨b,hb⟩:∃b,decide (decL ((natsOf s).drop pos)≠(65533,1))=b:=⟨_,rfl⟩;rw[hb] at hp ⊢;clear hb;have HP:Hid _:=hp;clear hp;go_enter Tryz.func102,Tryz.ntmps102;go_wp2_with fail;refine Calls.mono HC.out ?_;rintro e w1 ⟨rfl,rfl⟩;clear HC;rw[HP.out];go_wp2;go_ret;exact⟨rfl,rfl⟩
 ·have e:decide (decL ((natsOf s).drop pos)=(65533,1))=false:=by rw[decide_eq_false_iff_not];intro h2;rw[h2] at h1;exact h1 rfl
  rw[e];obtain⟨c,hc⟩:∃c,(decL ((natsOf s).drop pos)).1=c:=⟨_,rfl⟩;rw[hc] at h1 hle ⊢;have h2:¬ (c:Int)=65533:=by omega
  clear e hc;go_enter Tryz.func102,Tryz.ntmps102;go_wp2;go_ret;exact⟨rfl,rfl⟩
def okX (n : Nat) : Bool := decide (n = 9 ∨ n = 10 ∨ n = 13 ∨ (n ≠ 65534 ∧ n ≠ 65535 ∧ 32 ≤ n))
theorem allowed_any (c:Nat) (hc:c<=1114111) (w:World):Calls Tryz.prog 103 #[.int .i32 (c:Int)] w fun e w'=>e=.returned (.bool (okX c))/\w'=w:=by
 by_cases h1:c=9
 ·subst h1;go_enter Tryz.func103,Tryz.ntmps103;go_wp2;go_ret;exact⟨rfl,rfl⟩
 by_cases h2:c=10
 ·subst h2;go_enter Tryz.func103,Tryz.ntmps103;go_wp2;go_ret;exact⟨rfl,rfl⟩
 by_cases h3:c=13
 ·subst h3;go_enter Tryz.func103,Tryz.ntmps103;go_wp2;go_ret;exact⟨rfl,rfl⟩
 by_cases h4:c=65534
 ·subst h4;go_enter Tryz.func103,Tryz.ntmps103;go_wp2;go_ret;exact⟨rfl,rfl⟩
 by_cases h5:c=65535
 ·subst h5;go_enter Tryz.func103,Tryz.ntmps103;go_wp2;go_ret;exact⟨rfl,rfl⟩
 have z1:¬ (c:Int)=9:=by omega
 have z2:¬ (c:Int)=10:=by omega
 have z3:¬ (c:Int)=13:=by omega
 have z4:¬ (c:Int)=65534:=by omega
 have z5:¬ (c:Int)=65535:=by omega
 by_cases h6:32<=c
 ·have z6:(32:Int)<=c:=by omega
  have e:okX c=true:=decide_eq_true (by omega);rw[e];clear e;go_enter Tryz.func103,Tryz.ntmps103;go_wp2;go_ret;exact⟨rfl,rfl⟩
 ·have z6:¬ (32:Int)<=c:=by omega
  have e:okX c=false:=decide_eq_false (by omega);rw[e];clear e;go_enter Tryz.func103,Tryz.ntmps103;go_wp2;go_ret;exact⟨rfl,rfl⟩
def xmlL (l : List Nat) : Bool := validL l && (runesL l).all okX
theorem xmlL_bad {l:List Nat} (h:l≠[]) (h1:decL l=(65533,1)):xmlL l=false:=by
 unfold xmlL;rw[validL_bad h h1];rfl
theorem xmlL_not {l:List Nat} (h:l≠[]) (h1:okX (decL l).1=false):xmlL l=false:=by
 unfold xmlL;rw[runesL_step h,List.all_cons,h1];simp
theorem xmlL_step {l:List Nat} (h:l≠[]) (h1:decL l≠(65533,1)) (h2:okX (decL l).1=true):xmlL l=xmlL (l.drop (decL l).2):=by
 unfold xmlL;rw[runesL_step h,List.all_cons,h2,validL_step h h1];simp
theorem xml_at {s:ByteArray} {i:Nat} (h:i<s.size) (h1:decL ((natsOf s).drop i)≠(65533,1)) (h2:okX (decL ((natsOf s).drop i)).1=true):xmlL ((natsOf s).drop i)=xmlL ((natsOf s).drop (i+(decL ((natsOf s).drop i)).2)):=by
 rw[xmlL_step (drop_ne h) h1 h2,List.drop_drop]
def errX (b : Bool) : Int := if b then 0 else 20
theorem pxml_any (s:ByteArray) (w:World):Calls Tryz.prog 75 #[.string s] w fun e w'=>e=.returned (.int .i64 (errX (xmlL (natsOf s))))/\Below w.heap.size w w':=by
 obtain⟨R,HR⟩:∃ R,Hid (xmlL (natsOf s)=R):=⟨_,rfl⟩;rw[HR.out];go_enter Tryz.func75,Tryz.ntmps75;go_wp2_with fail;go_loopw [] (fun wr=>∃(pos:Nat),pos<=s.size/\wr.heap[w.heap.size]? = some (.stringIter s pos)/\Hid (xmlL ((natsOf s).drop pos)=R)/\Below w.heap.size w wr) (fun wr=>s.size-wr.iterPos w.heap.size)
 case atStart => exact⟨0,by omega,World.iter_heap w s 0,HR,(Below.refl _ w).alloc (Nat.le_refl _) _⟩
 case round =>
  obtain⟨pos,hp,hit,HK,hB⟩:=hrel;by_cases h:pos<s.size
  ·have hnx:∀ty,(Instr.next (.pointer (some ⟨w.heap.size,0,none⟩)) true ty).run Tryz.prog wr=_:=fun ty=>Lib.run_next_any_at wr w.heap.size s pos ty hit h;rw[decode_nats] at hnx;have hst:=step_in h;have hva:=xml_at h;have hle:=decL_le ((natsOf s).drop pos);have hit2:=Lib.iterAt_heap wr w.heap.size s pos (pos+(decL ((natsOf s).drop pos)).2) hit;have hB2:=Lib.below_iterAt hB (k:=w.heap.size) (Nat.le_refl _) s (pos+(decL ((natsOf s).drop pos)).2);have HC:∀ W,Hid _:=fun W=>broken_any s pos h W;have hbad:decL ((natsOf s).drop pos)=(65533,1)->R=false:=fun e=>HK.out.symm.trans (xmlL_bad (drop_ne h) e);have hnot:okX (decL ((natsOf s).drop pos)).1=false->R=false:=fun e=>HK.out.symm.trans (xmlL_not (drop_ne h) e);obtain⟨D,hD⟩:∃ D,decL ((natsOf s).drop pos)=D:=⟨_,rfl⟩;rw[hD] at hnx hst hit2 hB2 hva hbad hnot hle;simp only[hD] at HC;obtain⟨c,n⟩:=D;simp only at hnx hst hit2 hB2 HC hva hnot hle;obtain⟨W,hW⟩:∃ W,wr.iterAt w.heap.size s (pos+n)=W:=⟨_,rfl⟩;rw[hW] at hnx hit2 hB2;have HI:Hid _:=hit2;have HB:Hid _:=hB2;have HP:=iterPos_of hit;clear hit2 hB2 hB hW hD hit;have HCW:Hid _:=(HC W).out;have HA:Hid _:=allowed_any c hle W;clear HC;by_cases hd:(c,n)=(65533,1)
   ·have hRf:=hbad hd;subst hRf;have e:decide ((c,n)=(65533,1))=true:=decide_eq_true hd;rw[e] at HCW;clear e hd hbad hva HK HR hnot HA;go_wp2_with fail;refine Calls.mono HCW.out ?_;rintro e w1 ⟨rfl,rfl⟩;clear HCW;go_wp2;go_ret;exact⟨rfl,HB.out⟩
   ·have e:decide ((c,n)=(65533,1))=false:=decide_eq_false hd;rw[e] at HCW;by_cases ho:okX c=true
    ·have HN:Hid (xmlL ((natsOf s).drop (pos+n))=R):=(hva hd ho).symm.trans HK.out;rw[ho] at HA;clear e hd hbad hva HK HR hnot;go_wp2_with fail;refine Calls.mono HCW.out ?_;rintro e w1 ⟨rfl,rfl⟩;clear HCW;go_wp2_with fail;refine Calls.mono HA.out ?_;rintro e w1 ⟨rfl,rfl⟩;clear HA;go_wp2;refine⟨⟨pos+n,hst.1,HI.out,HN,HB.out⟩,?_⟩;rw[iterPos_of HI.out,HP];omega
    ·have ho:okX c=false:=by simpa using ho
     have hRf:=hnot ho;subst hRf;rw[ho] at HA;clear e hd hbad hva HK HR hnot;go_wp2_with fail;refine Calls.mono HCW.out ?_;rintro e w1 ⟨rfl,rfl⟩;clear HCW;go_wp2_with fail;refine Calls.mono HA.out ?_;rintro e w1 ⟨rfl,rfl⟩;clear HA;go_wp2;go_ret;exact⟨rfl,HB.out⟩
  ·have hnx:∀ty,(Instr.next (.pointer (some ⟨w.heap.size,0,none⟩)) true ty).run Tryz.prog wr=_:=fun ty=>Lib.run_next_end_at wr w.heap.size s pos ty hit h;have hR:R=true:=by rw[<-HK.out,drop_end h];rfl
   subst hR;have HB:Hid _:=hB;clear hB hit HK HR;go_wp2;go_ret;exact⟨rfl,HB.out⟩
theorem nats_str {l:List Nat} (h:Bys l):natsOf (strOfNums (l.map Int.ofNat))=l:=by
 unfold natsOf strOfNums;simp only[List.map_map];conv=>rhs;rw[<-List.map_id l]
 refine List.map_congr_left (fun x hx => ?_);have:=h x hx;simp only[Function.comp,id];rw[UInt8.toNat_ofNat'];show x % 256=x;omega
theorem str_nats (s:ByteArray):strOfNums ((natsOf s).map Int.ofNat)=s:=by
 unfold natsOf strOfNums;have e:(List.map (fun n:Int=>UInt8.ofNat n.toNat) (List.map Int.ofNat (List.map UInt8.toNat s.data.toList)))=s.data.toList:=by
  rw[List.map_map,List.map_map];conv=>rhs;rw[<-List.map_id s.data.toList]
  refine List.map_congr_left (fun x _ => ?_);simp
 rw[e]
end Go.Proofs.YtoncpcdepemlcaaGreatDoor
