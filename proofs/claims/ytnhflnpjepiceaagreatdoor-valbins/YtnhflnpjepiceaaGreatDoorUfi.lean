import Derived.Test.YtnhflnpjepiceaaGreatDoorUtxM
import Derived.Test.YtnhflnpjepiceaaGreatDoorOrdM
namespace Go.Proofs.YtnhflnpjepiceaaGreatDoor
set_option maxRecDepth 100000
set_option maxHeartbeats 8000000
open Go.RowKit
theorem write_str (m:Int) (w:World):Calls Tryz.prog 159 #[.int .i64 m] w fun e w'=>∃ B K,e=.returned (.slice (some ⟨B,0,none⟩) K K)/\(convert 82 9 (.slice (some ⟨B,0,none⟩) K K)).run Tryz.prog w'=.ok (.string (strOfNums ((wrN (kR m)).map Int.ofNat))) w'/\Below w.heap.size w w':=by
 refine(write_any m w).mono ?_;rintro e w' ⟨rfl,rfl⟩;refine⟨w.heap.size,_,rfl,?_,(Below.refl _ w).alloc (Nat.le_refl _) _⟩;refine jS (fun _=>True) _ _ _ (.inr ⟨w.heap.size,0,_,by rw[wrV_size,List.length_map],trivial,fun j hj => ?_⟩);have hv:=wrV_list m;have:(wrV m)[j]? = some (.int .u8 (((wrN (kR m)).map Int.ofNat)[j]?.getD 0)):=by rw[<-Array.getElem?_toList,hv,List.getElem?_map,List.getElem?_eq_getElem hj];rfl
 have:=(Row.new w 5 (wrV m)).cell this;rwa [Nat.zero_add]
def qG (sz : Nat) : Int := if sz = 2 then 192 else if sz = 3 then 224 else if sz = 4 then 240 else 0
def part (s : ByteArray) (sz : Nat) : Nat → Int
  | 0 => yr s 0 - qG sz
  | i + 1 => part s sz i * 64 + yr s (i + 1) - 128
theorem jC (s:ByteArray) (j:Nat):0<=yr s j/\yr s j<256:=by
 unfold yr;split
 ·rename_i h;have:=(s[j]'h).toNat_lt;omega
 ·omega
theorem part_bd (s:ByteArray) (sz:Nat):∀i,i<=4 -> -100000000000<=part s sz i/\part s sz i<=100000000000:=by
 have h0:=jC s 0;have h1:=jC s 1;have h2:=jC s 2;have h3:=jC s 3;have h4:=jC s 4;have hb:0<=qG sz/\qG sz<=240:=by unfold qG;repeat' split<;>omega
 intro i hi;have p0:part s sz 0=yr s 0-qG sz:=rfl;have p1:part s sz 1=part s sz 0*64+yr s 1-128:=rfl;have p2:part s sz 2=part s sz 1*64+yr s 2-128:=rfl;have p3:part s sz 3=part s sz 2*64+yr s 3-128:=rfl;have p4:part s sz 4=part s sz 3*64+yr s 4-128:=rfl;rcases(by omega:i=0\/i=1\/i=2\/i=3\/i=4) with rfl|rfl|rfl|rfl|rfl;all_goals omega
def j6 (s : ByteArray) (sz : Nat) : Prop := yU (part s sz (sz - 1)) ∧ strOfNums ((wrN (kR (part s sz (sz - 1)))).map Int.ofNat) = s.extract 0 sz
def Found (s : ByteArray) (w : World) (e : Ending) (w' : World) : Prop :=
  Below w.heap.size w w' ∧ ((∃ sz, 1 ≤ sz ∧ sz ≤ 4 ∧ sz ≤ s.size ∧ (∀ j, 1 ≤ j → j < sz → ¬ j6 s j) ∧ j6 s sz ∧ e = .returned (.tuple #[.int .i64 (part s sz (sz - 1)), .int .i64 (sz : Nat), .bool true])) ∨
    ((∀ j, 1 ≤ j → j ≤ 4 → j ≤ s.size → ¬ j6 s j) ∧ e = .returned (.tuple #[.int .i64 65533, .int .i64 1, .bool false])))
theorem kq {a b:ByteArray} (h:a≠b):(a.toList==b.toList)=false:=by
 rw[beq_eq_false_iff_ne];intro e;rw[ByteArray.toList_eq,ByteArray.toList_eq] at e;exact h (ByteArray.ext (Array.toList_inj.1 e))
theorem XO {p x D:Int} {sz K:Nat} (h:p=x-qG sz) (q:sz=K) (d:qG K=D):p=x-D:=by
 rw[<-d,<-q];exact h
theorem first_walk (s:ByteArray) (hs:0<s.size) (hl:s.size<=140737488351232) (w:World):Calls Tryz.prog 130 #[.string s] w (Found s w):=by
 have hb0:yr s 0=((s[0]'hs).toNat:Int):=dif_pos hs;go_enter Tryz.func130,Tryz.ntmps130;go_wp2_with fail;go_loopw [5] (fun v5 wr=>∃sz:Nat,1<=sz/\sz<=5/\sz<=s.size+1/\v5=.int .i64 (sz:Int)/\(∀j,1<=j->j<sz->¬ j6 s j)/\Below w.heap.size w wr) (fun v5 _=>5-(intOf v5).toNat)
 case atStart=>exact⟨1,by omega,by omega,by omega,rfl,fun j h1 h2=>by omega,Below.refl _ _⟩
 case round =>
  obtain⟨sz,h1,h5,hsz,rfl,hno,hB⟩:=hrel;by_cases h4:sz<=4/\sz<=s.size
  ·obtain⟨h4,h4s⟩:=h4;have t1:(sz:Int)<=4:=by omega
   have t2:(sz:Int)<=s.size:=by omega
   have hc256:(s[0]'hs).toNat<256:=(s[0]'hs).toNat_lt;have HP0:Hid (part s sz 0=((s[0]'hs).toNat:Int)-qG sz):=by show _=_;rw[part,hb0]
   rcases(by omega:sz=2\/sz=3\/sz=4\/sz=1) with q|q|q|q;all_goals
    first|(have t3:(sz:Int)=2:=(by omega))|(have t3:(sz:Int)=3:=(by omega))|(have t3:(sz:Int)=4:=(by omega))|(have t3:(sz:Int)=1:=(by omega))
    first|(have e6:Hid (part s sz 0=((s[0]'hs).toNat:Int)-192):=XO HP0.out q (by decide))|(have e6:Hid (part s sz 0=((s[0]'hs).toNat:Int)-224):=XO HP0.out q (by decide))|(have e6:Hid (part s sz 0=((s[0]'hs).toNat:Int)-240):=XO HP0.out q (by decide))|(have e6:Hid (part s sz 0=((s[0]'hs).toNat:Int)):=(XO HP0.out q (show qG 1=0 by decide)).trans (Int.sub_zero _))
    clear q;obtain⟨wo,hwo⟩:∃wo,wo=wr:=⟨_,rfl⟩;subst hwo;go_wp2_with fail;go_loopw [6,7] (fun v6 v7 wi=>∃i:Nat,1<=i/\i<=sz/\v7=.int .i64 (i:Int)/\v6=.int .i64 (part s sz (i-1))/\wi=wo) (fun _ v7 _=>4-(intOf v7).toNat)
    case atStart=>exact⟨1,by omega,by omega,rfl,by rw[e6.out],rfl⟩
    case round =>
     obtain⟨i,i1,i2,rfl,rfl,rfl⟩:=hrel;clear e6;by_cases hi:i<sz
     ·try omega
      all_goals
       have his:i<s.size:=by omega
       have hbi:yr s i=((s[i]'his).toNat:Int):=dif_pos his;have hc2:(s[i]'his).toNat<256:=(s[i]'his).toNat_lt;have HPi:Hid (part s sz i=part s sz (i-1)*64+((s[i]'his).toNat:Int)-128):=by show _=_;obtain⟨j,rfl⟩:∃j,i=j+1:=⟨i-1,by omega⟩;rw[<-hbi];rfl
       have hpb:=part_bd s sz (i-1) (by omega);obtain⟨p,hp⟩:∃p,part s sz (i-1)=p:=⟨_,rfl⟩;rw[hp] at hpb HPi ⊢;clear hbi hp;go_wp2;exact⟨⟨i+1,by omega,by omega,by simp,by rw[Nat.add_sub_cancel,HPi.out],trivial⟩,by simp[intOf];omega⟩
     ·obtain rfl:i=sz:=by omega
      have hpb:=part_bd s i (i-1) (by omega);obtain⟨p,hp⟩:∃p,part s i (i-1)=p:=⟨_,rfl⟩;rw[hp] at hpb ⊢;have HP:Hid (part s i (i-1)=p):=hp;clear hp HP0 hb0 hc256;by_cases pn:p<0
      ·have hh:¬ j6 s i:=fun h=>by have:=h.1.1;rw[HP.out] at this;omega
       have HNO:Hid (∀j,1<=j->j<i+1->¬ j6 s j):=fun j h1 h2=>by
        by_cases e:j=i
        ·rw[e];exact hh
        ·exact hno j h1 (by omega)
       have HBB:Hid (Below w.heap.size w wr.drew):=hB.drew;have t7:¬ (0:Int)<=p:=by omega
       clear hh hno hB HP;go_wp2_with fail;refine jc 15 rfl (by kernel_rfl) ?_;refine zv 0 rfl (by kernel_rfl) rfl ?_;go_wp2;show wpL _ _ _ _ _ _ _;refine zv 1 rfl (by kernel_rfl) rfl ?_;go_wp2;show wpL _ _ _ _ _ _ _;refine zv 2 rfl (by kernel_rfl) rfl ?_;go_wp2;show wpL _ _ _ _ _ _ _;refine zv 3 rfl (by kernel_rfl) rfl ?_;go_wp2;show wpL _ _ _ _ _ _ _;refine zv 4 rfl (by kernel_rfl) rfl ?_;go_wp2;show wpL _ _ _ _ _ _ _;refine zv 5 rfl (by kernel_rfl) rfl ?_;go_wp2;show wpL _ _ _ _ _ _ _;refine zv 6 rfl (by kernel_rfl) rfl ?_;go_wp2;show wpL _ _ _ _ _ _ _;refine qu 7 rfl (by kernel_rfl) (by kernel_rfl) rfl (fun _ _ _ h=>h) rfl ?_;refine qu 10 rfl (by kernel_rfl) (by kernel_rfl) rfl (fun _ _ _ h=>h) rfl ?_;refine qu 11 rfl (by kernel_rfl) (by kernel_rfl) rfl (fun _ _ _ h=>h) rfl ?_;refine qu 12 rfl (by kernel_rfl) (by kernel_rfl) rfl (fun _ _ _ h=>h) rfl ?_;refine zv 8 rfl (by kernel_rfl) rfl ?_;go_wp2;show wpL _ _ _ _ _ _ _;refine zv 9 rfl (by kernel_rfl) rfl ?_;go_wp2;show wpL _ _ _ _ _ _ _;refine zv 13 rfl (by kernel_rfl) rfl ?_;go_wp2;show wpL _ _ _ _ _ _ _;refine zv 14 rfl (by kernel_rfl) rfl ?_;go_wp2;show wpL _ _ _ _ _ _ _;refine Zb (by kernel_rfl) ?_;go_wp2;exact⟨⟨i+1,by omega,by omega,by omega,congrArg (Value.int .i64) (by omega),HNO.out,HBB.out⟩,by simp[intOf];omega⟩
      have t7:(0:Int)<=p:=by omega
      by_cases hch:yU p
      ·by_cases heq:strOfNums ((wrN (kR p)).map Int.ofNat)=s.extract 0 i
       ·have HC:Hid (Calls Tryz.prog 158 #[.int .i64 p] wr.drew fun e w'=>e=.returned (.bool true)/\w'=wr.drew):=by have:=qE p wr.drew;rwa [decide_eq_true hch] at this
        have HW:Hid _:=write_str p wr.drew;obtain⟨X,HX⟩:∃ X,Hid (strOfNums ((wrN (kR p)).map Int.ofNat)=X):=⟨_,rfl⟩;rw[HX.out] at HW;first|(have hxy:X=s.extract 0 2:=HX.out.symm.trans (heq.trans (congrArg (s.extract 0) (show i=2 by omega))))|(have hxy:X=s.extract 0 3:=HX.out.symm.trans (heq.trans (congrArg (s.extract 0) (show i=3 by omega))))|(have hxy:X=s.extract 0 4:=HX.out.symm.trans (heq.trans (congrArg (s.extract 0) (show i=4 by omega))))|(have hxy:X=s.extract 0 1:=HX.out.symm.trans (heq.trans (congrArg (s.extract 0) (show i=1 by omega))))
        have HH:Hid (j6 s i):=⟨by rw[HP.out];exact hch,by rw[HP.out];exact heq⟩;have HNO:Hid (∀j,1<=j->j<i->¬ j6 s j):=hno;have HBB:Hid (Below w.heap.size w wr.drew):=hB.drew;clear hno hB hch heq;go_wp2_with fail;refine jc 15 rfl (by kernel_rfl) ?_;refine zv 0 rfl (by kernel_rfl) rfl ?_;go_wp2;show wpL _ _ _ _ _ _ _;refine zv 1 rfl (by kernel_rfl) rfl ?_;go_wp2;show wpL _ _ _ _ _ _ _;refine zv 2 rfl (by kernel_rfl) rfl ?_;go_wp2;show wpL _ _ _ _ _ _ _;refine zv 3 rfl (by kernel_rfl) rfl ?_;go_wp2;show wpL _ _ _ _ _ _ _;refine zv 4 rfl (by kernel_rfl) rfl ?_;go_wp2_with fail;refine Calls.mono HC.out ?_;rintro e w1 ⟨rfl,rfl⟩;clear HC;go_wp2;show wpL _ _ _ _ _ _ _;refine zv 5 rfl (by kernel_rfl) rfl ?_;go_wp2;show wpL _ _ _ _ _ _ _;refine zv 6 rfl (by kernel_rfl) rfl ?_;go_wp2;show wpL _ _ _ _ _ _ _;refine qv 7 (v := ?_) rfl (by kernel_rfl) (by kernel_rfl) rfl (fun _ _ _ h=>h) rfl (by intro wx;go_simp<;>rfl) ?_;refine qv 10 (v := ?_) rfl (by kernel_rfl) (by kernel_rfl) rfl (fun _ _ _ h=>h) rfl (by intro wx;go_simp<;>rfl) ?_;refine qv 11 (v := ?_) rfl (by kernel_rfl) (by kernel_rfl) rfl (fun _ _ _ h=>h) rfl (by intro wx;go_simp<;>rfl) ?_;refine qv 12 (v := ?_) rfl (by kernel_rfl) (by kernel_rfl) rfl (fun _ _ _ h=>h) rfl (by intro wx;go_simp<;>rfl) ?_;refine zv 8 rfl (by kernel_rfl) rfl ?_;go_wp2_with fail;refine Calls.mono HW.out ?_;rintro e w2 ⟨B,K,rfl,hcv,b2⟩;clear HW;have HB2:Hid (Below w.heap.size w w2):=HBB.out.trans (b2.mono HBB.out.size);clear b2;go_wp2;show wpL _ _ _ _ _ _ _;refine zv 9 rfl (by kernel_rfl) rfl ?_;go_wp2;show wpL _ _ _ _ _ _ _;refine zv 13 rfl (by kernel_rfl) rfl ?_;go_wp2;show wpL _ _ _ _ _ _ _;refine zv 14 rfl (by kernel_rfl) rfl ?_;go_wp2;show wpL _ _ _ _ _ _ _;refine Zb (by kernel_rfl) ?_;go_wp2;go_ret3;refine⟨HB2.out,.inl ⟨i,by omega,by omega,by omega,HNO.out,HH.out,?_⟩⟩;rw[HP.out];rw[t3];rfl
       ·have HC:Hid (Calls Tryz.prog 158 #[.int .i64 p] wr.drew fun e w'=>e=.returned (.bool true)/\w'=wr.drew):=by have:=qE p wr.drew;rwa [decide_eq_true hch] at this
        have HW:Hid _:=write_str p wr.drew;obtain⟨X,HX⟩:∃ X,Hid (strOfNums ((wrN (kR p)).map Int.ofNat)=X):=⟨_,rfl⟩;rw[HX.out] at HW;first|(have hxy:(X.toList==(s.extract 0 2).toList)=false:=kq fun h=>heq (HX.out.trans (h.trans (congrArg (s.extract 0) (show 2=i by omega)))))|(have hxy:(X.toList==(s.extract 0 3).toList)=false:=kq fun h=>heq (HX.out.trans (h.trans (congrArg (s.extract 0) (show 3=i by omega)))))|(have hxy:(X.toList==(s.extract 0 4).toList)=false:=kq fun h=>heq (HX.out.trans (h.trans (congrArg (s.extract 0) (show 4=i by omega)))))|(have hxy:(X.toList==(s.extract 0 1).toList)=false:=kq fun h=>heq (HX.out.trans (h.trans (congrArg (s.extract 0) (show 1=i by omega)))))
        have hh:¬ j6 s i:=fun h=>heq (by have:=h.2;rwa [HP.out] at this);have HNO:Hid (∀j,1<=j->j<i+1->¬ j6 s j):=fun j h1 h2=>by
         by_cases e:j=i
         ·rw[e];exact hh
         ·exact hno j h1 (by omega)
        clear hh;have HBB:Hid (Below w.heap.size w wr.drew):=hB.drew;clear hno hB hch heq;go_wp2_with fail;refine jc 15 rfl (by kernel_rfl) ?_;refine zv 0 rfl (by kernel_rfl) rfl ?_;go_wp2;show wpL _ _ _ _ _ _ _;refine zv 1 rfl (by kernel_rfl) rfl ?_;go_wp2;show wpL _ _ _ _ _ _ _;refine zv 2 rfl (by kernel_rfl) rfl ?_;go_wp2;show wpL _ _ _ _ _ _ _;refine zv 3 rfl (by kernel_rfl) rfl ?_;go_wp2;show wpL _ _ _ _ _ _ _;refine zv 4 rfl (by kernel_rfl) rfl ?_;go_wp2_with fail;refine Calls.mono HC.out ?_;rintro e w1 ⟨rfl,rfl⟩;clear HC;go_wp2;show wpL _ _ _ _ _ _ _;refine zv 5 rfl (by kernel_rfl) rfl ?_;go_wp2;show wpL _ _ _ _ _ _ _;refine zv 6 rfl (by kernel_rfl) rfl ?_;go_wp2;show wpL _ _ _ _ _ _ _;refine qv 7 (v := ?_) rfl (by kernel_rfl) (by kernel_rfl) rfl (fun _ _ _ h=>h) rfl (by intro wx;go_simp<;>rfl) ?_;refine qv 10 (v := ?_) rfl (by kernel_rfl) (by kernel_rfl) rfl (fun _ _ _ h=>h) rfl (by intro wx;go_simp<;>rfl) ?_;refine qv 11 (v := ?_) rfl (by kernel_rfl) (by kernel_rfl) rfl (fun _ _ _ h=>h) rfl (by intro wx;go_simp<;>rfl) ?_;refine qv 12 (v := ?_) rfl (by kernel_rfl) (by kernel_rfl) rfl (fun _ _ _ h=>h) rfl (by intro wx;go_simp<;>rfl) ?_;refine zv 8 rfl (by kernel_rfl) rfl ?_;go_wp2_with fail;refine Calls.mono HW.out ?_;rintro e w2 ⟨B,K,rfl,hcv,b2⟩;clear HW;have HB2:Hid (Below w.heap.size w w2):=HBB.out.trans (b2.mono HBB.out.size);clear b2;go_wp2;show wpL _ _ _ _ _ _ _;refine zv 9 rfl (by kernel_rfl) rfl ?_;go_wp2;show wpL _ _ _ _ _ _ _;refine zv 13 rfl (by kernel_rfl) rfl ?_;go_wp2;show wpL _ _ _ _ _ _ _;refine zv 14 rfl (by kernel_rfl) rfl ?_;go_wp2;show wpL _ _ _ _ _ _ _;refine Zb (by kernel_rfl) ?_;go_wp2;exact⟨⟨i+1,by omega,by omega,by omega,congrArg (Value.int .i64) (by omega),HNO.out,HB2.out⟩,by simp[intOf];omega⟩
      ·have hh:¬ j6 s i:=fun h=>hch (by have:=h.1;rwa [HP.out] at this);have HNO:Hid (∀j,1<=j->j<i+1->¬ j6 s j):=fun j h1 h2=>by
        by_cases e:j=i
        ·rw[e];exact hh
        ·exact hno j h1 (by omega)
       have HBB:Hid (Below w.heap.size w wr.drew):=hB.drew;have HC:Hid (Calls Tryz.prog 158 #[.int .i64 p] wr.drew fun e w'=>e=.returned (.bool false)/\w'=wr.drew):=by have:=qE p wr.drew;rwa [decide_eq_false hch] at this
       clear hh hno hB HP hch;go_wp2_with fail;refine jc 15 rfl (by kernel_rfl) ?_;refine zv 0 rfl (by kernel_rfl) rfl ?_;go_wp2;show wpL _ _ _ _ _ _ _;refine zv 1 rfl (by kernel_rfl) rfl ?_;go_wp2;show wpL _ _ _ _ _ _ _;refine zv 2 rfl (by kernel_rfl) rfl ?_;go_wp2;show wpL _ _ _ _ _ _ _;refine zv 3 rfl (by kernel_rfl) rfl ?_;go_wp2;show wpL _ _ _ _ _ _ _;refine zv 4 rfl (by kernel_rfl) rfl ?_;go_wp2_with fail;refine Calls.mono HC.out ?_;rintro e w1 ⟨rfl,rfl⟩;clear HC;go_wp2;show wpL _ _ _ _ _ _ _;refine zv 5 rfl (by kernel_rfl) rfl ?_;go_wp2;show wpL _ _ _ _ _ _ _;refine zv 6 rfl (by kernel_rfl) rfl ?_;go_wp2;show wpL _ _ _ _ _ _ _;refine qu 7 rfl (by kernel_rfl) (by kernel_rfl) rfl (fun _ _ _ h=>h) rfl ?_;refine qu 10 rfl (by kernel_rfl) (by kernel_rfl) rfl (fun _ _ _ h=>h) rfl ?_;refine qu 11 rfl (by kernel_rfl) (by kernel_rfl) rfl (fun _ _ _ h=>h) rfl ?_;refine qu 12 rfl (by kernel_rfl) (by kernel_rfl) rfl (fun _ _ _ h=>h) rfl ?_;refine zv 8 rfl (by kernel_rfl) rfl ?_;go_wp2;show wpL _ _ _ _ _ _ _;refine zv 9 rfl (by kernel_rfl) rfl ?_;go_wp2;show wpL _ _ _ _ _ _ _;refine zv 13 rfl (by kernel_rfl) rfl ?_;go_wp2;show wpL _ _ _ _ _ _ _;refine zv 14 rfl (by kernel_rfl) rfl ?_;go_wp2;show wpL _ _ _ _ _ _ _;refine Zb (by kernel_rfl) ?_;go_wp2;exact⟨⟨i+1,by omega,by omega,by omega,congrArg (Value.int .i64) (by omega),HNO.out,HBB.out⟩,by simp[intOf];omega⟩
  ·have HB:Hid _:=hB;by_cases q4:sz<=4
   ·have t1:(sz:Int)<=4:=by omega
    have t2:¬ (sz:Int)<=s.size:=by omega
    have HNO:Hid (∀j,1<=j->j<=4->j<=s.size->¬ j6 s j):=fun j a b c=>hno j a (by omega);clear hno hB hb0;go_wp2;go_ret3;exact⟨HB.out,.inr ⟨HNO.out,rfl⟩⟩
   ·have t1:¬ (sz:Int)<=4:=by omega
    have HNO:Hid (∀j,1<=j->j<=4->j<=s.size->¬ j6 s j):=fun j a b c=>hno j a (by omega);clear hno hB hb0;go_wp2;go_ret3;exact⟨HB.out,.inr ⟨HNO.out,rfl⟩⟩
end Go.Proofs.YtnhflnpjepiceaaGreatDoor
