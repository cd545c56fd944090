import Derived.Test.YtnhflnpjepiceaaGreatDoorDpaM
import Derived.Test.YtnhflnpjepiceaaGreatDoorWfu
import Derived.Test.YtnhflnpjepiceaaGreatDoorWprM
import Derived.Test.YtnhflnpjepiceaaGreatDoorWdgM
import Derived.Test.YtnhflnpjepiceaaGreatDoorPtn
import Derived.Test.YtnhflnpjepiceaaGreatDoorSh2
namespace Go.Proofs.YtnhflnpjepiceaaGreatDoor
set_option maxRecDepth 100000
set_option maxHeartbeats 4000000
open Go.RowKit
def nm1 : ByteArray := ⟨#[35, 68, 73, 86, 47, 48, 33]⟩
theorem nl1:nm1.toList=([35,68,73,86,47,48,33]:List UInt8):=by rw[ByteArray.toList_eq];rfl
def nm2 : ByteArray := ⟨#[35, 86, 65, 76, 85, 69, 33]⟩
theorem nl2:nm2.toList=([35,86,65,76,85,69,33]:List UInt8):=by rw[ByteArray.toList_eq];rfl
def nm3 : ByteArray := ⟨#[35, 82, 69, 70, 33]⟩
theorem nl3:nm3.toList=([35,82,69,70,33]:List UInt8):=by rw[ByteArray.toList_eq];rfl
def nm4 : ByteArray := ⟨#[35, 78, 65, 77, 69, 63]⟩
theorem nl4:nm4.toList=([35,78,65,77,69,63]:List UInt8):=by rw[ByteArray.toList_eq];rfl
def nm5 : ByteArray := ⟨#[35, 78, 85, 77, 33]⟩
theorem nl5:nm5.toList=([35,78,85,77,33]:List UInt8):=by rw[ByteArray.toList_eq];rfl
def nm6 : ByteArray := ⟨#[35, 78, 47, 65]⟩
theorem nl6:nm6.toList=([35,78,47,65]:List UInt8):=by rw[ByteArray.toList_eq];rfl
def nm7 : ByteArray := ⟨#[35, 67, 89, 67, 76, 69, 33]⟩
theorem nl7:nm7.toList=([35,67,89,67,76,69,33]:List UInt8):=by rw[ByteArray.toList_eq];rfl
structure Names (w : World) : Prop where
  n0 : w.cell? ⟨0, 0, none⟩ = some (.string ⟨#[]⟩)
  n1 : w.cell? ⟨0, 1, none⟩ = some (.string ⟨#[35, 68, 73, 86, 47, 48, 33]⟩)
  n2 : w.cell? ⟨0, 2, none⟩ = some (.string ⟨#[35, 86, 65, 76, 85, 69, 33]⟩)
  n3 : w.cell? ⟨0, 3, none⟩ = some (.string ⟨#[35, 82, 69, 70, 33]⟩)
  n4 : w.cell? ⟨0, 4, none⟩ = some (.string ⟨#[35, 78, 65, 77, 69, 63]⟩)
  n5 : w.cell? ⟨0, 5, none⟩ = some (.string ⟨#[35, 78, 85, 77, 33]⟩)
  n6 : w.cell? ⟨0, 6, none⟩ = some (.string ⟨#[35, 78, 47, 65]⟩)
  n7 : w.cell? ⟨0, 7, none⟩ = some (.string ⟨#[35, 67, 89, 67, 76, 69, 33]⟩)
theorem cell_lt {w:World} {b o:Nat} {v:Value} (h:w.cell? ⟨b,o,none⟩=some v):b<w.heap.size:=by
 by_cases hb:b<w.heap.size
 ·exact hb
 ·simp[World.cell?,Array.getElem?_eq_none (Nat.le_of_not_lt hb)] at h
theorem Names.below {w w' : World} {N : Nat} (h : Names w) (hN : 0 < N) (hB : Below N w w') : Names w' :=
  have hc : ∀ i, w'.cell? ⟨0, i, none⟩ = w.cell? ⟨0, i, none⟩ := fun _ => World.cell?_of_block (hB.block 0 hN)
  ⟨(hc 0).trans h.n0, (hc 1).trans h.n1, (hc 2).trans h.n2, (hc 3).trans h.n3, (hc 4).trans h.n4, (hc 5).trans h.n5, (hc 6).trans h.n6, (hc 7).trans h.n7⟩
structure Env (w : World) : Prop where
  tab : YQ w
  nam : Names w
theorem Env.next {w w':World} (h:Env w) (hB:Below w.heap.size w w'):Env w':=⟨h.tab.below hB,h.nam.below (cell_lt h.nam.n0) hB⟩
def qA (x : Int) : ByteArray := if x = 1 then nm1 else if x = 2 then nm2 else if x = 3 then nm3 else if x = 4 then nm4 else if x = 5 then nm5 else if x = 6 then nm6 else if x = 7 then nm7 else .empty
def xV (s : ByteArray) : Int := if s = nm1 then 1 else if s = nm2 then 2 else if s = nm3 then 3 else if s = nm4 then 4 else if s = nm5 then 5 else if s = nm6 then 6 else if s = nm7 then 7 else 0
theorem errName_any (x:Int) (w:World) (hN:Names w):Calls Tryz.prog 29 #[.int .i64 x] w fun r w'=>r=.returned (.string (qA x))/\w'=w:=by
 obtain⟨n0,n1,n2,n3,n4,n5,n6,n7⟩:=hN;by_cases h:xW x=true
 ·have h':1<=x/\x<=7:=of_decide_eq_true h;obtain h1|h1|h1|h1|h1|h1|h1:x=1\/x=2\/x=3\/x=4\/x=5\/x=6\/x=7:=by omega
  all_goals
   subst h1;clear h';go_enter Tryz.func29,Tryz.ntmps29;go_wp2_with (go_at_call 45;refine(j5 _ _).mono ?_;rintro _ w10 ⟨rfl,hw10⟩;rw[hw10,h];clear hw10 w10);go_ret;exact⟨rfl,rfl⟩
 ·have h2:xW x=false:=by simpa using h
  have hx:qA x=.empty:=by have:¬ (1<=x/\x<=7):=of_decide_eq_false h2;unfold qA;repeat rw[if_neg (by omega)]
  rw[hx];clear hx h;go_enter Tryz.func29,Tryz.ntmps29;go_wp2_with (go_at_call 45;refine(j5 _ _).mono ?_;rintro _ w10 ⟨rfl,hw10⟩;rw[hw10,h2];clear hw10 w10);go_ret;exact⟨rfl,rfl⟩
theorem code_no (s:ByteArray) (h:∀j:Nat,1<=j->(j:Int)<8->s≠qA j):xV s=0:=by
 unfold xV;rw[if_neg (show s≠nm1 from h 1 (by decide) (by decide))];rw[if_neg (show s≠nm2 from h 2 (by decide) (by decide))];rw[if_neg (show s≠nm3 from h 3 (by decide) (by decide))];rw[if_neg (show s≠nm4 from h 4 (by decide) (by decide))];rw[if_neg (show s≠nm5 from h 5 (by decide) (by decide))];rw[if_neg (show s≠nm6 from h 6 (by decide) (by decide))];rw[if_neg (show s≠nm7 from h 7 (by decide) (by decide))]
theorem jT (k:Nat) (s:ByteArray) (h1:1<=k) (h7:k<=7) (hs:s=qA k) (h:∀j:Nat,1<=j->(j:Int)<k->s≠qA j):xV s=k:=by
 unfold xV;obtain e|e|e|e|e|e|e:k=1\/k=2\/k=3\/k=4\/k=5\/k=6\/k=7:=by omega
 ·subst e;exact if_pos hs
 ·subst e;rw[if_neg (show s≠nm1 from h 1 (by decide) (by decide))];exact if_pos hs
 ·subst e;rw[if_neg (show s≠nm1 from h 1 (by decide) (by decide))];rw[if_neg (show s≠nm2 from h 2 (by decide) (by decide))];exact if_pos hs
 ·subst e;rw[if_neg (show s≠nm1 from h 1 (by decide) (by decide))];rw[if_neg (show s≠nm2 from h 2 (by decide) (by decide))];rw[if_neg (show s≠nm3 from h 3 (by decide) (by decide))];exact if_pos hs
 ·subst e;rw[if_neg (show s≠nm1 from h 1 (by decide) (by decide))];rw[if_neg (show s≠nm2 from h 2 (by decide) (by decide))];rw[if_neg (show s≠nm3 from h 3 (by decide) (by decide))];rw[if_neg (show s≠nm4 from h 4 (by decide) (by decide))];exact if_pos hs
 ·subst e;rw[if_neg (show s≠nm1 from h 1 (by decide) (by decide))];rw[if_neg (show s≠nm2 from h 2 (by decide) (by decide))];rw[if_neg (show s≠nm3 from h 3 (by decide) (by decide))];rw[if_neg (show s≠nm4 from h 4 (by decide) (by decide))];rw[if_neg (show s≠nm5 from h 5 (by decide) (by decide))];exact if_pos hs
 ·subst e;rw[if_neg (show s≠nm1 from h 1 (by decide) (by decide))];rw[if_neg (show s≠nm2 from h 2 (by decide) (by decide))];rw[if_neg (show s≠nm3 from h 3 (by decide) (by decide))];rw[if_neg (show s≠nm4 from h 4 (by decide) (by decide))];rw[if_neg (show s≠nm5 from h 5 (by decide) (by decide))];rw[if_neg (show s≠nm6 from h 6 (by decide) (by decide))];exact if_pos hs
theorem xu {a b:ByteArray} (h:a≠b):(a.toList==b.toList)=false:=by
 rw[beq_eq_false_iff_ne];exact fun e=>h ((toList_iff _ _).1 e)
theorem errCode_any (s:ByteArray) (w:World) (hN:Names w):Calls Tryz.prog 20 #[.string s] w fun r w'=>r=.returned (.tuple #[.int .i64 (xV s),.bool (decide (xV s≠0))])/\w'=w:=by
 obtain⟨n0,n1,n2,n3,n4,n5,n6,n7⟩:=hN;have HPast:Hid (∀j:Nat,1<=j->(j:Int)<1->s≠qA j):=fun j h1 h2=>absurd h2 (by omega);go_enter Tryz.func20,Tryz.ntmps20;go_wp2_with fail;go_loopw [4] (fun v4 wr=>∃k:Int,v4=.int .i64 k/\wr=w/\1<=k/\k<=8/\Hid (∀j:Nat,1<=j->(j:Int)<k->s≠qA j)) (fun v4 _=>(8-intOf v4).toNat)
 case atStart=>exact⟨1,rfl,rfl,by omega,by omega,HPast⟩
 case round =>
  clear HPast;obtain⟨k,rfl,rfl,hk1,hk8,HP⟩:=hrel;obtain h1|h1|h1|h1|h1|h1|h1|h1:k=1\/k=2\/k=3\/k=4\/k=5\/k=6\/k=7\/k=8:=by omega
  ·subst h1;clear hk1 hk8;by_cases hs:s=nm1
   ·have hE:s.toList=([35,68,73,86,47,48,33]:List UInt8):=by rw[hs,nl1]
    have HC:Hid (xV s=1):=jT 1 s (by omega) (by omega) hs HP.out;clear HP hs;go_wp2;go_ret2;exact⟨by rw[HC.out];rfl,rfl⟩
   ·have hE:(([35,68,73,86,47,48,33]:List UInt8)==s.toList)=false:=by rw[<-nl1];exact xu (fun e=>hs e.symm)
    have HP2:Hid (∀j:Nat,1<=j->(j:Int)<2->s≠qA j):=fun j h1 h2=>by
     by_cases hj:(j:Int)=1
     ·rw[hj];exact hs
     ·exact HP.out j h1 (by omega)
    clear HP hs;go_wp2;exact⟨⟨2,rfl,trivial,by omega,by omega,HP2⟩,by simp[intOf]⟩
  ·subst h1;clear hk1 hk8;by_cases hs:s=nm2
   ·have hE:s.toList=([35,86,65,76,85,69,33]:List UInt8):=by rw[hs,nl2]
    have HC:Hid (xV s=2):=jT 2 s (by omega) (by omega) hs HP.out;clear HP hs;go_wp2;go_ret2;exact⟨by rw[HC.out];rfl,rfl⟩
   ·have hE:(([35,86,65,76,85,69,33]:List UInt8)==s.toList)=false:=by rw[<-nl2];exact xu (fun e=>hs e.symm)
    have HP2:Hid (∀j:Nat,1<=j->(j:Int)<3->s≠qA j):=fun j h1 h2=>by
     by_cases hj:(j:Int)=2
     ·rw[hj];exact hs
     ·exact HP.out j h1 (by omega)
    clear HP hs;go_wp2;exact⟨⟨3,rfl,trivial,by omega,by omega,HP2⟩,by simp[intOf]⟩
  ·subst h1;clear hk1 hk8;by_cases hs:s=nm3
   ·have hE:s.toList=([35,82,69,70,33]:List UInt8):=by rw[hs,nl3]
    have HC:Hid (xV s=3):=jT 3 s (by omega) (by omega) hs HP.out;clear HP hs;go_wp2;go_ret2;exact⟨by rw[HC.out];rfl,rfl⟩
   ·have hE:(([35,82,69,70,33]:List UInt8)==s.toList)=false:=by rw[<-nl3];exact xu (fun e=>hs e.symm)
    have HP2:Hid (∀j:Nat,1<=j->(j:Int)<4->s≠qA j):=fun j h1 h2=>by
     by_cases hj:(j:Int)=3
     ·rw[hj];exact hs
     ·exact HP.out j h1 (by omega)
    clear HP hs;go_wp2;exact⟨⟨4,rfl,trivial,by omega,by omega,HP2⟩,by simp[intOf]⟩
  ·subst h1;clear hk1 hk8;by_cases hs:s=nm4
   ·have hE:s.toList=([35,78,65,77,69,63]:List UInt8):=by rw[hs,nl4]
    have HC:Hid (xV s=4):=jT 4 s (by omega) (by omega) hs HP.out;clear HP hs;go_wp2;go_ret2;exact⟨by rw[HC.out];rfl,rfl⟩
   ·have hE:(([35,78,65,77,69,63]:List UInt8)==s.toList)=false:=by rw[<-nl4];exact xu (fun e=>hs e.symm)
    have HP2:Hid (∀j:Nat,1<=j->(j:Int)<5->s≠qA j):=fun j h1 h2=>by
     by_cases hj:(j:Int)=4
     ·rw[hj];exact hs
     ·exact HP.out j h1 (by omega)
    clear HP hs;go_wp2;exact⟨⟨5,rfl,trivial,by omega,by omega,HP2⟩,by simp[intOf]⟩
  ·subst h1;clear hk1 hk8;by_cases hs:s=nm5
   ·have hE:s.toList=([35,78,85,77,33]:List UInt8):=by rw[hs,nl5]
    have HC:Hid (xV s=5):=jT 5 s (by omega) (by omega) hs HP.out;clear HP hs;go_wp2;go_ret2;exact⟨by rw[HC.out];rfl,rfl⟩
   ·have hE:(([35,78,85,77,33]:List UInt8)==s.toList)=false:=by rw[<-nl5];exact xu (fun e=>hs e.symm)
    have HP2:Hid (∀j:Nat,1<=j->(j:Int)<6->s≠qA j):=fun j h1 h2=>by
     by_cases hj:(j:Int)=5
     ·rw[hj];exact hs
     ·exact HP.out j h1 (by omega)
    clear HP hs;go_wp2;exact⟨⟨6,rfl,trivial,by omega,by omega,HP2⟩,by simp[intOf]⟩
  ·subst h1;clear hk1 hk8;by_cases hs:s=nm6
   ·have hE:s.toList=([35,78,47,65]:List UInt8):=by rw[hs,nl6]
    have HC:Hid (xV s=6):=jT 6 s (by omega) (by omega) hs HP.out;clear HP hs;go_wp2;go_ret2;exact⟨by rw[HC.out];rfl,rfl⟩
   ·have hE:(([35,78,47,65]:List UInt8)==s.toList)=false:=by rw[<-nl6];exact xu (fun e=>hs e.symm)
    have HP2:Hid (∀j:Nat,1<=j->(j:Int)<7->s≠qA j):=fun j h1 h2=>by
     by_cases hj:(j:Int)=6
     ·rw[hj];exact hs
     ·exact HP.out j h1 (by omega)
    clear HP hs;go_wp2;exact⟨⟨7,rfl,trivial,by omega,by omega,HP2⟩,by simp[intOf]⟩
  ·subst h1;clear hk1 hk8;by_cases hs:s=nm7
   ·have hE:s.toList=([35,67,89,67,76,69,33]:List UInt8):=by rw[hs,nl7]
    have HC:Hid (xV s=7):=jT 7 s (by omega) (by omega) hs HP.out;clear HP hs;go_wp2;go_ret2;exact⟨by rw[HC.out];rfl,rfl⟩
   ·have hE:(([35,67,89,67,76,69,33]:List UInt8)==s.toList)=false:=by rw[<-nl7];exact xu (fun e=>hs e.symm)
    have HP2:Hid (∀j:Nat,1<=j->(j:Int)<8->s≠qA j):=fun j h1 h2=>by
     by_cases hj:(j:Int)=7
     ·rw[hj];exact hs
     ·exact HP.out j h1 (by omega)
    clear HP hs;go_wp2;exact⟨⟨8,rfl,trivial,by omega,by omega,HP2⟩,by simp[intOf]⟩
  ·subst h1;have HC:Hid (xV s=0):=code_no s HP.out;clear HP hk1 hk8;go_wp2;go_ret2;exact⟨by rw[HC.out];rfl,rfl⟩
set_option maxHeartbeats 2000000
theorem zZ {v:Vl} (h:zK v=true):v=vE\/(∃c e,v=vN c e/\zL c e=true)\/(∃s,v=vT s/\yB s=true)\/(∃b,v=vB b)\/(∃x,v=vX x/\xW x=true):=by
 unfold zK at h;split at h
 ·exact .inl ((Vl.eqB_iff _ _).1 h)
 ·split at h
  ·obtain⟨h1,h2⟩:=(Bool.and_eq_true_iff).1 h;exact .inr (.inl ⟨_,_,(Vl.eqB_iff _ _).1 h2,h1⟩)
  ·split at h
   ·obtain⟨h1,h2⟩:=(Bool.and_eq_true_iff).1 h;exact .inr (.inr (.inl ⟨_,(Vl.eqB_iff _ _).1 h2,h1⟩))
   ·split at h
    ·exact .inr (.inr (.inr (.inl ⟨_,(Vl.eqB_iff _ _).1 h⟩)))
    ·split at h
     ·obtain⟨h1,h2⟩:=(Bool.and_eq_true_iff).1 h;exact .inr (.inr (.inr (.inr ⟨_,(Vl.eqB_iff _ _).1 h2,h1⟩)))
     ·cases h
theorem right_x2:zK (vX 2)=true:=by simp[zK,vX,Vl.eqB,xW]
theorem yO (v:Vl):zK (zp v)=true:=by
 unfold zp;cases h:zK v with
 | true=>exact h
 | false=>exact right_x2
theorem yH {v:Vl} (h:zK v=true):zp v=v:=by unfold zp;rw[h];rfl
theorem xJ (v:Vl):zp v=vE∨(∃c e,zp v=vN c e∧zL c e=true)∨(∃s,zp v=vT s∧yB s=true)∨(∃b,zp v=vB b)∨(∃x,zp v=vX x∧xW x=true):=zZ (yO v)
theorem XZ:vE.v=.agg #[.int .i64 0,.int .i64 0,.int .i64 0,.string .empty,.bool false,.int .i64 0]:=rfl
theorem YR (c e:Int):(vN c e).v=.agg #[.int .i64 1,.int .i64 c,.int .i64 e,.string .empty,.bool false,.int .i64 0]:=rfl
theorem vT_v (s:ByteArray):(vT s).v=.agg #[.int .i64 2,.int .i64 0,.int .i64 0,.string s,.bool false,.int .i64 0]:=rfl
theorem Y7 (b:Bool):(vB b).v=.agg #[.int .i64 3,.int .i64 0,.int .i64 0,.string .empty,.bool b,.int .i64 0]:=rfl
theorem XY (x:Int):(vX x).v=.agg #[.int .i64 4,.int .i64 0,.int .i64 0,.string .empty,.bool false,.int .i64 x]:=rfl
theorem Vl.v_form (v:Vl):∃k c e s b x,v.v=.agg #[.int .i64 k,.int .i64 c,.int .i64 e,.string s,.bool b,.int .i64 x]:=⟨_,_,_,_,_,_,rfl⟩
theorem jq {s:ByteArray} (h:yB s=true):s.size≤255:=of_decide_eq_true ((Bool.and_eq_true_iff).1 h).1
theorem xS {c e:Int} (h:zL c e=true):zo e:=by
 unfold zL at h;unfold zo;split at h
 ·have:=of_decide_eq_true h;omega
 ·simp at h;omega
def numK (v : Vl) : Vl := if v.k = 0 then vN 0 0 else if v.k = 2 then YS v.s else if v.k = 3 then (if v.b then vN 1 0 else vN 0 0) else v
def yb (v : Vl) : Vl := numK (zp v)
def XG (v : Vl) : Vl := if v.k = 0 then vT .empty else if v.k = 1 then vT (yY v.c v.e) else if v.k = 3 then vT (x9 v.b) else v
def jd (v : Vl) : Vl := XG (zp v)
def loS (s : ByteArray) : ByteArray := strOfNums (upto (yW s 65 32) s.size)
def XI (v : Vl) : ByteArray := if (zp v).k = 4 then qA (zp v).x else (jd v).s
theorem Ye:ofW 0 0 0=vN 0 0:=by simp[ofW,zL]
theorem of_one:ofW 1 0 0=vN 1 0:=by simp[ofW,zL]
theorem toList_ne2 {s:ByteArray} {l:List UInt8} (h:s≠⟨l.toArray⟩):(s.toList==l)=false:=by
 rw[beq_eq_false_iff_ne];intro e;apply h;rw[ByteArray.toList_eq] at e;exact ByteArray.ext (Array.toList_inj.1 (by rw[e]))
theorem xR (v:Vl) (hc:I64 v.c) (w:World):Calls Tryz.prog 11 #[v.v] w fun r w'=>r=.returned (yb v).v/\Below w.heap.size w w':=by
 have HT:∀ V,Hid (Calls Tryz.prog 48 #[v.v] V fun r w'=>r=.returned (zp v).v/\Below V.heap.size V w'):=fun V=>yT v hc V;obtain⟨u,hu⟩:∃u,zp v=u:=⟨_,rfl⟩;have hcs:=xJ v;unfold yb;rw[hu] at HT hcs ⊢;have hhc:=hc;clear hu hc;obtain⟨k,c,e,s,b,x,hv⟩:=v.v_form;rw[hv] at HT ⊢;clear hv;have h0:=PR.start w #[.int .i64 k,.int .i64 c,.int .i64 e,.string s,.bool b,.int .i64 x] #[.int .i64 0,.int .i64 0,.int .i64 0,.string .empty,.bool false,.int .i64 0];rcases hcs with rfl|⟨c',e',rfl,hr⟩|⟨s',rfl,hr⟩|⟨b',rfl⟩|⟨x',rfl,hr⟩
 ·rw[XZ] at HT;go_enter Tryz.func11,Tryz.ntmps11;go_wp2_with fail;refine Calls.mono (HT _).out ?_;rintro _ w1 ⟨rfl,b1⟩;have h1:=h0.next b1
  obtain⟨m0,m1,m2,m3,m4,m5⟩:=h1.1.six;have mf:=h1.1.frozen;have ml:=h1.1.lt;have h2:=h1.setP (.int .i64 0) (.int .i64 0) (.int .i64 0) (.string .empty) (.bool false) (.int .i64 0);obtain⟨n0,n1,n2,n3,n4,n5⟩:=h2.1.six;obtain⟨y0,y1,y2,y3,y4,y5⟩:=h2.2.1.six;have zf:=h2.2.1.frozen;have wl:=h2.2.1.lt;clear h0 b1 HT h1;go_wp2_with fail;refine Calls.mono (jl 0 0 0 ⟨by decide,by decide⟩ _) ?_;rintro _ w2 ⟨rfl,b2⟩;rw[Ye,YR];have h3:=h2.next b2
  obtain⟨p0,p1,p2,p3,p4,p5⟩:=h3.2.1.six;have qf:=h3.2.1.frozen;have ql:=h3.2.1.lt;clear b2 n0 n1 n2 n3 n4 n5 y0 y1 y2 y3 y4 y5 zf wl;go_wp2;exact bodyPost_ret (zb rfl (g:=w.heap.size+1) rfl ((h3.setR _ _ _ _ _ _).res rfl)) rfl ⟨rfl,(h3.setR _ _ _ _ _ _).2.2⟩
 ·rw[YR] at HT;go_enter Tryz.func11,Tryz.ntmps11;go_wp2_with fail;refine Calls.mono (HT _).out ?_;rintro _ w1 ⟨rfl,b1⟩;have h1:=h0.next b1
  obtain⟨m0,m1,m2,m3,m4,m5⟩:=h1.1.six;have mf:=h1.1.frozen;have ml:=h1.1.lt;have h2:=h1.setP (.int .i64 1) (.int .i64 c') (.int .i64 e') (.string .empty) (.bool false) (.int .i64 0);obtain⟨n0,n1,n2,n3,n4,n5⟩:=h2.1.six;obtain⟨y0,y1,y2,y3,y4,y5⟩:=h2.2.1.six;have zf:=h2.2.1.frozen;have wl:=h2.2.1.lt;clear h0 b1 HT h1;go_wp2;exact bodyPost_ret (zb rfl (g:=w.heap.size+1) rfl ((h2.setR _ _ _ _ _ _).res rfl)) rfl ⟨rfl,(h2.setR _ _ _ _ _ _).2.2⟩
 ·rw[vT_v] at HT;have hs2:=jq hr;have HN:∀ V,Hid (Calls Tryz.prog 49 #[.string s'] V fun r w'=>r=.returned (YS s').v/\Below V.heap.size V w'):=fun V=>numberOf_any s' hs2 V;obtain⟨k2,c2,e2,s2,b2',x2,hn⟩:=(YS s').v_form;clear hr hs2;go_enter Tryz.func11,Tryz.ntmps11;go_wp2_with fail;refine Calls.mono (HT _).out ?_;rintro _ w1 ⟨rfl,b1⟩;have h1:=h0.next b1
  obtain⟨m0,m1,m2,m3,m4,m5⟩:=h1.1.six;have mf:=h1.1.frozen;have ml:=h1.1.lt;have h2:=h1.setP (.int .i64 2) (.int .i64 0) (.int .i64 0) (.string s') (.bool false) (.int .i64 0);obtain⟨n0,n1,n2,n3,n4,n5⟩:=h2.1.six;obtain⟨y0,y1,y2,y3,y4,y5⟩:=h2.2.1.six;have zf:=h2.2.1.frozen;have wl:=h2.2.1.lt;clear h0 b1 HT h1;go_wp2_with fail;refine Calls.mono (HN _).out ?_;rintro _ w2 ⟨rfl,b2⟩;rw[hn];have h3:=h2.next b2
  obtain⟨p0,p1,p2,p3,p4,p5⟩:=h3.2.1.six;have qf:=h3.2.1.frozen;have ql:=h3.2.1.lt;clear b2 n0 n1 n2 n3 n4 n5 y0 y1 y2 y3 y4 y5 zf wl;go_wp2;exact bodyPost_ret (zb rfl (g:=w.heap.size+1) rfl ((h3.setR _ _ _ _ _ _).res rfl)) rfl ⟨by first|rfl|exact congrArg _ hn.symm,(h3.setR _ _ _ _ _ _).2.2⟩
 ·rw[Y7] at HT;cases b'
  ·go_enter Tryz.func11,Tryz.ntmps11;go_wp2_with fail;refine Calls.mono (HT _).out ?_;rintro _ w1 ⟨rfl,b1⟩;have h1:=h0.next b1
   obtain⟨m0,m1,m2,m3,m4,m5⟩:=h1.1.six;have mf:=h1.1.frozen;have ml:=h1.1.lt;have h2:=h1.setP (.int .i64 3) (.int .i64 0) (.int .i64 0) (.string .empty) (.bool false) (.int .i64 0);obtain⟨n0,n1,n2,n3,n4,n5⟩:=h2.1.six;obtain⟨y0,y1,y2,y3,y4,y5⟩:=h2.2.1.six;have zf:=h2.2.1.frozen;have wl:=h2.2.1.lt;clear h0 b1 HT h1;go_wp2_with fail;refine Calls.mono (jl 0 0 0 ⟨by decide,by decide⟩ _) ?_;rintro _ w2 ⟨rfl,b2⟩;rw[Ye,YR];have h3:=h2.next b2
   obtain⟨p0,p1,p2,p3,p4,p5⟩:=h3.2.1.six;have qf:=h3.2.1.frozen;have ql:=h3.2.1.lt;clear b2 n0 n1 n2 n3 n4 n5 y0 y1 y2 y3 y4 y5 zf wl;go_wp2;exact bodyPost_ret (zb rfl (g:=w.heap.size+1) rfl ((h3.setR _ _ _ _ _ _).res rfl)) rfl ⟨rfl,(h3.setR _ _ _ _ _ _).2.2⟩
  ·go_enter Tryz.func11,Tryz.ntmps11;go_wp2_with fail;refine Calls.mono (HT _).out ?_;rintro _ w1 ⟨rfl,b1⟩;have h1:=h0.next b1
   obtain⟨m0,m1,m2,m3,m4,m5⟩:=h1.1.six;have mf:=h1.1.frozen;have ml:=h1.1.lt;have h2:=h1.setP (.int .i64 3) (.int .i64 0) (.int .i64 0) (.string .empty) (.bool true) (.int .i64 0);obtain⟨n0,n1,n2,n3,n4,n5⟩:=h2.1.six;obtain⟨y0,y1,y2,y3,y4,y5⟩:=h2.2.1.six;have zf:=h2.2.1.frozen;have wl:=h2.2.1.lt;clear h0 b1 HT h1;go_wp2_with fail;refine Calls.mono (jl 1 0 0 ⟨by decide,by decide⟩ _) ?_;rintro _ w2 ⟨rfl,b2⟩;rw[of_one,YR];have h3:=h2.next b2
   obtain⟨p0,p1,p2,p3,p4,p5⟩:=h3.2.1.six;have qf:=h3.2.1.frozen;have ql:=h3.2.1.lt;clear b2 n0 n1 n2 n3 n4 n5 y0 y1 y2 y3 y4 y5 zf wl;go_wp2;exact bodyPost_ret (zb rfl (g:=w.heap.size+1) rfl ((h3.setR _ _ _ _ _ _).res rfl)) rfl ⟨rfl,(h3.setR _ _ _ _ _ _).2.2⟩
 ·rw[XY] at HT;go_enter Tryz.func11,Tryz.ntmps11;go_wp2_with fail;refine Calls.mono (HT _).out ?_;rintro _ w1 ⟨rfl,b1⟩;have h1:=h0.next b1
  obtain⟨m0,m1,m2,m3,m4,m5⟩:=h1.1.six;have mf:=h1.1.frozen;have ml:=h1.1.lt;have h2:=h1.setP (.int .i64 4) (.int .i64 0) (.int .i64 0) (.string .empty) (.bool false) (.int .i64 x');obtain⟨n0,n1,n2,n3,n4,n5⟩:=h2.1.six;obtain⟨y0,y1,y2,y3,y4,y5⟩:=h2.2.1.six;have zf:=h2.2.1.frozen;have wl:=h2.2.1.lt;clear h0 b1 HT h1;go_wp2;exact bodyPost_ret (zb rfl (g:=w.heap.size+1) rfl ((h2.setR _ _ _ _ _ _).res rfl)) rfl ⟨rfl,(h2.setR _ _ _ _ _ _).2.2⟩
theorem ZJ (v:Vl) (hc:I64 v.c) (w:World) (hE:Env w):Calls Tryz.prog 13 #[v.v] w fun r w'=>r=.returned (jd v).v/\Below w.heap.size w w':=by
 have hcc:∀c' e',zp v=vN c' e'->I64 c':=fun c' e' h=>by
  unfold zp at h;split at h
  ·rw[h] at hc;exact hc
  ·cases h
 have HT:∀ V,Hid (Calls Tryz.prog 48 #[v.v] V fun r w'=>r=.returned (zp v).v/\Below V.heap.size V w'):=fun V=>yT v hc V;obtain⟨u,hu⟩:∃u,zp v=u:=⟨_,rfl⟩;have hcs:=xJ v;unfold jd;rw[hu] at HT hcs hcc ⊢;have hhc:=hc;clear hu hc;obtain⟨k,c,e,s,b,x,hv⟩:=v.v_form;rw[hv] at HT ⊢;clear hv;have h0:=PR.start w #[.int .i64 k,.int .i64 c,.int .i64 e,.string s,.bool b,.int .i64 x] #[.int .i64 0,.int .i64 0,.int .i64 0,.string .empty,.bool false,.int .i64 0];rcases hcs with rfl|⟨c',e',rfl,hr⟩|⟨s',rfl,hr⟩|⟨b',rfl⟩|⟨x',rfl,hr⟩
 ·rw[XZ] at HT;clear hcc hhc hE;go_enter Tryz.func13,Tryz.ntmps13;go_wp2_with fail;refine Calls.mono (HT _).out ?_;rintro _ w1 ⟨rfl,b1⟩;have h1:=h0.next b1
  obtain⟨m0,m1,m2,m3,m4,m5⟩:=h1.1.six;have mf:=h1.1.frozen;have ml:=h1.1.lt;have h2:=h1.setP (.int .i64 0) (.int .i64 0) (.int .i64 0) (.string .empty) (.bool false) (.int .i64 0);go_upto_region 2 with fail
  generalize ((((((w1.setCell ⟨w.heap.size,0,none⟩ (.int .i64 0)).setCell ⟨w.heap.size,1,none⟩ (.int .i64 0)).setCell ⟨w.heap.size,2,none⟩ (.int .i64 0)).setCell ⟨w.heap.size,3,none⟩ (.string .empty)).setCell ⟨w.heap.size,4,none⟩ (.bool false)).setCell ⟨w.heap.size,5,none⟩ (.int .i64 0))=W at *;clear h0 b1 HT h1 m0 m1 m2 m3 m4 m5 mf ml;have t0:=Row.new W 25 #[.int .i64 2,.int .i64 0,.int .i64 0,.string ⟨#[]⟩,.bool false,.int .i64 0];have h3:=h2.next ((Below.refl _ W).alloc (Nat.le_refl _) (.cells #[.int .i64 2,.int .i64 0,.int .i64 0,.string ⟨#[]⟩,.bool false,.int .i64 0] 25))
  have hK:w.heap.size+1<W.heap.size:=h2.2.1.lt;have hA:=(Below.refl _ W).alloc (Nat.le_refl _) (.cells #[.int .i64 2,.int .i64 0,.int .i64 0,.string ⟨#[]⟩,.bool false,.int .i64 0] 25);go_upto_region 3 with fail
  generalize W.alloc (.cells #[.int .i64 2,.int .i64 0,.int .i64 0,.string ⟨#[]⟩,.bool false,.int .i64 0] 25)=W2 at *;obtain⟨n0,n1,n2,n3,n4,n5⟩:=h3.1.six;obtain⟨y0,y1,y2,y3,y4,y5⟩:=h3.2.1.six;obtain⟨q0,q1,q2,q3,q4,q5⟩:=t0.six;have zf:=h3.2.1.frozen;have wl:=h3.2.1.lt;go_wp2;exact bodyPost_ret (zb rfl (g:=w.heap.size+1) rfl ((h3.setR _ _ _ _ _ _).res rfl)) rfl ⟨rfl,(h3.setR _ _ _ _ _ _).2.2⟩
 ·rw[YR] at HT;have HP:∀ V,YQ V->Hid (Calls Tryz.prog 52 #[.agg #[.int .i64 c',.int .i64 e']] V fun r w'=>r=.returned (.string (yY c' e'))/\Below V.heap.size V w'):=fun V hV=>print_any c' e' (hcc c' e' rfl) (xS hr) V hV;clear hcc hhc hr;go_enter Tryz.func13,Tryz.ntmps13;go_wp2_with fail;refine Calls.mono (HT _).out ?_;rintro _ w1 ⟨rfl,b1⟩;have h1:=h0.next b1
  obtain⟨m0,m1,m2,m3,m4,m5⟩:=h1.1.six;have mf:=h1.1.frozen;have ml:=h1.1.lt;have h2:=h1.setP (.int .i64 1) (.int .i64 c') (.int .i64 e') (.string .empty) (.bool false) (.int .i64 0);go_upto_region 2 with fail
  generalize ((((((w1.setCell ⟨w.heap.size,0,none⟩ (.int .i64 1)).setCell ⟨w.heap.size,1,none⟩ (.int .i64 c')).setCell ⟨w.heap.size,2,none⟩ (.int .i64 e')).setCell ⟨w.heap.size,3,none⟩ (.string .empty)).setCell ⟨w.heap.size,4,none⟩ (.bool false)).setCell ⟨w.heap.size,5,none⟩ (.int .i64 0))=W at *;clear h0 b1 HT h1 m0 m1 m2 m3 m4 m5 mf ml;have t0:=Row.new W 25 #[.int .i64 2,.int .i64 0,.int .i64 0,.string ⟨#[]⟩,.bool false,.int .i64 0];have h3:=h2.next ((Below.refl _ W).alloc (Nat.le_refl _) (.cells #[.int .i64 2,.int .i64 0,.int .i64 0,.string ⟨#[]⟩,.bool false,.int .i64 0] 25))
  have hK:w.heap.size+1<W.heap.size:=h2.2.1.lt;have hA:=(Below.refl _ W).alloc (Nat.le_refl _) (.cells #[.int .i64 2,.int .i64 0,.int .i64 0,.string ⟨#[]⟩,.bool false,.int .i64 0] 25);go_upto_region 3 with fail
  generalize W.alloc (.cells #[.int .i64 2,.int .i64 0,.int .i64 0,.string ⟨#[]⟩,.bool false,.int .i64 0] 25)=W2 at *;obtain⟨n0,n1,n2,n3,n4,n5⟩:=h3.1.six;have hT3:=(hE.next h3.2.2).tab;clear hE;go_wp2_with fail;refine Calls.mono (HP _ hT3).out ?_;rintro _ w2 ⟨rfl,b2⟩;have t2:=t0.below b2 t0.lt;have h4:=h3.next b2
  obtain⟨z0,z1,z2,z3,z4,z5⟩:=t2.six;have tf:=t2.frozen;have tl:=t2.lt;have t3:=t2.set 3 (.string (yY c' e'));have h5:PR w (w2.setCell ⟨W.heap.size,3,none⟩ (.string (yY c' e'))) _ _:=⟨h4.1.off 3 _ (by omega),h4.2.1.off 3 _ (by omega),za h4.2.2 3 _ (by omega)⟩;go_upto_region 11 with fail
  generalize w2.setCell ⟨W.heap.size,3,none⟩ (.string (yY c' e'))=W3 at *;obtain⟨y0,y1,y2,y3,y4,y5⟩:=h5.2.1.six;obtain⟨q0,q1,q2,q3,q4,q5⟩:=Row.six (a:=.int .i64 2) (b:=.int .i64 0) (c:=.int .i64 0) (d:=.string (yY c' e')) (e:=.bool false) (f:=.int .i64 0) t3;have zf:=h5.2.1.frozen;have wl:=h5.2.1.lt;clear HP hT3 b2 n0 n1 n2 n3 n4 n5 z0 z1 z2 z3 z4 z5 tf tl t2 h4 t0 h3 h2;go_wp2;exact bodyPost_ret (zb rfl (g:=w.heap.size+1) rfl ((h5.setR _ _ _ _ _ _).res rfl)) rfl ⟨rfl,(h5.setR _ _ _ _ _ _).2.2⟩
 ·rw[vT_v] at HT;clear hcc hhc hE hr;go_enter Tryz.func13,Tryz.ntmps13;go_wp2_with fail;refine Calls.mono (HT _).out ?_;rintro _ w1 ⟨rfl,b1⟩;have h1:=h0.next b1
  obtain⟨m0,m1,m2,m3,m4,m5⟩:=h1.1.six;have mf:=h1.1.frozen;have ml:=h1.1.lt;have h2:=h1.setP (.int .i64 2) (.int .i64 0) (.int .i64 0) (.string s') (.bool false) (.int .i64 0);go_upto_region 2 with fail
  generalize ((((((w1.setCell ⟨w.heap.size,0,none⟩ (.int .i64 2)).setCell ⟨w.heap.size,1,none⟩ (.int .i64 0)).setCell ⟨w.heap.size,2,none⟩ (.int .i64 0)).setCell ⟨w.heap.size,3,none⟩ (.string s')).setCell ⟨w.heap.size,4,none⟩ (.bool false)).setCell ⟨w.heap.size,5,none⟩ (.int .i64 0))=W at *;clear h0 b1 HT h1 m0 m1 m2 m3 m4 m5 mf ml;have t0:=Row.new W 25 #[.int .i64 2,.int .i64 0,.int .i64 0,.string ⟨#[]⟩,.bool false,.int .i64 0];have h3:=h2.next ((Below.refl _ W).alloc (Nat.le_refl _) (.cells #[.int .i64 2,.int .i64 0,.int .i64 0,.string ⟨#[]⟩,.bool false,.int .i64 0] 25))
  have hK:w.heap.size+1<W.heap.size:=h2.2.1.lt;have hA:=(Below.refl _ W).alloc (Nat.le_refl _) (.cells #[.int .i64 2,.int .i64 0,.int .i64 0,.string ⟨#[]⟩,.bool false,.int .i64 0] 25);go_upto_region 3 with fail
  generalize W.alloc (.cells #[.int .i64 2,.int .i64 0,.int .i64 0,.string ⟨#[]⟩,.bool false,.int .i64 0] 25)=W2 at *;obtain⟨n0,n1,n2,n3,n4,n5⟩:=h3.1.six;obtain⟨y0,y1,y2,y3,y4,y5⟩:=h3.2.1.six;have zf:=h3.2.1.frozen;have wl:=h3.2.1.lt;go_wp2;exact bodyPost_ret (zb rfl (g:=w.heap.size+1) rfl ((h3.setR _ _ _ _ _ _).res rfl)) rfl ⟨rfl,(h3.setR _ _ _ _ _ _).2.2⟩
 ·rw[Y7] at HT;clear hcc hhc hE;have HP:∀ V,Hid (Calls Tryz.prog 53 #[.bool b'] V fun r w'=>r=.returned (.string (x9 b'))/\Below V.heap.size V w'):=fun V=>(word_any b' V).mono (fun r w h=>⟨h.1,by rw[h.2];exact Below.refl _ _⟩);go_enter Tryz.func13,Tryz.ntmps13;go_wp2_with fail;refine Calls.mono (HT _).out ?_;rintro _ w1 ⟨rfl,b1⟩;have h1:=h0.next b1
  obtain⟨m0,m1,m2,m3,m4,m5⟩:=h1.1.six;have mf:=h1.1.frozen;have ml:=h1.1.lt;have h2:=h1.setP (.int .i64 3) (.int .i64 0) (.int .i64 0) (.string .empty) (.bool b') (.int .i64 0);go_upto_region 2 with fail
  generalize ((((((w1.setCell ⟨w.heap.size,0,none⟩ (.int .i64 3)).setCell ⟨w.heap.size,1,none⟩ (.int .i64 0)).setCell ⟨w.heap.size,2,none⟩ (.int .i64 0)).setCell ⟨w.heap.size,3,none⟩ (.string .empty)).setCell ⟨w.heap.size,4,none⟩ (.bool b')).setCell ⟨w.heap.size,5,none⟩ (.int .i64 0))=W at *;clear h0 b1 HT h1 m0 m1 m2 m3 m4 m5 mf ml;have t0:=Row.new W 25 #[.int .i64 2,.int .i64 0,.int .i64 0,.string ⟨#[]⟩,.bool false,.int .i64 0];have h3:=h2.next ((Below.refl _ W).alloc (Nat.le_refl _) (.cells #[.int .i64 2,.int .i64 0,.int .i64 0,.string ⟨#[]⟩,.bool false,.int .i64 0] 25))
  have hK:w.heap.size+1<W.heap.size:=h2.2.1.lt;have hA:=(Below.refl _ W).alloc (Nat.le_refl _) (.cells #[.int .i64 2,.int .i64 0,.int .i64 0,.string ⟨#[]⟩,.bool false,.int .i64 0] 25);go_upto_region 3 with fail
  generalize W.alloc (.cells #[.int .i64 2,.int .i64 0,.int .i64 0,.string ⟨#[]⟩,.bool false,.int .i64 0] 25)=W2 at *;obtain⟨n0,n1,n2,n3,n4,n5⟩:=h3.1.six;go_wp2_with fail;refine Calls.mono (HP _).out ?_;rintro _ w2 ⟨rfl,b2⟩;have t2:=t0.below b2 t0.lt;have h4:=h3.next b2
  obtain⟨z0,z1,z2,z3,z4,z5⟩:=t2.six;have tf:=t2.frozen;have tl:=t2.lt;have t3:=t2.set 3 (.string (x9 b'));have h5:PR w (w2.setCell ⟨W.heap.size,3,none⟩ (.string (x9 b'))) _ _:=⟨h4.1.off 3 _ (by omega),h4.2.1.off 3 _ (by omega),za h4.2.2 3 _ (by omega)⟩;go_upto_region 11 with fail
  generalize w2.setCell ⟨W.heap.size,3,none⟩ (.string (x9 b'))=W3 at *;obtain⟨y0,y1,y2,y3,y4,y5⟩:=h5.2.1.six;obtain⟨q0,q1,q2,q3,q4,q5⟩:=Row.six (a:=.int .i64 2) (b:=.int .i64 0) (c:=.int .i64 0) (d:=.string (x9 b')) (e:=.bool false) (f:=.int .i64 0) t3;have zf:=h5.2.1.frozen;have wl:=h5.2.1.lt;clear HP b2 n0 n1 n2 n3 n4 n5 z0 z1 z2 z3 z4 z5 tf tl t2 h4 t0 h3 h2;go_wp2;exact bodyPost_ret (zb rfl (g:=w.heap.size+1) rfl ((h5.setR _ _ _ _ _ _).res rfl)) rfl ⟨rfl,(h5.setR _ _ _ _ _ _).2.2⟩
 ·rw[XY] at HT;clear hcc hhc hE hr;go_enter Tryz.func13,Tryz.ntmps13;go_wp2_with fail;refine Calls.mono (HT _).out ?_;rintro _ w1 ⟨rfl,b1⟩;have h1:=h0.next b1
  obtain⟨m0,m1,m2,m3,m4,m5⟩:=h1.1.six;have mf:=h1.1.frozen;have ml:=h1.1.lt;have h2:=h1.setP (.int .i64 4) (.int .i64 0) (.int .i64 0) (.string .empty) (.bool false) (.int .i64 x');go_upto_region 2 with fail
  generalize ((((((w1.setCell ⟨w.heap.size,0,none⟩ (.int .i64 4)).setCell ⟨w.heap.size,1,none⟩ (.int .i64 0)).setCell ⟨w.heap.size,2,none⟩ (.int .i64 0)).setCell ⟨w.heap.size,3,none⟩ (.string .empty)).setCell ⟨w.heap.size,4,none⟩ (.bool false)).setCell ⟨w.heap.size,5,none⟩ (.int .i64 x'))=W at *;clear h0 b1 HT h1 m0 m1 m2 m3 m4 m5 mf ml;have t0:=Row.new W 25 #[.int .i64 2,.int .i64 0,.int .i64 0,.string ⟨#[]⟩,.bool false,.int .i64 0];have h3:=h2.next ((Below.refl _ W).alloc (Nat.le_refl _) (.cells #[.int .i64 2,.int .i64 0,.int .i64 0,.string ⟨#[]⟩,.bool false,.int .i64 0] 25))
  have hK:w.heap.size+1<W.heap.size:=h2.2.1.lt;have hA:=(Below.refl _ W).alloc (Nat.le_refl _) (.cells #[.int .i64 2,.int .i64 0,.int .i64 0,.string ⟨#[]⟩,.bool false,.int .i64 0] 25);go_upto_region 3 with fail
  generalize W.alloc (.cells #[.int .i64 2,.int .i64 0,.int .i64 0,.string ⟨#[]⟩,.bool false,.int .i64 0] 25)=W2 at *;obtain⟨n0,n1,n2,n3,n4,n5⟩:=h3.1.six;obtain⟨y0,y1,y2,y3,y4,y5⟩:=h3.2.1.six;have zf:=h3.2.1.frozen;have wl:=h3.2.1.lt;go_wp2;exact bodyPost_ret (zb rfl (g:=w.heap.size+1) rfl ((h3.setR _ _ _ _ _ _).res rfl)) rfl ⟨rfl,(h3.setR _ _ _ _ _ _).2.2⟩
set_option maxHeartbeats 4000000
theorem kC (k c e x:Int) (s:ByteArray) (b:Bool) (W:World):(Instr.field 25 (.agg #[.int .i64 k,.int .i64 c,.int .i64 e,.string s,.bool b,.int .i64 x]) 2).run Tryz.prog W=.ok (.string s) W:=by
 simp[Instr.field,go_sem,asAgg,Result.andThen]
theorem qD {v:Vl} (hc:I64 v.c):I64 (zp v).c:=by
 unfold zp;split
 ·exact hc
 ·exact⟨by decide,by decide⟩
theorem text_of {u:Vl} (hr:zK u=true) (hk:u.k≠4):(jd u).v=.agg #[.int .i64 2,.int .i64 0,.int .i64 0,.string (XG u).s,.bool false,.int .i64 0]:=by
 unfold jd;rw[yH hr];rcases zZ hr with rfl|⟨c,e,rfl,h⟩|⟨s,rfl,h⟩|⟨b,rfl⟩|⟨x,rfl,h⟩
 ·rfl
 ·rfl
 ·rfl
 ·rfl
 ·exact absurd rfl hk
theorem vshow_any (v:Vl) (hc:I64 v.c) (w:World) (hE:Env w):Calls Tryz.prog 17 #[v.v] w fun r w'=>r=.returned (.string (XI v))/\Below w.heap.size w w':=by
 have HT:∀ V,Hid (Calls Tryz.prog 48 #[v.v] V fun r w'=>r=.returned (zp v).v/\Below V.heap.size V w'):=fun V=>yT v hc V;have hcb:=qD hc;have hcr:=yO v;unfold XI jd;obtain⟨u,hu⟩:∃u,zp v=u:=⟨_,rfl⟩;rw[hu] at HT hcb hcr ⊢;clear hu hc;obtain⟨k,c,e,s,b,x,hv⟩:=v.v_form;rw[hv] at HT ⊢;clear hv;have h0:=R1.start w #[.int .i64 k,.int .i64 c,.int .i64 e,.string s,.bool b,.int .i64 x];by_cases h4:u.k=4
 ·rw[if_pos h4];rcases zZ hcr with rfl|⟨c',e',rfl,hr⟩|⟨s',rfl,hr⟩|⟨b',rfl⟩|⟨x',rfl,hr⟩
  ·cases h4
  ·cases h4
  ·cases h4
  ·cases h4
  ·rw[XY] at HT;show Calls Tryz.prog 17 _ w fun r w'=>r=.returned (.string (qA x'))/\_;clear h4 hcb hcr;go_enter Tryz.func17,Tryz.ntmps17;go_wp2_with fail;refine Calls.mono (HT _).out ?_;rintro _ w1 ⟨rfl,b1⟩;have h1:=h0.next b1
   obtain⟨m0,m1,m2,m3,m4,m5⟩:=h1.1.six;have mf:=h1.1.frozen;have ml:=h1.1.lt;have h2:=h1.set (.int .i64 4) (.int .i64 0) (.int .i64 0) (.string .empty) (.bool false) (.int .i64 x');have hN:=(hE.next h2.2).nam;obtain⟨n0,n1,n2,n3,n4,n5⟩:=h2.1.six;clear h0 b1 HT h1 hE;go_upto_region 2 with fail
   generalize ((((((w1.setCell ⟨w.heap.size,0,none⟩ (.int .i64 4)).setCell ⟨w.heap.size,1,none⟩ (.int .i64 0)).setCell ⟨w.heap.size,2,none⟩ (.int .i64 0)).setCell ⟨w.heap.size,3,none⟩ (.string .empty)).setCell ⟨w.heap.size,4,none⟩ (.bool false)).setCell ⟨w.heap.size,5,none⟩ (.int .i64 x'))=W at *;clear m0 m1 m2 m3 m4 m5 mf ml;go_wp2_with fail;refine Calls.mono (errName_any x' W hN) ?_;rintro _ w2 ⟨rfl,rfl⟩;go_wp2;go_ret;exact⟨rfl,h2.2⟩
 ·rw[if_neg h4];have HX:∀ V,Env V->Hid (Calls Tryz.prog 13 #[u.v] V fun r w'=>r=.returned (.agg #[.int .i64 2,.int .i64 0,.int .i64 0,.string (XG u).s,.bool false,.int .i64 0])/\Below V.heap.size V w'):=fun V hV=>by have h:=ZJ u hcb V hV;rw[text_of hcr h4] at h;exact h
  generalize (XG u).s=t at HX ⊢;obtain⟨k',c',e',s',b',x'⟩:=u;unfold Vl.v Vl.cells at HT HX;simp only at HT HX h4;have h5:(k'==4)=false:=by simpa using h4
  clear h4 hcb hcr;go_enter Tryz.func17,Tryz.ntmps17;go_wp2_with fail;refine Calls.mono (HT _).out ?_;rintro _ w1 ⟨rfl,b1⟩;have h1:=h0.next b1
  obtain⟨m0,m1,m2,m3,m4,m5⟩:=h1.1.six;have mf:=h1.1.frozen;have ml:=h1.1.lt;have h2:=h1.set (.int .i64 k') (.int .i64 c') (.int .i64 e') (.string s') (.bool b') (.int .i64 x');have hN:=hE.next h2.2
  obtain⟨n0,n1,n2,n3,n4,n5⟩:=h2.1.six;clear h0 b1 HT h1 hE;go_upto_region 2 with fail
  generalize ((((((w1.setCell ⟨w.heap.size,0,none⟩ (.int .i64 k')).setCell ⟨w.heap.size,1,none⟩ (.int .i64 c')).setCell ⟨w.heap.size,2,none⟩ (.int .i64 e')).setCell ⟨w.heap.size,3,none⟩ (.string s')).setCell ⟨w.heap.size,4,none⟩ (.bool b')).setCell ⟨w.heap.size,5,none⟩ (.int .i64 x'))=W at *;clear m0 m1 m2 m3 m4 m5 mf ml;go_wp2_with fail;refine Calls.mono (HX W hN).out ?_;rintro _ w2 ⟨rfl,b2⟩;have hf:=kC 2 0 0 0 t false;go_wp2;go_ret;exact⟨rfl,(h2.next b2).2⟩
def Xs (l : List UInt8) : Vl := if l = [] then vE else if (zT l).2.2 = 0 then ofW (zT l).1 (zT l).2.1 0 else if bs l = x9 true then vB true else if bs l = x9 false then vB false else if xV (bs l) ≠ 0 then YT (xV (bs l)) else jW (bs (Lib.trimPrefix l [39]))
theorem vtyped_any (l:List UInt8) (hl:l.length<=140737488351232) (w:World) (hE:Env w):Calls Tryz.prog 30 #[.string (bs l)] w fun r w'=>r=.returned (Xs l).v/\Below w.heap.size w w':=by
 have HP:∀ V,Hid (Calls Tryz.prog 60 #[.string (bs l)] V fun e w'=>e=.returned (.tuple #[.agg #[.int .i64 (zT l).1,.int .i64 (zT l).2.1],.int .i64 (zT l).2.2])/\Below V.heap.size V w'):=fun V=>parse_val l hl V;have hbd:=kz l;have hsl:(bs l).toList=l:=yL l;have h0:=R1.start w #[.int .i64 0,.int .i64 0,.int .i64 0,.string .empty,.bool false,.int .i64 0];unfold Xs;by_cases hn:l=[]
 ·rw[if_pos hn];subst hn;obtain⟨y0,y1,y2,y3,y4,y5⟩:=h0.1.six;clear HP hbd hE;go_enter Tryz.func30,Tryz.ntmps30;go_wp2;exact bodyPost_ret (zb rfl (g:=w.heap.size) rfl (h0.res rfl)) rfl ⟨rfl,h0.2⟩
 rw[if_neg hn];have HE0:((bs l).toList==[])=false:=by rw[hsl];simpa using hn
 have HTR:bs l≠x9 true->((bs l).toList==[84,82,85,69])=false:=fun h=>toList_ne2 h;have HFA:bs l≠x9 false->((bs l).toList==[70,65,76,83,69])=false:=fun h=>toList_ne2 h;have HTQ:bs l=x9 true->(bs l).toList=[84,82,85,69]:=fun h=>by rw[h,ByteArray.toList_eq];rfl
 have HFQ:bs l=x9 false->(bs l).toList=[70,65,76,83,69]:=fun h=>by rw[h,ByteArray.toList_eq];rfl
 have HTP:∀ V,Hid (Calls Tryz.prog 61 #[.string (bs l),.string ⟨#[39]⟩] V fun e w'=>e=.returned (.string (bs (Lib.trimPrefix l [39])))/\w'=V):=fun V=>Tryz.strings_TrimPrefix (bs l) ⟨#[39]⟩ V;have HEC:∀ V,Names V->Hid (Calls Tryz.prog 20 #[.string (bs l)] V fun r w'=>r=.returned (.tuple #[.int .i64 (xV (bs l)),.bool (decide (xV (bs l)≠0))])/\w'=V):=fun V hV=>errCode_any (bs l) V hV;generalize bs (Lib.trimPrefix l [39])=tp at *;generalize bs l=S at *;obtain⟨c,hc⟩:∃c,(zT l).1=c:=⟨_,rfl⟩;obtain⟨e,he⟩:∃e,(zT l).2.1=e:=⟨_,rfl⟩;obtain⟨er,her⟩:∃er,(zT l).2.2=er:=⟨_,rfl⟩;rw[hc] at hbd;simp only[hc,he,her] at HP ⊢;clear hc he her hsl hn hl;have HO:∀ V,Hid (Calls Tryz.prog 23 #[.agg #[.int .i64 c,.int .i64 e],.int .i64 0] V fun r w'=>r=.returned (ofW c e 0).v/\Below V.heap.size V w'):=fun V=>jl c e 0 hbd V;clear hbd;by_cases h00:er=0
 ·subst h00;rw[if_pos rfl];clear HTR HFA HTQ HFQ HTP HEC hE;go_enter Tryz.func30,Tryz.ntmps30;go_wp2_with fail;refine Calls.mono (HP _).out ?_;rintro _ w2 ⟨rfl,b2⟩;have h2:=(h0.next b2).alloc (.cells #[.int .i64 c,.int .i64 e] 23);clear b2 h0 HP;go_wp2_with fail;refine Calls.mono (HO _).out ?_;rintro _ w3 ⟨rfl,b3⟩;obtain⟨k',c',e',x',hv⟩:=jw c e 0;rw[hv];have h3:=h2.next b3
  obtain⟨y0,y1,y2,y3,y4,y5⟩:=h3.1.six;have zf:=h3.1.frozen;have wl:=h3.1.lt;clear b3 h2 HO;go_wp2;exact bodyPost_ret (zb rfl (g:=w.heap.size) rfl ((h3.set _ _ _ _ _ _).res rfl)) rfl ⟨by first|rfl|exact congrArg _ hv.symm,(h3.set _ _ _ _ _ _).2⟩
 have h01:(er==0)=false:=by simpa using h00
 rw[if_neg h00];clear HO h00;by_cases hA:S=x9 true
 ·rw[if_pos hA];have hAE:=HTQ hA;clear hA HTR HFA HTQ HFQ HTP HEC hE;go_enter Tryz.func30,Tryz.ntmps30;go_wp2_with fail;refine Calls.mono (HP _).out ?_;rintro _ w2 ⟨rfl,b2⟩;have h2:=(h0.next b2).alloc (.cells #[.int .i64 c,.int .i64 e] 23);clear b2 h0 HP;go_wp2_with fail;refine Calls.mono (xi true _) ?_;rintro _ w3 ⟨rfl,b3⟩;rw[Y7];have h3:=h2.next b3
  obtain⟨y0,y1,y2,y3,y4,y5⟩:=h3.1.six;have zf:=h3.1.frozen;have wl:=h3.1.lt;clear b3 h2;go_wp2;exact bodyPost_ret (zb rfl (g:=w.heap.size) rfl ((h3.set _ _ _ _ _ _).res rfl)) rfl ⟨by first|rfl|rfl,(h3.set _ _ _ _ _ _).2⟩
 rw[if_neg hA];have hAN:=HTR hA;clear hA HTR HTQ;by_cases hB:S=x9 false
 ·rw[if_pos hB];have hBE:=HFQ hB;clear hB HFA HFQ HTP HEC hE;go_enter Tryz.func30,Tryz.ntmps30;go_wp2_with fail;refine Calls.mono (HP _).out ?_;rintro _ w2 ⟨rfl,b2⟩;have h2:=(h0.next b2).alloc (.cells #[.int .i64 c,.int .i64 e] 23);clear b2 h0 HP;go_wp2_with fail;refine Calls.mono (xi false _) ?_;rintro _ w3 ⟨rfl,b3⟩;rw[Y7];have h3:=h2.next b3
  obtain⟨y0,y1,y2,y3,y4,y5⟩:=h3.1.six;have zf:=h3.1.frozen;have wl:=h3.1.lt;clear b3 h2;go_wp2;exact bodyPost_ret (zb rfl (g:=w.heap.size) rfl ((h3.set _ _ _ _ _ _).res rfl)) rfl ⟨by first|rfl|rfl,(h3.set _ _ _ _ _ _).2⟩
 rw[if_neg hB];have hBN:=HFA hB;clear hB HFA HFQ;generalize xV S=n at *;by_cases hz:n=0
 ·rw[if_neg (by simpa using hz)];subst hz;go_enter Tryz.func30,Tryz.ntmps30;go_wp2_with fail;refine Calls.mono (HP _).out ?_;rintro _ w2 ⟨rfl,b2⟩;have h2:=(h0.next b2).alloc (.cells #[.int .i64 c,.int .i64 e] 23);have hN:=(hE.next h2.2).nam;clear b2 h0 HP;go_wp2_with fail;refine Calls.mono (HEC _ hN).out ?_;rintro _ w3 ⟨rfl,rfl⟩;go_wp2_with fail;refine Calls.mono (HTP _).out ?_;rintro _ w3 ⟨rfl,rfl⟩;go_wp2_with fail;refine Calls.mono (X4 tp _) ?_;rintro _ w4 ⟨rfl,b4⟩;obtain⟨k',c',e',s',b',x',hv⟩:=(jW tp).v_form;rw[hv];have h3:=h2.next b4
  obtain⟨y0,y1,y2,y3,y4,y5⟩:=h3.1.six;have zf:=h3.1.frozen;have wl:=h3.1.lt;clear b4 h2 HTP HEC hE hN;go_wp2;exact bodyPost_ret (zb rfl (g:=w.heap.size) rfl ((h3.set _ _ _ _ _ _).res rfl)) rfl ⟨by first|rfl|exact congrArg _ hv.symm,(h3.set _ _ _ _ _ _).2⟩
 ·rw[if_pos hz];have hd:decide (n≠0)=true:=decide_eq_true hz;simp only[hd] at HEC;clear hd hz HTP;go_enter Tryz.func30,Tryz.ntmps30;go_wp2_with fail;refine Calls.mono (HP _).out ?_;rintro _ w2 ⟨rfl,b2⟩;have h2:=(h0.next b2).alloc (.cells #[.int .i64 c,.int .i64 e] 23);have hN:=(hE.next h2.2).nam;clear b2 h0 HP;go_wp2_with fail;refine Calls.mono (HEC _ hN).out ?_;rintro _ w3 ⟨rfl,rfl⟩;go_wp2_with fail;refine Calls.mono (qQ n _) ?_;rintro _ w4 ⟨rfl,b4⟩;obtain⟨k',c',e',s',b',x',hv⟩:=(YT n).v_form;rw[hv];have h3:=h2.next b4
  obtain⟨y0,y1,y2,y3,y4,y5⟩:=h3.1.six;have zf:=h3.1.frozen;have wl:=h3.1.lt;clear b4 h2 HEC hE hN;go_wp2;exact bodyPost_ret (zb rfl (g:=w.heap.size) rfl ((h3.set _ _ _ _ _ _).res rfl)) rfl ⟨by first|rfl|exact congrArg _ hv.symm,(h3.set _ _ _ _ _ _).2⟩
def xL (a b : Vl) : Vl × Bool := if a.k = 4 then (a, true) else if b.k = 4 then (b, true) else (vE, false)
def c12 (k c e : Int) (s : ByteArray) (b : Bool) (x : Int) (k2 c2 e2 : Int) (s2 : ByteArray) (b2 : Bool) (x2 : Int) : Array Value :=
  #[.int .i64 k, .int .i64 c, .int .i64 e, .string s, .bool b, .int .i64 x, .int .i64 k2, .int .i64 c2, .int .i64 e2, .string s2, .bool b2, .int .i64 x2]
theorem first_one (c e:Int) (s:ByteArray) (b:Bool) (x:Int) (k2:Int) (c2 e2:Int) (s2:ByteArray) (b2:Bool) (x2:Int) (K:Nat) (w:World) (hK:Row w K 25 (c12 4 c e s b x k2 c2 e2 s2 b2 x2)):Calls Tryz.prog 62 #[.slice (some ⟨K,0,none⟩) 2 2] w fun r w'=>r=.returned (.tuple #[.agg #[.int .i64 4,.int .i64 c,.int .i64 e,.string s,.bool b,.int .i64 x],.bool true])/\Below w.heap.size w w':=by
 unfold c12 at hK;have hKl:=hK.lt;have d0:w.cell? ⟨K,0,none⟩=some (.int .i64 4):=hK.cell rfl;have d1:w.cell? ⟨K,1,none⟩=some (.int .i64 c):=hK.cell rfl;have d2:w.cell? ⟨K,2,none⟩=some (.int .i64 e):=hK.cell rfl;have d3:w.cell? ⟨K,3,none⟩=some (.string s):=hK.cell rfl;have d4:w.cell? ⟨K,4,none⟩=some (.bool b):=hK.cell rfl;have d5:w.cell? ⟨K,5,none⟩=some (.int .i64 x):=hK.cell rfl;have d6:w.cell? ⟨K,6,none⟩=some (.int .i64 k2):=hK.cell rfl;have d7:w.cell? ⟨K,7,none⟩=some (.int .i64 c2):=hK.cell rfl;have d8:w.cell? ⟨K,8,none⟩=some (.int .i64 e2):=hK.cell rfl;have d9:w.cell? ⟨K,9,none⟩=some (.string s2):=hK.cell rfl;have d10:w.cell? ⟨K,10,none⟩=some (.bool b2):=hK.cell rfl;have d11:w.cell? ⟨K,11,none⟩=some (.int .i64 x2):=hK.cell rfl;clear hK;go_enter Tryz.func62,Tryz.ntmps62;go_wp2_with fail;refine wp_loop_rounds 3 ?_;rw[rounds_succ];go_wp2_with fail;exact bodyPost_ret (zd rfl (g:=w.heap.size) rfl rfl (yJ ((Row.new w 25 _).alloc _) rfl)) rfl ⟨rfl,((Below.refl _ w).alloc (Nat.le_refl _) _).alloc (by simp) _⟩
theorem first_two (c e:Int) (s:ByteArray) (b:Bool) (x:Int) (k:Int) (c2 e2:Int) (s2:ByteArray) (b2:Bool) (x2:Int) (K:Nat) (w:World) (hK:Row w K 25 (c12 k c e s b x 4 c2 e2 s2 b2 x2)) (h1:¬ k=4):Calls Tryz.prog 62 #[.slice (some ⟨K,0,none⟩) 2 2] w fun r w'=>r=.returned (.tuple #[.agg #[.int .i64 4,.int .i64 c2,.int .i64 e2,.string s2,.bool b2,.int .i64 x2],.bool true])/\Below w.heap.size w w':=by
 unfold c12 at hK;have hKl:=hK.lt;have d0:w.cell? ⟨K,0,none⟩=some (.int .i64 k):=hK.cell rfl;have d1:w.cell? ⟨K,1,none⟩=some (.int .i64 c):=hK.cell rfl;have d2:w.cell? ⟨K,2,none⟩=some (.int .i64 e):=hK.cell rfl;have d3:w.cell? ⟨K,3,none⟩=some (.string s):=hK.cell rfl;have d4:w.cell? ⟨K,4,none⟩=some (.bool b):=hK.cell rfl;have d5:w.cell? ⟨K,5,none⟩=some (.int .i64 x):=hK.cell rfl;have d6:w.cell? ⟨K,6,none⟩=some (.int .i64 4):=hK.cell rfl;have d7:w.cell? ⟨K,7,none⟩=some (.int .i64 c2):=hK.cell rfl;have d8:w.cell? ⟨K,8,none⟩=some (.int .i64 e2):=hK.cell rfl;have d9:w.cell? ⟨K,9,none⟩=some (.string s2):=hK.cell rfl;have d10:w.cell? ⟨K,10,none⟩=some (.bool b2):=hK.cell rfl;have d11:w.cell? ⟨K,11,none⟩=some (.int .i64 x2):=hK.cell rfl;clear hK;have h2:(k==4)=false:=by simpa using h1
 clear h1;go_enter Tryz.func62,Tryz.ntmps62;go_wp2_with fail;refine wp_loop_rounds 3 ?_;rw[rounds_succ];go_wp2_with fail;rw[rounds_succ];go_wp2_with fail;exact bodyPost_ret (zd rfl (g:=w.heap.size) rfl rfl (yJ (((Row.new w 25 _).alloc _).alloc _) rfl)) rfl ⟨rfl,(((Below.refl _ w).alloc (Nat.le_refl _) _).alloc (by simp) _).alloc (by simp;omega) _⟩
theorem first_no (c e:Int) (s:ByteArray) (b:Bool) (x:Int) (k k2:Int) (c2 e2:Int) (s2:ByteArray) (b2:Bool) (x2:Int) (K:Nat) (w:World) (hK:Row w K 25 (c12 k c e s b x k2 c2 e2 s2 b2 x2)) (h1:¬ k=4) (h3:¬ k2=4):Calls Tryz.prog 62 #[.slice (some ⟨K,0,none⟩) 2 2] w fun r w'=>r=.returned (.tuple #[.agg #[.int .i64 0,.int .i64 0,.int .i64 0,.string .empty,.bool false,.int .i64 0],.bool false])/\Below w.heap.size w w':=by
 unfold c12 at hK;have hKl:=hK.lt;have d0:w.cell? ⟨K,0,none⟩=some (.int .i64 k):=hK.cell rfl;have d1:w.cell? ⟨K,1,none⟩=some (.int .i64 c):=hK.cell rfl;have d2:w.cell? ⟨K,2,none⟩=some (.int .i64 e):=hK.cell rfl;have d3:w.cell? ⟨K,3,none⟩=some (.string s):=hK.cell rfl;have d4:w.cell? ⟨K,4,none⟩=some (.bool b):=hK.cell rfl;have d5:w.cell? ⟨K,5,none⟩=some (.int .i64 x):=hK.cell rfl;have d6:w.cell? ⟨K,6,none⟩=some (.int .i64 k2):=hK.cell rfl;have d7:w.cell? ⟨K,7,none⟩=some (.int .i64 c2):=hK.cell rfl;have d8:w.cell? ⟨K,8,none⟩=some (.int .i64 e2):=hK.cell rfl;have d9:w.cell? ⟨K,9,none⟩=some (.string s2):=hK.cell rfl;have d10:w.cell? ⟨K,10,none⟩=some (.bool b2):=hK.cell rfl;have d11:w.cell? ⟨K,11,none⟩=some (.int .i64 x2):=hK.cell rfl;clear hK;have h2:(k==4)=false:=by simpa using h1
 have h4:(k2==4)=false:=by simpa using h3
 clear h1 h3;go_enter Tryz.func62,Tryz.ntmps62;go_wp2_with fail;refine wp_loop_rounds 3 ?_;rw[rounds_succ];go_wp2_with fail;rw[rounds_succ];go_wp2_with fail;rw[rounds_succ];go_wp2_with fail;exact bodyPost_ret (zd rfl (g:=w.heap.size) rfl rfl (yJ (((Row.new w 25 _).alloc _).alloc _) rfl)) rfl ⟨rfl,(((Below.refl _ w).alloc (Nat.le_refl _) _).alloc (by simp) _).alloc (by simp;omega) _⟩
theorem qp (a b:Vl) (K:Nat) (w:World) (hK:Row w K 25 (a.cells++b.cells)):Calls Tryz.prog 62 #[.slice (some ⟨K,0,none⟩) 2 2] w fun r w'=>r=.returned (.tuple #[(xL a b).1.v,.bool (xL a b).2])/\Below w.heap.size w w':=by
 unfold xL;obtain⟨k,c,e,s,b1,x⟩:=a;obtain⟨k2,c2,e2,s2,b2,x2⟩:=b;by_cases h1:k=4
 ·subst h1;exact first_one c e s b1 x k2 c2 e2 s2 b2 x2 K w hK
 ·by_cases h2:k2=4
  ·subst h2;simp only[h1,if_false];exact first_two c e s b1 x k c2 e2 s2 b2 x2 K w hK h1
  ·simp only[h1,h2,if_false];exact first_no c e s b1 x k k2 c2 e2 s2 b2 x2 K w hK h1 h2
def yI (a b : Vl) : Vl := if a.k = 0 then ⟨b.k, 0, 0, .empty, false, 0⟩ else a
theorem Row.new2 (w:World) (o1 o2:Obj) (t:TypeId) (cs:Array Value):Row (((w.alloc o1).alloc o2).alloc (.cells cs t)) (w.heap.size+1+1) t cs:=by
 have:=Row.new ((w.alloc o1).alloc o2) t cs;simpa using this
theorem filled_E (b:Vl) (w:World):Calls Tryz.prog 75 #[vE.v,b.v] w fun r w'=>r=.returned (⟨b.k,0,0,.empty,false,0⟩:Vl).v/\Below w.heap.size w w':=by
 obtain⟨k2,c2,e2,s2,b2,x2⟩:=b;rw[XZ];unfold Vl.v Vl.cells;have hb:∀o1 o2 o3,Below w.heap.size w (((w.alloc o1).alloc o2).alloc o3):=fun _ _ _=>(((Below.refl _ w).alloc (Nat.le_refl _) _).alloc (by simp) _).alloc (by simp;omega) _;go_enter Tryz.func75,Tryz.ntmps75;go_wp2;exact bodyPost_ret (zb rfl (g:=w.heap.size+1+1) rfl (yJ (Row.new2 w _ _ 25 _) rfl)) rfl ⟨rfl,hb _ _ _⟩
theorem filled_K (a b:Vl) (hk:¬ a.k=0) (w:World):Calls Tryz.prog 75 #[a.v,b.v] w fun r w'=>r=.returned a.v/\Below w.heap.size w w':=by
 obtain⟨k,c,e,s,b1,x⟩:=a;obtain⟨k2,c2,e2,s2,b2,x2⟩:=b;unfold Vl.v Vl.cells;have hk2:(k==0)=false:=by simpa using hk
 clear hk;have hb:∀o1 o2 o3,Below w.heap.size w (((w.alloc o1).alloc o2).alloc o3):=fun _ _ _=>(((Below.refl _ w).alloc (Nat.le_refl _) _).alloc (by simp) _).alloc (by simp;omega) _;go_enter Tryz.func75,Tryz.ntmps75;go_wp2;exact bodyPost_ret (zb rfl (g:=w.heap.size+1+1) rfl (yJ (Row.new2 w _ _ 25 _) rfl)) rfl ⟨rfl,hb _ _ _⟩
theorem filled_any (a b:Vl) (ha:a.k=0->a=vE) (w:World):Calls Tryz.prog 75 #[a.v,b.v] w fun r w'=>r=.returned (yI a b).v/\Below w.heap.size w w':=by
 unfold yI;by_cases h:a.k=0
 ·rw[if_pos h,ha h];exact filled_E b w
 ·rw[if_neg h];exact filled_K a b h w
def XU (op o : Int) : Vl := if op = 7 then vB (o == 0) else if op = 8 then vB (o != 0) else if op = 9 then vB (decide (o < 0)) else if op = 10 then vB (decide (o ≤ 0)) else if op = 11 then vB (decide (0 < o)) else if op = 12 then vB (decide (0 ≤ o)) else vX 2
theorem compared_7 (o:Int) (w:World):Calls Tryz.prog 69 #[.int .i64 7,.int .i64 o] w fun r w'=>r=.returned (vB (o==0)).v/\Below w.heap.size w w':=by
 have h0:=R1.start w #[.int .i64 0,.int .i64 0,.int .i64 0,.string .empty,.bool false,.int .i64 0];go_enter Tryz.func69,Tryz.ntmps69;go_wp2_with fail;refine Calls.mono (xi _ _) ?_;rintro _ w1 ⟨rfl,b1⟩;rw[Y7];have h1:=h0.next b1
 obtain⟨y0,y1,y2,y3,y4,y5⟩:=h1.1.six;have zf:=h1.1.frozen;have wl:=h1.1.lt;clear h0 b1;go_wp2;exact bodyPost_ret (zb rfl (g:=w.heap.size) rfl ((h1.set _ _ _ _ _ _).res rfl)) rfl ⟨rfl,(h1.set _ _ _ _ _ _).2⟩
theorem compared_8 (o:Int) (w:World):Calls Tryz.prog 69 #[.int .i64 8,.int .i64 o] w fun r w'=>r=.returned (vB (o != 0)).v/\Below w.heap.size w w':=by
 have h0:=R1.start w #[.int .i64 0,.int .i64 0,.int .i64 0,.string .empty,.bool false,.int .i64 0];go_enter Tryz.func69,Tryz.ntmps69;go_wp2_with fail;refine Calls.mono (xi _ _) ?_;rintro _ w1 ⟨rfl,b1⟩;rw[Y7];have h1:=h0.next b1
 obtain⟨y0,y1,y2,y3,y4,y5⟩:=h1.1.six;have zf:=h1.1.frozen;have wl:=h1.1.lt;clear h0 b1;go_wp2;exact bodyPost_ret (zb rfl (g:=w.heap.size) rfl ((h1.set _ _ _ _ _ _).res rfl)) rfl ⟨rfl,(h1.set _ _ _ _ _ _).2⟩
theorem compared_9 (o:Int) (w:World):Calls Tryz.prog 69 #[.int .i64 9,.int .i64 o] w fun r w'=>r=.returned (vB (decide (o<0))).v/\Below w.heap.size w w':=by
 have h0:=R1.start w #[.int .i64 0,.int .i64 0,.int .i64 0,.string .empty,.bool false,.int .i64 0];go_enter Tryz.func69,Tryz.ntmps69;go_wp2_with fail;refine Calls.mono (xi _ _) ?_;rintro _ w1 ⟨rfl,b1⟩;rw[Y7];have h1:=h0.next b1
 obtain⟨y0,y1,y2,y3,y4,y5⟩:=h1.1.six;have zf:=h1.1.frozen;have wl:=h1.1.lt;clear h0 b1;go_wp2;exact bodyPost_ret (zb rfl (g:=w.heap.size) rfl ((h1.set _ _ _ _ _ _).res rfl)) rfl ⟨rfl,(h1.set _ _ _ _ _ _).2⟩
theorem compared_10 (o:Int) (w:World):Calls Tryz.prog 69 #[.int .i64 10,.int .i64 o] w fun r w'=>r=.returned (vB (decide (o<=0))).v/\Below w.heap.size w w':=by
 have h0:=R1.start w #[.int .i64 0,.int .i64 0,.int .i64 0,.string .empty,.bool false,.int .i64 0];go_enter Tryz.func69,Tryz.ntmps69;go_wp2_with fail;refine Calls.mono (xi _ _) ?_;rintro _ w1 ⟨rfl,b1⟩;rw[Y7];have h1:=h0.next b1
 obtain⟨y0,y1,y2,y3,y4,y5⟩:=h1.1.six;have zf:=h1.1.frozen;have wl:=h1.1.lt;clear h0 b1;go_wp2;exact bodyPost_ret (zb rfl (g:=w.heap.size) rfl ((h1.set _ _ _ _ _ _).res rfl)) rfl ⟨rfl,(h1.set _ _ _ _ _ _).2⟩
theorem compared_11 (o:Int) (w:World):Calls Tryz.prog 69 #[.int .i64 11,.int .i64 o] w fun r w'=>r=.returned (vB (decide (0<o))).v/\Below w.heap.size w w':=by
 have h0:=R1.start w #[.int .i64 0,.int .i64 0,.int .i64 0,.string .empty,.bool false,.int .i64 0];go_enter Tryz.func69,Tryz.ntmps69;go_wp2_with fail;refine Calls.mono (xi _ _) ?_;rintro _ w1 ⟨rfl,b1⟩;rw[Y7];have h1:=h0.next b1
 obtain⟨y0,y1,y2,y3,y4,y5⟩:=h1.1.six;have zf:=h1.1.frozen;have wl:=h1.1.lt;clear h0 b1;go_wp2;exact bodyPost_ret (zb rfl (g:=w.heap.size) rfl ((h1.set _ _ _ _ _ _).res rfl)) rfl ⟨rfl,(h1.set _ _ _ _ _ _).2⟩
theorem compared_12 (o:Int) (w:World):Calls Tryz.prog 69 #[.int .i64 12,.int .i64 o] w fun r w'=>r=.returned (vB (decide (0<=o))).v/\Below w.heap.size w w':=by
 have h0:=R1.start w #[.int .i64 0,.int .i64 0,.int .i64 0,.string .empty,.bool false,.int .i64 0];go_enter Tryz.func69,Tryz.ntmps69;go_wp2_with fail;refine Calls.mono (xi _ _) ?_;rintro _ w1 ⟨rfl,b1⟩;rw[Y7];have h1:=h0.next b1
 obtain⟨y0,y1,y2,y3,y4,y5⟩:=h1.1.six;have zf:=h1.1.frozen;have wl:=h1.1.lt;clear h0 b1;go_wp2;exact bodyPost_ret (zb rfl (g:=w.heap.size) rfl ((h1.set _ _ _ _ _ _).res rfl)) rfl ⟨rfl,(h1.set _ _ _ _ _ _).2⟩
theorem compared_none (op o:Int) (h:¬ (7<=op/\op<=12)) (w:World):Calls Tryz.prog 69 #[.int .i64 op,.int .i64 o] w fun r w'=>r=.returned (vX 2).v/\Below w.heap.size w w':=by
 have h0:=R1.start w #[.int .i64 0,.int .i64 0,.int .i64 0,.string .empty,.bool false,.int .i64 0];have e7:(op==7)=false:=by simp;omega
 have e8:(op==8)=false:=by simp;omega
 have e9:(op==9)=false:=by simp;omega
 have e10:(op==10)=false:=by simp;omega
 have e11:(op==11)=false:=by simp;omega
 have e12:(op==12)=false:=by simp;omega
 clear h;go_enter Tryz.func69,Tryz.ntmps69;go_wp2_with fail;refine Calls.mono (qQ 2 _) ?_;rintro _ w1 ⟨rfl,b1⟩;rw[kU];have h1:=h0.next b1
 obtain⟨y0,y1,y2,y3,y4,y5⟩:=h1.1.six;have zf:=h1.1.frozen;have wl:=h1.1.lt;clear h0 b1;go_wp2;exact bodyPost_ret (zb rfl (g:=w.heap.size) rfl ((h1.set _ _ _ _ _ _).res rfl)) rfl ⟨rfl,(h1.set _ _ _ _ _ _).2⟩
theorem compared_any (op o:Int) (w:World):Calls Tryz.prog 69 #[.int .i64 op,.int .i64 o] w fun r w'=>r=.returned (XU op o).v/\Below w.heap.size w w':=by
 unfold XU;by_cases h:7<=op/\op<=12
 ·obtain rfl|rfl|rfl|rfl|rfl|rfl:op=7\/op=8\/op=9\/op=10\/op=11\/op=12:=by omega
  ·exact compared_7 o w
  ·exact compared_8 o w
  ·exact compared_9 o w
  ·exact compared_10 o w
  ·exact compared_11 o w
  ·exact compared_12 o w
 ·rw[if_neg (by omega),if_neg (by omega),if_neg (by omega),if_neg (by omega),if_neg (by omega),if_neg (by omega)];exact compared_none op o h w
end Go.Proofs.YtnhflnpjepiceaaGreatDoor
