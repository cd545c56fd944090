import Derived.Test.YtnhflnpjepiceaaGreatDoorWtnM
import Derived.Test.YtnhflnpjepiceaaGreatDoorSh2
import Derived.Lib.IndexBytes
import Derived.WalkLawsBesides
namespace Go.Proofs.YtnhflnpjepiceaaGreatDoor
open Go.RowKit
def bs (l : List UInt8) : ByteArray := ⟨l.toArray⟩
theorem Xi (l:List UInt8):(bs l).data.toList=l:=rfl
theorem zG (l:List UInt8):(bs l).size=l.length:=by simp[bs,ByteArray.size]
theorem yL (l:List UInt8):(bs l).toList=l:=by rw[Lib.toList_data];rfl
theorem YO {a:ByteArray} {l:List UInt8} (h:a.data.toList=l):a=bs l:=by rw[←h];rfl
theorem Xh (l:List UInt8) (k:Nat):(bs l).extract 0 k=bs (l.take k):=YO (by rw[Lib.extract_data];simp[bs])
theorem bs_drop (l : List UInt8) (k : Nat) : (bs l).extract k (bs l).size = bs (l.drop k) := YO (by
  rw [Lib.extract_data, Xi, zG]
  rw [List.take_of_length_le (by simp)])
def zI (l cs : List UInt8) : List UInt8 := l.takeWhile (cs.contains ·)
def x6 (l cs : List UInt8) : List UInt8 := l.dropWhile (cs.contains ·)
theorem yR (l cs:List UInt8):zI l cs++x6 l cs=l:=List.takeWhile_append_dropWhile
theorem jE (l cs:List UInt8):(zI l cs).length+(x6 l cs).length=l.length:=by
 have:=congrArg List.length (yR l cs);simpa using this
theorem ahead_take (l cs : List UInt8) : l.take (zI l cs).length = zI l cs := by
  have := yR l cs
  calc l.take (zI l cs).length = (zI l cs ++ x6 l cs).take (zI l cs).length := by rw [this]
    _ = zI l cs := by simp
theorem Y0 (l:List UInt8) (k:Nat) (h:k<(bs l).size):l.drop k=(bs l)[k]::l.drop (k+1):=by
 have h':k<l.length:=by rw[zG] at h;exact h
 rw[List.drop_eq_getElem_cons h'];rfl
def zB : List UInt8 := [48, 49, 50, 51, 52, 53, 54, 55, 56, 57]
def yX (l : List UInt8) : Nat := l.foldl (fun a b => a * 10 + (b.toNat - 48)) 0
theorem yZ {b:UInt8} (h:zB.contains b=true):48<=b.toNat/\b.toNat<=57:=by
 simp[zB] at h;rcases h with rfl|rfl|rfl|rfl|rfl|rfl|rfl|rfl|rfl|rfl<;>decide
theorem xK {l cs:List UInt8} {b:UInt8} (h:b ∈ zI l cs):cs.contains b=true:=by
 unfold zI at h;induction l with
 | nil=>simp at h
 | cons a l ih =>
  rw[List.takeWhile_cons] at h;split at h
  ·rcases List.mem_cons.1 h with rfl|h
   ·assumption
   ·exact ih h
  ·simp at h
theorem yQ {a w:World} (h:Below a.heap.size a w) (o:Obj):Below a.heap.size a (w.alloc o):=h.alloc h.size o
theorem one_row (w w1:World) (o1:Array Value) (t1:TypeId) (h:Below ((w.alloc (.cells o1 t1)).heap.size) (w.alloc (.cells o1 t1)) w1):Row w1 w.heap.size t1 o1∧Below w.heap.size w w1:=⟨(Row.new w t1 o1).below h (by simp),((Below.refl _ w).alloc (Nat.le_refl _) _).trans (h.mono (by simp))⟩
theorem wrap64_id (n:Int) (h : -9223372036854775808≤n∧n≤9223372036854775807):wrap64 n=n:=by unfold wrap64;omega
set_option maxRecDepth 100000
set_option maxHeartbeats 1000000
theorem xt (l:List UInt8) (hl:l.length<=9223372036854775807) (w:World):Calls Tryz.prog 142 #[.string (bs l)] w fun e w'=>e=.returned (.tuple #[.string (bs (zI l zB)),.string (bs (x6 l zB))])/\Below w.heap.size w w':=by
 have HT:Hid (Calls Tryz.prog 167 #[.string (bs l),.string ⟨#[48,49,50,51,52,53,54,55,56,57]⟩] w fun e w'=>e=.returned (.string (bs (x6 l zB)))/\Below w.heap.size w w'):=Tryz.strings_TrimLeft_laid (bs l) (bs zB) w (by rw[zG];decide) (fun j b hb=>by have:=List.all_eq_true.1 (show zB.all (fun b=>decide (b.toNat<128))=true by decide) b (List.mem_of_getElem? hb);simpa using this)
 have hk:=jE l zB;have s1:=zG l;have s2:=zG (x6 l zB);have e1:wrap64 (((bs l).size:Int)-((bs (x6 l zB)).size:Int))=(((zI l zB).length:Nat):Int):=by rw[wrap64_id _ (by omega)];omega
 have e2:(bs l).extract 0 (zI l zB).length=bs (zI l zB):=by rw[Xh,ahead_take]
 have hle:(zI l zB).length<=(bs l).size:=by omega
 clear s1 s2 hk;go_enter Tryz.func142,Tryz.ntmps142;go_wp2_with fail;refine Calls.mono HT.out ?_;rintro _ w1 ⟨rfl,hB⟩;clear HT;go_wp2;go_ret2;exact⟨rfl,hB⟩
def jm (r : List UInt8) : List UInt8 := if Lib.hasPrefix r [45] then Lib.trimPrefix r [45] else Lib.trimPrefix r [43]
def ZW (l : List UInt8) : Int × Bool := match l with
  | [] => (0, false)
  | a :: r => if decide (a = 69) || decide (a = 101) then
      (if decide (1 ≤ (zI (jm r) zB).length) && decide ((zI (jm r) zB).length ≤ 3) && (x6 (jm r) zB).isEmpty then
        ((if Lib.hasPrefix r [45] then -((yX (zI (jm r) zB) : Nat) : Int) else ((yX (zI (jm r) zB) : Nat) : Int)), true) else (0, false))
      else (0, false)
theorem rowN_snoc (l:List UInt8) (c:UInt8):yX (l++[c])=yX l*10+(c.toNat-48):=by
 unfold yX;rw[List.foldl_append];rfl
theorem kv (D:List UInt8) (k:Nat) (h:k<D.length):yX (D.take (k+1))=yX (D.take k)*10+(D[k].toNat-48):=by
 rw[List.take_succ_eq_append_getElem h,rowN_snoc]
theorem qN : ∀ (k : Nat) (D : List UInt8), (∀ b ∈ D, b.toNat ≤ 57) → yX (D.take k) < 10 ^ k
  | 0, D, _ => by simp [yX]
  | k + 1, D, hD => by
    by_cases h : k < D.length
    · rw [kv D k h]
      have := qN k D hD
      have hb := hD _ (List.getElem_mem h)
      rw [Nat.pow_succ]
      omega
    · have := qN k D hD
      rw [List.take_of_length_le (by omega)] at this ⊢
      rw [Nat.pow_succ]
      omega
theorem exp_t (l r l1 l2 D R:List UInt8) (w:World) (h0:0<(bs l).size) (hA:((((bs l)[0]'h0).toNat:Int) != 69)=false\/(((((bs l)[0]'h0).toNat:Int) != 69)=true/\((((bs l)[0]'h0).toNat:Int) != 101)=false)) (HX:Hid ((bs l).extract 1 (bs l).size=bs r)) (h1:∀ W,Hid (Calls Tryz.prog 141 #[.string (bs r),.string ⟨#[45]⟩] W fun e w'=>e=.returned (.tuple #[.string (bs l1),.bool true])/\w'=W)) (h3:∀ W,Hid (Calls Tryz.prog 142 #[.string (bs l2)] W fun e w'=>e=.returned (.tuple #[.string (bs D),.string (bs R)])/\Below W.heap.size W w')) (e12:l1=l2) (HD:Hid (∀b ∈ D,48<=b.toNat/\b.toNat<=57)) (v:Value) (HV:Hid (v=(if decide (1<=D.length)&&decide (D.length<=3)&&R.isEmpty then .tuple #[.int .i64 (-((yX D:Nat):Int)),.bool true] else .tuple #[.int .i64 0,.bool false]))):Calls Tryz.prog 143 #[.string (bs l)] w fun e w'=>e=.returned v/\Below w.heap.size w w':=by
 subst e12;have hsl:(1:Int)<=((bs l).size:Int):=by omega
 have HZ:Hid ((bs D).size=D.length):=zG D;have h1':∀ W,Hid (Calls Tryz.prog 141 #[.string ((bs l).extract 1 (bs l).size),.string ⟨#[45]⟩] W fun e w'=>e=.returned (.tuple #[.string (bs l1),.bool true])/\w'=W):=fun W=>by rw[HX.out];exact h1 W
 clear h1 HX;rcases hA with a1|⟨a1,a2⟩<;>(
  go_enter Tryz.func143,Tryz.ntmps143;go_wp2_with fail;refine Calls.mono (h1' _).out ?_;rintro _ w0 ⟨rfl,hw⟩;rw[hw];clear hw w0;go_wp2_with fail;refine Calls.mono (h3 _).out ?_;rintro _ w1 ⟨rfl,hB⟩;have HB:Hid (Below w.heap.size w w1):=hB;clear hB h1' h3;by_cases x1:(bs D).size<1
  case pos =>
   have t1:((bs D).size:Int)<1:=by omega
   have HF:Hid ((decide (1<=D.length)&&decide (D.length<=3)&&R.isEmpty)=false):=by show _=_;rw[decide_eq_false (by have:=HZ.out;omega)];rfl
   clear x1;go_wp2;go_ret2;exact⟨by rw[HV.out,HF.out];rfl,HB.out⟩
  have t1:decide (((bs D).size:Int)<1)=false:=decide_eq_false (by omega);by_cases x2:(bs D).size<=3
  case neg =>
   have t2:(3:Int)<((bs D).size:Int):=by omega
   have HF:Hid ((decide (1<=D.length)&&decide (D.length<=3)&&R.isEmpty)=false):=by show _=_;rw[decide_eq_false (show ¬ D.length<=3 by have:=HZ.out;omega)];simp
   clear x1 x2;go_wp2;go_ret2;exact⟨by rw[HV.out,HF.out];rfl,HB.out⟩
  have t2:decide ((3:Int)<((bs D).size:Int))=false:=decide_eq_false (by omega);rcases R with _|⟨c,R⟩
  case cons =>
   have eE:(bs (c::R)).toList.isEmpty=false:=by rw[yL];rfl
   have HF:Hid ((decide (1<=D.length)&&decide (D.length<=3)&&(c::R).isEmpty)=false):=by show _=_;simp
   clear x1 x2;go_wp2;go_ret2;exact⟨by rw[HV.out,HF.out];rfl,HB.out⟩
  have eE:(bs []).toList.isEmpty=true:=by rw[yL];rfl
  have HF:Hid ((decide (1<=D.length)&&decide (D.length<=3)&&([]:List UInt8).isEmpty)=true):=by show _=_;rw[decide_eq_true (by have:=HZ.out;omega),decide_eq_true (by have:=HZ.out;omega)];rfl
  have HL:Hid ((bs D).size<=3):=x2;clear x1 x2;go_wp2;go_loopw [7,8,46] (fun v7 v8 v46 wr=>∃k:Nat,k<=(bs D).size/\v7=.int .i64 ((yX (D.take k):Nat):Int)/\v46=.int .i64 (k:Int)/\w1=wr/\v8=v8) (fun _ _ v46 _=>(bs D).size-(intOf v46).toNat)
  case atStart=>exact⟨0,Nat.zero_le _,rfl,rfl,rfl,rfl⟩
  case round =>
   obtain⟨k,hk,rfl,rfl,rfl,_⟩:=hrel;by_cases hlt:k<(bs D).size
   ·have HK:Hid (k<(bs D).size):=hlt;have hlt:=hlt;have hl2:k<D.length:=by have:=HZ.out;omega
    have hdig:=HD.out D[k] (List.getElem_mem hl2);have hnx:=kv D k hl2;have hb:=qN k D (fun b hb=>(HD.out b hb).2);have hb3:10 ^ k<=10 ^ 3:=Nat.pow_le_pow_right (by omega) (by have:=HL.out;omega);obtain⟨u,hu⟩:∃u,yX (D.take k)=u:=⟨_,rfl⟩;obtain⟨x,hx⟩:∃x:Nat,D[k].toNat=x:=⟨_,rfl⟩;rw[hu,hx] at hnx;rw[hx] at hdig;rw[hu] at hb ⊢;have hgx:((bs D)[k]'hlt).toNat=x:=hx;have hx1:IntKind.u8.wrap ((x:Int)-48)=((x-48:Nat):Int):=by simp[IntKind.wrap,IntKind.bits,IntKind.signed];omega
    have hx2:wrap64 ((u:Int)*10)=((u*10:Nat):Int):=by unfold wrap64;omega
    have HN:Hid (yX (D.take (k+1))=u*10+(x-48)):=hnx;have HU:Hid (u<1000):=by show _<_;omega
    have HXd:Hid (48<=x/\x<=57):=hdig;have b1:(48:Int)<=(x:Int):=by omega
    have b2:(x:Int)<=57:=by omega
    have b3:(u:Int)<1000:=by omega
    have b4:(k:Int)<3:=by have:=HL.out;omega
    clear hnx hu hx hb hb3 hdig hl2;go_wp2;go_roundw
    case rel=>exact⟨k+1,HK.out,by rw[HN.out];first|rfl|(congr 1;have:=HXd.out;have:=HU.out;push_cast;omega)|go_num,by go_num,trivial,trivial⟩
    case measure=>have:=HK.out;simp[intOf];omega
   ·obtain rfl:k=(bs D).size:=by omega
    have HT:Hid (yX (D.take (bs D).size)=yX D):=by show _=_;rw[HZ.out,List.take_length]
    have hb:=qN 3 D (fun b hb=>(HD.out b hb).2);rw[List.take_of_length_le (by have:=HZ.out;have:=HL.out;omega)] at hb;rw[HT.out];obtain⟨u,hu⟩:∃u,yX D=u:=⟨_,rfl⟩;have HU:Hid (yX D=u):=hu;rw[hu] at hb ⊢;clear hu HT;go_wp2;go_ret2;exact⟨by rw[HV.out,HF.out,HU.out];rfl,HB.out⟩)
theorem exp_f (l r l1 l2 D R:List UInt8) (w:World) (h0:0<(bs l).size) (hA:((((bs l)[0]'h0).toNat:Int) != 69)=false\/(((((bs l)[0]'h0).toNat:Int) != 69)=true/\((((bs l)[0]'h0).toNat:Int) != 101)=false)) (HX:Hid ((bs l).extract 1 (bs l).size=bs r)) (h1:∀ W,Hid (Calls Tryz.prog 141 #[.string (bs r),.string ⟨#[45]⟩] W fun e w'=>e=.returned (.tuple #[.string (bs l1),.bool false])/\w'=W)) (h2:∀ W,Hid (Calls Tryz.prog 61 #[.string (bs l1),.string ⟨#[43]⟩] W fun e w'=>e=.returned (.string (bs l2))/\w'=W)) (h3:∀ W,Hid (Calls Tryz.prog 142 #[.string (bs l2)] W fun e w'=>e=.returned (.tuple #[.string (bs D),.string (bs R)])/\Below W.heap.size W w')) (HD:Hid (∀b ∈ D,48<=b.toNat/\b.toNat<=57)) (v:Value) (HV:Hid (v=(if decide (1<=D.length)&&decide (D.length<=3)&&R.isEmpty then .tuple #[.int .i64 (((yX D:Nat):Int)),.bool true] else .tuple #[.int .i64 0,.bool false]))):Calls Tryz.prog 143 #[.string (bs l)] w fun e w'=>e=.returned v/\Below w.heap.size w w':=by
 have hsl:(1:Int)<=((bs l).size:Int):=by omega
 have HZ:Hid ((bs D).size=D.length):=zG D;have h1':∀ W,Hid (Calls Tryz.prog 141 #[.string ((bs l).extract 1 (bs l).size),.string ⟨#[45]⟩] W fun e w'=>e=.returned (.tuple #[.string (bs l1),.bool false])/\w'=W):=fun W=>by rw[HX.out];exact h1 W
 clear h1 HX;rcases hA with a1|⟨a1,a2⟩<;>(
  go_enter Tryz.func143,Tryz.ntmps143;go_wp2_with fail;refine Calls.mono (h1' _).out ?_;rintro _ w0 ⟨rfl,hw⟩;rw[hw];clear hw w0;go_wp2_with fail;refine Calls.mono (h2 _).out ?_;rintro _ w0 ⟨rfl,hw⟩;rw[hw];clear hw w0;go_wp2_with fail;refine Calls.mono (h3 _).out ?_;rintro _ w1 ⟨rfl,hB⟩;have HB:Hid (Below w.heap.size w w1):=hB;clear hB h1' h3;by_cases x1:(bs D).size<1
  case pos =>
   have t1:((bs D).size:Int)<1:=by omega
   have HF:Hid ((decide (1<=D.length)&&decide (D.length<=3)&&R.isEmpty)=false):=by show _=_;rw[decide_eq_false (by have:=HZ.out;omega)];rfl
   clear x1;go_wp2;go_ret2;exact⟨by rw[HV.out,HF.out];rfl,HB.out⟩
  have t1:decide (((bs D).size:Int)<1)=false:=decide_eq_false (by omega);by_cases x2:(bs D).size<=3
  case neg =>
   have t2:(3:Int)<((bs D).size:Int):=by omega
   have HF:Hid ((decide (1<=D.length)&&decide (D.length<=3)&&R.isEmpty)=false):=by show _=_;rw[decide_eq_false (show ¬ D.length<=3 by have:=HZ.out;omega)];simp
   clear x1 x2;go_wp2;go_ret2;exact⟨by rw[HV.out,HF.out];rfl,HB.out⟩
  have t2:decide ((3:Int)<((bs D).size:Int))=false:=decide_eq_false (by omega);rcases R with _|⟨c,R⟩
  case cons =>
   have eE:(bs (c::R)).toList.isEmpty=false:=by rw[yL];rfl
   have HF:Hid ((decide (1<=D.length)&&decide (D.length<=3)&&(c::R).isEmpty)=false):=by show _=_;simp
   clear x1 x2;go_wp2;go_ret2;exact⟨by rw[HV.out,HF.out];rfl,HB.out⟩
  have eE:(bs []).toList.isEmpty=true:=by rw[yL];rfl
  have HF:Hid ((decide (1<=D.length)&&decide (D.length<=3)&&([]:List UInt8).isEmpty)=true):=by show _=_;rw[decide_eq_true (by have:=HZ.out;omega),decide_eq_true (by have:=HZ.out;omega)];rfl
  have HL:Hid ((bs D).size<=3):=x2;clear x1 x2;go_wp2;go_loopw [7,8,46] (fun v7 v8 v46 wr=>∃k:Nat,k<=(bs D).size/\v7=.int .i64 ((yX (D.take k):Nat):Int)/\v46=.int .i64 (k:Int)/\w1=wr/\v8=v8) (fun _ _ v46 _=>(bs D).size-(intOf v46).toNat)
  case atStart=>exact⟨0,Nat.zero_le _,rfl,rfl,rfl,rfl⟩
  case round =>
   obtain⟨k,hk,rfl,rfl,rfl,_⟩:=hrel;by_cases hlt:k<(bs D).size
   ·have HK:Hid (k<(bs D).size):=hlt;have hlt:=hlt;have hl2:k<D.length:=by have:=HZ.out;omega
    have hdig:=HD.out D[k] (List.getElem_mem hl2);have hnx:=kv D k hl2;have hb:=qN k D (fun b hb=>(HD.out b hb).2);have hb3:10 ^ k<=10 ^ 3:=Nat.pow_le_pow_right (by omega) (by have:=HL.out;omega);obtain⟨u,hu⟩:∃u,yX (D.take k)=u:=⟨_,rfl⟩;obtain⟨x,hx⟩:∃x:Nat,D[k].toNat=x:=⟨_,rfl⟩;rw[hu,hx] at hnx;rw[hx] at hdig;rw[hu] at hb ⊢;have hgx:((bs D)[k]'hlt).toNat=x:=hx;have hx1:IntKind.u8.wrap ((x:Int)-48)=((x-48:Nat):Int):=by simp[IntKind.wrap,IntKind.bits,IntKind.signed];omega
    have hx2:wrap64 ((u:Int)*10)=((u*10:Nat):Int):=by unfold wrap64;omega
    have HN:Hid (yX (D.take (k+1))=u*10+(x-48)):=hnx;have HU:Hid (u<1000):=by show _<_;omega
    have HXd:Hid (48<=x/\x<=57):=hdig;have b1:(48:Int)<=(x:Int):=by omega
    have b2:(x:Int)<=57:=by omega
    have b3:(u:Int)<1000:=by omega
    have b4:(k:Int)<3:=by have:=HL.out;omega
    clear hnx hu hx hb hb3 hdig hl2;go_wp2;go_roundw
    case rel=>exact⟨k+1,HK.out,by rw[HN.out];first|rfl|(congr 1;have:=HXd.out;have:=HU.out;push_cast;omega)|go_num,by go_num,trivial,trivial⟩
    case measure=>have:=HK.out;simp[intOf];omega
   ·obtain rfl:k=(bs D).size:=by omega
    have HT:Hid (yX (D.take (bs D).size)=yX D):=by show _=_;rw[HZ.out,List.take_length]
    have hb:=qN 3 D (fun b hb=>(HD.out b hb).2);rw[List.take_of_length_le (by have:=HZ.out;have:=HL.out;omega)] at hb;rw[HT.out];obtain⟨u,hu⟩:∃u,yX D=u:=⟨_,rfl⟩;have HU:Hid (yX D=u):=hu;rw[hu] at hb ⊢;clear hu HT;go_wp2;go_ret2;exact⟨by rw[HV.out,HF.out,HU.out];rfl,HB.out⟩)
set_option maxHeartbeats 400000
theorem exp_no (l:List UInt8) (w:World) (h0:0<(bs l).size) (a1:((((bs l)[0]'h0).toNat:Int) != 69)=true) (a2:((((bs l)[0]'h0).toNat:Int) != 101)=true):Calls Tryz.prog 143 #[.string (bs l)] w fun e w'=>e=.returned (.tuple #[.int .i64 0,.bool false])/\Below w.heap.size w w':=by
 go_enter Tryz.func143,Tryz.ntmps143;go_wp2;go_ret2;exact⟨rfl,Below.refl _ _⟩
theorem neI {a:UInt8} {n:Nat} (hn:n<256):((a.toNat:Int) != (n:Int)) = !decide (a=UInt8.ofNat n):=by
 by_cases h:a=UInt8.ofNat n
 ·subst h;have:(UInt8.ofNat n).toNat=n:=by simp;omega
  simp[this]
 ·rw[decide_eq_false h];have:a.toNat≠n:=fun e=>h (UInt8.toNat_inj.1 (by rw[e];simp;omega));simp;omega
theorem jp (l p:List UInt8):(Lib.trimPrefix l p).length<=l.length:=by
 unfold Lib.trimPrefix;split
 ·simp
 ·exact Nat.le_refl _
theorem exponent_any (a:UInt8) (r:List UInt8) (hl:(a::r).length<=140737488351232) (w:World):Calls Tryz.prog 143 #[.string (bs (a::r))] w fun e w'=>e=.returned (.tuple #[.int .i64 (ZW (a::r)).1,.bool (ZW (a::r)).2])/\Below w.heap.size w w':=by
 have h0:0<(bs (a::r)).size:=by rw[zG];simp
 have hg:((bs (a::r))[0]'h0)=a:=rfl;have n1:((((bs (a::r))[0]'h0).toNat:Int) != 69) = !decide (a=69):=neI (n:=69) (by omega);have n2:((((bs (a::r))[0]'h0).toNat:Int) != 101) = !decide (a=101):=neI (n:=101) (by omega);have HX:Hid ((bs (a::r)).extract 1 (bs (a::r)).size=bs r):=by show _=_;rw[bs_drop];rfl
 have hr:r.length<=140737488351232:=by simp at hl;omega
 have hcut:∀ W,Hid (Calls Tryz.prog 141 #[.string (bs r),.string ⟨#[45]⟩] W fun e w'=>e=.returned (.tuple #[.string (bs (Lib.trimPrefix r [45])),.bool (Lib.hasPrefix r [45])])/\w'=W):=fun W=>Tryz.strings_CutPrefix (bs r) (bs [45]) W;by_cases hE:a=69\/a=101
 ·have hA:((((bs (a::r))[0]'h0).toNat:Int) != 69)=false\/(((((bs (a::r))[0]'h0).toNat:Int) != 69)=true/\((((bs (a::r))[0]'h0).toNat:Int) != 101)=false):=by rw[n1,n2];rcases hE with rfl|rfl<;>decide
  have hd:(decide (a=69)||decide (a=101))=true:=by simpa using hE
  have he:ZW (a::r)=(if decide (1<=(zI (jm r) zB).length)&&decide ((zI (jm r) zB).length<=3)&&(x6 (jm r) zB).isEmpty then ((if Lib.hasPrefix r [45] then -((yX (zI (jm r) zB):Nat):Int) else ((yX (zI (jm r) zB):Nat):Int)),true) else (0,false)):=by unfold ZW;simp only;rw[if_pos hd]
  have HD:Hid (∀b ∈ zI (jm r) zB,48<=b.toNat/\b.toNat<=57):=fun b hb=>yZ (xK hb);rw[he];cases hp:Lib.hasPrefix r [45]
  ·rw[hp] at hcut;have e1:Lib.trimPrefix r [45]=r:=by unfold Lib.trimPrefix;rw[hp];rfl
   rw[e1] at hcut;have e2:jm r=Lib.trimPrefix r [43]:=by unfold jm;rw[hp];rfl
   rw[e2] at HD ⊢;refine exp_f (a::r) r r (Lib.trimPrefix r [43]) _ _ w h0 hA HX hcut (fun W=>Tryz.strings_TrimPrefix (bs r) (bs [43]) W) (fun W=>xt _ (by have:=jp r [43];omega) W) HD _ ?_;show _=_;split<;>rfl
  ·rw[hp] at hcut;have e2:jm r=Lib.trimPrefix r [45]:=by unfold jm;rw[hp];rfl
   rw[e2] at HD ⊢;refine exp_t (a::r) r (Lib.trimPrefix r [45]) (Lib.trimPrefix r [45]) _ _ w h0 hA HX hcut (fun W=>xt _ (by have:=jp r [45];omega) W) rfl HD _ ?_;show _=_;split<;>rfl
 ·have hd:(decide (a=69)||decide (a=101))=false:=by simpa using hE
  have he:ZW (a::r)=(0,false):=by unfold ZW;simp only;rw[hd];rfl
  rw[he];simp only[not_or] at hE;refine exp_no (a::r) w h0 ?_ ?_
  ·rw[n1,decide_eq_false hE.1];rfl
  ·rw[n2,decide_eq_false hE.2];rfl
set_option maxHeartbeats 1000000
structure Wr where
  neg : Bool
  whole : List UInt8
  part : List UInt8
  e : Int
def Wr.cells (x : Wr) : Array Value := #[.bool x.neg, .string (bs x.whole), .string (bs x.part), .int .i64 x.e]
def Wr.v (x : Wr) : Value := .agg x.cells
def x8 (l : List UInt8) : List UInt8 × List UInt8 × Bool :=
  if Lib.hasPrefix l [46] then (zI (Lib.trimPrefix l [46]) zB, x6 (Lib.trimPrefix l [46]) zB, !(zI (Lib.trimPrefix l [46]) zB).isEmpty) else ([], l, true)
def qq (l : List UInt8) : Int × Bool := if l.isEmpty then (0, true) else ZW l
def yc (l : List UInt8) : Wr × Bool :=
  (⟨Lib.hasPrefix l [45], zI (Lib.trimPrefix l [45]) zB, (x8 (x6 (Lib.trimPrefix l [45]) zB)).1, (qq (x8 (x6 (Lib.trimPrefix l [45]) zB)).2.1).1⟩,
    !(zI (Lib.trimPrefix l [45]) zB).isEmpty && (x8 (x6 (Lib.trimPrefix l [45]) zB)).2.2 && (qq (x8 (x6 (Lib.trimPrefix l [45]) zB)).2.1).2)
theorem Tryz.zero71:(Tryz.prog.info? 97).map (fun i=>(i.zero,i.size))=some (some (.agg #[.bool false,.string .empty,.string .empty,.int .i64 0]),4):=by kernel_rfl
theorem Xb {W:World} {B:Nat} {cs:Array Value} (h:Row W B 97 cs) (hs:cs.size=4):(loadVar 97 ⟨B,0,none⟩).run Tryz.prog W=.ok (.agg cs) W:=run_loadVar_row _ _ 97 97 cs (0,0) _ h Tryz.underlying97 rfl (by rw[hs];exact(zero_of_info Tryz.zero71).2)
theorem Row.fourR {W:World} {B:Nat} {t:TypeId} {a b c d:Value} (h:Row W B t #[a,b,c,d]):W.cell? ⟨B,0,none⟩=some a∧W.cell? ⟨B,1,none⟩=some b∧W.cell? ⟨B,2,none⟩=some c∧W.cell? ⟨B,3,none⟩=some d:=⟨h.cell rfl,h.cell rfl,h.cell rfl,h.cell rfl⟩
theorem Row.set4R {W:World} {B:Nat} {t:TypeId} {a b c d:Value} (h:Row W B t #[a,b,c,d]) (a' b' c' d':Value):Row ((((W.setCell ⟨B,0,none⟩ a').setCell ⟨B,1,none⟩ b').setCell ⟨B,2,none⟩ c').setCell ⟨B,3,none⟩ d') B t #[a',b',c',d']:=(((h.set 0 a').set 1 b').set 2 c').set 3 d'
theorem qF {N:Nat} {x W:World} (h:Below N x W) {B':Nat} (hN:N≤B') (a b c d:Value):Below N x ((((W.setCell ⟨B',0,none⟩ a).setCell ⟨B',1,none⟩ b).setCell ⟨B',2,none⟩ c).setCell ⟨B',3,none⟩ d):=za (za (za (za h 0 a hN) 1 b hN) 2 c hN) 3 d hN
theorem read_p (l l1 wh l2 l3 P R:List UInt8) (ng:Bool) (ex:Int) (xb:Bool) (w:World) (h1:∀ W,Hid (Calls Tryz.prog 141 #[.string (bs l),.string ⟨#[45]⟩] W fun e w'=>e=.returned (.tuple #[.string (bs l1),.bool ng])/\w'=W)) (h2:∀ W,Hid (Calls Tryz.prog 142 #[.string (bs l1)] W fun e w'=>e=.returned (.tuple #[.string (bs wh),.string (bs l2)])/\Below W.heap.size W w')) (h3:∀ W,Hid (Calls Tryz.prog 141 #[.string (bs l2),.string ⟨#[46]⟩] W fun e w'=>e=.returned (.tuple #[.string (bs l3),.bool true])/\w'=W)) (h4:∀ W,Hid (Calls Tryz.prog 142 #[.string (bs l3)] W fun e w'=>e=.returned (.tuple #[.string (bs P),.string (bs R)])/\Below W.heap.size W w')) (h5:R≠[]->∀ W,Hid (Calls Tryz.prog 143 #[.string (bs R)] W fun e w'=>e=.returned (.tuple #[.int .i64 ex,.bool xb])/\Below W.heap.size W w')) (h6:R=[]->ex=0/\xb=true) (ok:Bool) (HO:Hid ((!wh.isEmpty && !P.isEmpty&&xb)=ok)):Calls Tryz.prog 103 #[.string (bs l)] w fun e w'=>e=.returned (.tuple #[(⟨ng,wh,P,ex⟩:Wr).v,.bool ok])/\Below w.heap.size w w':=by
 have nE:∀(a:UInt8) (x:List UInt8),(bs (a::x)).toList.isEmpty=false:=fun a x=>by rw[yL];rfl
 have eE:(bs []).toList.isEmpty=true:=by rw[yL];rfl
 have H5:Hid (R≠[]->∀ W,Hid (Calls Tryz.prog 143 #[.string (bs R)] W fun e w'=>e=.returned (.tuple #[.int .i64 ex,.bool xb])/\Below W.heap.size W w')):=h5;have H6:Hid (R=[]->ex=0/\xb=true):=h6;clear h5 h6;go_enter Tryz.func103,Tryz.ntmps103;go_wp2_with fail;refine Calls.mono (h1 _).out ?_;rintro _ w0 ⟨rfl,hw⟩;rw[hw];clear hw w0 h1;go_wp2_with fail;refine Calls.mono (h2 _).out ?_;rintro _ w1 ⟨rfl,b1⟩;obtain⟨hZ,hB⟩:=one_row w w1 _ _ b1;clear b1 h2;have hZ0:=hZ.alloc (.cells #[.bool ng,.string (bs wh),.string .empty,.int .i64 0] 97);have hX0:=Row.new w1 97 #[.bool ng,.string (bs wh),.string .empty,.int .i64 0];have hB0:=yQ hB (.cells #[.bool ng,.string (bs wh),.string .empty,.int .i64 0] 97);have hlt:w.heap.size<w1.heap.size:=hZ.lt;have HZq:Hid (Row w1 w.heap.size 97 #[.bool false,.string .empty,.string .empty,.int .i64 0]):=hZ;have HBq:Hid (Below w.heap.size w w1):=hB;clear hZ hB;obtain⟨wb,hwb⟩:∃wb,wh.isEmpty=wb:=⟨_,rfl⟩;have hwe:(bs wh).toList.isEmpty=wb:=by rw[yL,hwb]
 rw[hwb] at HO;clear hwb;go_wp2_with fail;refine Calls.mono (h3 _).out ?_;rintro _ w0 ⟨rfl,hw⟩;rw[hw];clear hw w0 h3;go_wp2_with fail;refine Calls.mono (h4 _).out ?_;rintro _ w2 ⟨rfl,b2⟩;have hZ1:=(hZ0.below b2 hZ0.lt).off (B':=w1.heap.size) 2 (.string (bs P)) (by omega);have hX1:=(hX0.below b2 hX0.lt).set 2 (.string (bs P));have hB1:=za (hB0.trans (b2.mono hB0.size)) (B:=w1.heap.size) 2 (.string (bs P)) (by omega);have hXc:=(hX0.below b2 hX0.lt);obtain⟨y0,y1,y2,y3⟩:=hXc.fourR;have fX:=hXc.frozen;have lX:=hXc.lt;clear hXc b2 h4 hZ0 hX0 hB0;change Row (w2.setCell ⟨w1.heap.size,2,none⟩ (.string (bs P))) w1.heap.size 97 #[.bool ng,.string (bs wh),.string (bs P),.int .i64 0] at hX1;obtain⟨pb,hpb⟩:∃pb,P.isEmpty=pb:=⟨_,rfl⟩;have hpe:(bs P).toList.isEmpty=pb:=by rw[yL,hpb]
 rw[hpb] at HO;clear hpb;cases wb;all_goals cases pb
 all_goals
  rcases R with _|⟨a,R⟩
  ·obtain⟨rfl,rfl⟩:=H6.out rfl;obtain⟨z0,z1,z2,z3⟩:=hZ1.fourR;have fZ:=hZ1.frozen;have lZ:=hZ1.lt;have hE4:=Row.set4R hZ1 (.bool ng) (.string (bs wh)) (.string (bs P)) (.int .i64 0);have hF4:=qF hB1 (B':=w.heap.size) (Nat.le_refl _) (.bool ng) (.string (bs wh)) (.string (bs P)) (.int .i64 0);clear H5 H6 nE;go_wp2;exact bodyPost_ret (zd (u:=3) rfl (g:=w.heap.size) rfl rfl (Xb hE4 rfl)) rfl ⟨by rw[<-HO.out];rfl,hF4⟩
  ·have h5:=H5.out (by simp);have hne:=nE a R;clear H5 H6 eE;go_wp2_with fail;refine Calls.mono (h5 _).out ?_;rintro _ w3 ⟨rfl,b3⟩;have hX2:=hX1.below b3 hX1.lt;have hZ2:=(hZ1.below b3 hZ1.lt).off (B':=w1.heap.size) 3 (.int .i64 ex) (by omega);have hX3:=hX2.set 3 (.int .i64 ex);have hB2:=za (hB1.trans (b3.mono hB1.size)) (B:=w1.heap.size) 3 (.int .i64 ex) (by omega);change Row (w3.setCell ⟨w1.heap.size,3,none⟩ (.int .i64 ex)) w1.heap.size 97 #[.bool ng,.string (bs wh),.string (bs P),.int .i64 ex] at hX3;obtain⟨c0,c1,c2,c3⟩:=hX2.fourR;have fC:=hX2.frozen;have lC:=hX2.lt;obtain⟨z0,z1,z2,z3⟩:=(hZ1.below b3 hZ1.lt).fourR;have fZ:=(hZ1.below b3 hZ1.lt).frozen;have lZ:=(hZ1.below b3 hZ1.lt).lt;have hE4:=Row.set4R hZ2 (.bool ng) (.string (bs wh)) (.string (bs P)) (.int .i64 ex);have hF4:=qF hB2 (B':=w.heap.size) (Nat.le_refl _) (.bool ng) (.string (bs wh)) (.string (bs P)) (.int .i64 ex);clear hX1 hZ1 hB1 hX2 hZ2 hX3 hB2 b3 h5;go_wp2;exact bodyPost_ret (zd (u:=3) rfl (g:=w.heap.size) rfl rfl (Xb hE4 rfl)) rfl ⟨by rw[<-HO.out];rfl,hF4⟩
theorem read_n (l l1 wh l2 l3 P R:List UInt8) (ng:Bool) (ex:Int) (xb:Bool) (w:World) (h1:∀ W,Hid (Calls Tryz.prog 141 #[.string (bs l),.string ⟨#[45]⟩] W fun e w'=>e=.returned (.tuple #[.string (bs l1),.bool ng])/\w'=W)) (h2:∀ W,Hid (Calls Tryz.prog 142 #[.string (bs l1)] W fun e w'=>e=.returned (.tuple #[.string (bs wh),.string (bs l2)])/\Below W.heap.size W w')) (h3:∀ W,Hid (Calls Tryz.prog 141 #[.string (bs l2),.string ⟨#[46]⟩] W fun e w'=>e=.returned (.tuple #[.string (bs l3),.bool false])/\w'=W)) (h5:R≠[]->∀ W,Hid (Calls Tryz.prog 143 #[.string (bs R)] W fun e w'=>e=.returned (.tuple #[.int .i64 ex,.bool xb])/\Below W.heap.size W w')) (h6:R=[]->ex=0/\xb=true) (hP:P=[]) (hR:l2=R) (ok:Bool) (HO:Hid ((!wh.isEmpty&&true&&xb)=ok)):Calls Tryz.prog 103 #[.string (bs l)] w fun e w'=>e=.returned (.tuple #[(⟨ng,wh,P,ex⟩:Wr).v,.bool ok])/\Below w.heap.size w w':=by
 subst hP hR;have nE:∀(a:UInt8) (x:List UInt8),(bs (a::x)).toList.isEmpty=false:=fun a x=>by rw[yL];rfl
 have eE:(bs []).toList.isEmpty=true:=by rw[yL];rfl
 have H5:Hid (l2≠[]->∀ W,Hid (Calls Tryz.prog 143 #[.string (bs l2)] W fun e w'=>e=.returned (.tuple #[.int .i64 ex,.bool xb])/\Below W.heap.size W w')):=h5;have H6:Hid (l2=[]->ex=0/\xb=true):=h6;clear h5 h6;go_enter Tryz.func103,Tryz.ntmps103;go_wp2_with fail;refine Calls.mono (h1 _).out ?_;rintro _ w0 ⟨rfl,hw⟩;rw[hw];clear hw w0 h1;go_wp2_with fail;refine Calls.mono (h2 _).out ?_;rintro _ w1 ⟨rfl,b1⟩;obtain⟨hZ,hB⟩:=one_row w w1 _ _ b1;clear b1 h2;have hZ0:=hZ.alloc (.cells #[.bool ng,.string (bs wh),.string .empty,.int .i64 0] 97);have hX0:=Row.new w1 97 #[.bool ng,.string (bs wh),.string .empty,.int .i64 0];have hB0:=yQ hB (.cells #[.bool ng,.string (bs wh),.string .empty,.int .i64 0] 97);have hlt:w.heap.size<w1.heap.size:=hZ.lt;have HZq:Hid (Row w1 w.heap.size 97 #[.bool false,.string .empty,.string .empty,.int .i64 0]):=hZ;have HBq:Hid (Below w.heap.size w w1):=hB;clear hZ hB;obtain⟨wb,hwb⟩:∃wb,wh.isEmpty=wb:=⟨_,rfl⟩;have hwe:(bs wh).toList.isEmpty=wb:=by rw[yL,hwb]
 rw[hwb] at HO;clear hwb;go_wp2_with fail;refine Calls.mono (h3 _).out ?_;rintro _ w0 ⟨rfl,hw⟩;rw[hw];clear hw w0 h3;have hZ1:=hZ0;have hX1:=hX0;have hB1:=hB0;clear hZ0 hX0 hB0;cases wb;all_goals
  rcases l2 with _|⟨a,R⟩
  ·obtain⟨rfl,rfl⟩:=H6.out rfl;obtain⟨z0,z1,z2,z3⟩:=HZq.out.fourR;have fZ:=HZq.out.frozen;have lZ:=HZq.out.lt;have hE4:=(Row.set4R HZq.out (.bool ng) (.string (bs wh)) (.string .empty) (.int .i64 0)).alloc (.cells #[.bool ng,.string (bs wh),.string .empty,.int .i64 0] 97);have hF4:=yQ (qF HBq.out (B':=w.heap.size) (Nat.le_refl _) (.bool ng) (.string (bs wh)) (.string .empty) (.int .i64 0)) (.cells #[.bool ng,.string (bs wh),.string .empty,.int .i64 0] 97);clear H5 H6 nE;go_wp2;exact bodyPost_ret (zd (u:=3) rfl (g:=w.heap.size) rfl rfl (Xb hE4 rfl)) rfl ⟨by rw[<-HO.out];rfl,hF4⟩
  ·have h5:=H5.out (by simp);have hne:=nE a R;clear H5 H6 eE;go_wp2_with fail;refine Calls.mono (h5 _).out ?_;rintro _ w3 ⟨rfl,b3⟩;have hX2:=hX1.below b3 hX1.lt;have hZ2:=(hZ1.below b3 hZ1.lt).off (B':=w1.heap.size) 3 (.int .i64 ex) (by omega);have hX3:=hX2.set 3 (.int .i64 ex);have hB2:=za (hB1.trans (b3.mono hB1.size)) (B:=w1.heap.size) 3 (.int .i64 ex) (by omega);change Row (w3.setCell ⟨w1.heap.size,3,none⟩ (.int .i64 ex)) w1.heap.size 97 #[.bool ng,.string (bs wh),.string .empty,.int .i64 ex] at hX3;obtain⟨c0,c1,c2,c3⟩:=hX2.fourR;have fC:=hX2.frozen;have lC:=hX2.lt;obtain⟨z0,z1,z2,z3⟩:=(hZ1.below b3 hZ1.lt).fourR;have fZ:=(hZ1.below b3 hZ1.lt).frozen;have lZ:=(hZ1.below b3 hZ1.lt).lt;have hE4:=Row.set4R hZ2 (.bool ng) (.string (bs wh)) (.string .empty) (.int .i64 ex);have hF4:=qF hB2 (B':=w.heap.size) (Nat.le_refl _) (.bool ng) (.string (bs wh)) (.string .empty) (.int .i64 ex);clear hX1 hZ1 hB1 hX2 hZ2 hX3 hB2 b3 h5;go_wp2;exact bodyPost_ret (zd (u:=3) rfl (g:=w.heap.size) rfl rfl (Xb hE4 rfl)) rfl ⟨by rw[<-HO.out];rfl,hF4⟩
theorem dread_any (l:List UInt8) (hl:l.length<=140737488351232) (w:World):Calls Tryz.prog 103 #[.string (bs l)] w fun e w'=>e=.returned (.tuple #[(yc l).1.v,.bool (yc l).2])/\Below w.heap.size w w':=by
 have h1:∀ W,Hid (Calls Tryz.prog 141 #[.string (bs l),.string ⟨#[45]⟩] W fun e w'=>e=.returned (.tuple #[.string (bs (Lib.trimPrefix l [45])),.bool (Lib.hasPrefix l [45])])/\w'=W):=fun W=>Tryz.strings_CutPrefix (bs l) (bs [45]) W;have g1:=jp l [45];have h2:∀ W,Hid _:=fun W=>xt (Lib.trimPrefix l [45]) (by omega) W;have g2:(x6 (Lib.trimPrefix l [45]) zB).length<=l.length:=by have:=jE (Lib.trimPrefix l [45]) zB;omega
 unfold yc;generalize Lib.trimPrefix l [45]=l1 at *;generalize zI l1 zB=wh at *;generalize x6 l1 zB=l2 at *;generalize Lib.hasPrefix l [45]=ng at *;have h3:∀ W,Hid (Calls Tryz.prog 141 #[.string (bs l2),.string ⟨#[46]⟩] W fun e w'=>e=.returned (.tuple #[.string (bs (Lib.trimPrefix l2 [46])),.bool (Lib.hasPrefix l2 [46])])/\w'=W):=fun W=>Tryz.strings_CutPrefix (bs l2) (bs [46]) W;have hx:∀ R:List UInt8,R.length<=l.length->(R≠[]->∀ W,Hid (Calls Tryz.prog 143 #[.string (bs R)] W fun e w'=>e=.returned (.tuple #[.int .i64 (qq R).1,.bool (qq R).2])/\Below W.heap.size W w'))/\(R=[]->(qq R).1=0/\(qq R).2=true):=by
  intro R hR;refine⟨fun hne W => ?_,fun h=>by subst h;exact⟨rfl,rfl⟩⟩;cases R with
  | nil=>exact absurd rfl hne
  | cons a r =>
   have:qq (a::r)=ZW (a::r):=rfl;rw[this];exact exponent_any a r (by omega) W
 unfold x8;cases hp:Lib.hasPrefix l2 [46]
 ·rw[hp] at h3;simp only[Bool.false_eq_true,if_false];obtain⟨q1,q2⟩:=hx l2 g2;exact read_n l l1 wh l2 (Lib.trimPrefix l2 [46]) [] l2 ng (qq l2).1 (qq l2).2 w h1 h2 h3 q1 q2 rfl rfl _ rfl
 ·rw[hp] at h3;simp only[if_true];have g3:=jp l2 [46];have g4:=jE (Lib.trimPrefix l2 [46]) zB;obtain⟨q1,q2⟩:=hx (x6 (Lib.trimPrefix l2 [46]) zB) (by omega);exact read_p l l1 wh l2 (Lib.trimPrefix l2 [46]) (zI (Lib.trimPrefix l2 [46]) zB) (x6 (Lib.trimPrefix l2 [46]) zB) ng _ _ w h1 h2 h3 (fun W=>xt _ (by omega) W) q1 q2 _ rfl
end Go.Proofs.YtnhflnpjepiceaaGreatDoor
