import Derived.Test.YtoncpcdepemlcaaGreatDoorWtnM
import Derived.Test.YtoncpcdepemlcaaGreatDoorSh2
import Derived.Lib.IndexBytes
import Derived.WalkLawsBesides
namespace Go.Proofs.YtoncpcdepemlcaaGreatDoor
open Go.RowKit
def bs (l : List UInt8) : ByteArray := ⟨l.toArray⟩
theorem bs_list (l:List UInt8):(bs l).data.toList=l:=rfl
theorem bs_of (s:ByteArray):bs s.data.toList=s:=rfl
theorem bs_size (l:List UInt8):(bs l).size=l.length:=by simp[bs,ByteArray.size]
theorem bs_toList (l:List UInt8):(bs l).toList=l:=by rw[Lib.toList_data];rfl
theorem bs_ext {a:ByteArray} {l:List UInt8} (h:a.data.toList=l):a=bs l:=by rw[←h];rfl
theorem bs_take (l:List UInt8) (k:Nat):(bs l).extract 0 k=bs (l.take k):=bs_ext (by rw[Lib.extract_data];simp[bs])
theorem bs_drop (l : List UInt8) (k : Nat) : (bs l).extract k (bs l).size = bs (l.drop k) := bs_ext (by
  rw [Lib.extract_data, bs_list, bs_size]
  rw [List.take_of_length_le (by simp)])
def aheadL (l cs : List UInt8) : List UInt8 := l.takeWhile (cs.contains ·)
def behL (l cs : List UInt8) : List UInt8 := l.dropWhile (cs.contains ·)
theorem ahead_behind (l cs:List UInt8):aheadL l cs++behL l cs=l:=List.takeWhile_append_dropWhile
theorem ahead_len (l cs:List UInt8):(aheadL l cs).length+(behL l cs).length=l.length:=by
 have:=congrArg List.length (ahead_behind l cs);simpa using this
theorem ahead_take (l cs : List UInt8) : l.take (aheadL l cs).length = aheadL l cs := by
  have := ahead_behind l cs
  calc l.take (aheadL l cs).length = (aheadL l cs ++ behL l cs).take (aheadL l cs).length := by rw [this]
    _ = aheadL l cs := by simp
theorem drop_step (l:List UInt8) (k:Nat) (h:k<(bs l).size):l.drop k=(bs l)[k]::l.drop (k+1):=by
 have h':k<l.length:=by rw[bs_size] at h;exact h
 rw[List.drop_eq_getElem_cons h'];rfl
def digL : List UInt8 := [48, 49, 50, 51, 52, 53, 54, 55, 56, 57]
def rowN (l : List UInt8) : Nat := l.foldl (fun a b => a * 10 + (b.toNat - 48)) 0
theorem dig_bounds {b:UInt8} (h:digL.contains b=true):48<=b.toNat/\b.toNat<=57:=by
 simp[digL] at h;rcases h with rfl|rfl|rfl|rfl|rfl|rfl|rfl|rfl|rfl|rfl<;>decide
theorem ahead_mem {l cs:List UInt8} {b:UInt8} (h:b ∈ aheadL l cs):cs.contains b=true:=by
 unfold aheadL at h;induction l with
 | nil=>simp at h
 | cons a l ih =>
  rw[List.takeWhile_cons] at h;split at h
  ·rcases List.mem_cons.1 h with rfl|h
   ·assumption
   ·exact ih h
  ·simp at h
theorem below_allocS {a w:World} (h:Below a.heap.size a w) (o:Obj):Below a.heap.size a (w.alloc o):=h.alloc h.size o
theorem one_row (w w1:World) (o1:Array Value) (t1:TypeId) (h:Below ((w.alloc (.cells o1 t1)).heap.size) (w.alloc (.cells o1 t1)) w1):Row w1 w.heap.size t1 o1∧Below w.heap.size w w1:=⟨(Row.new w t1 o1).below h (by simp),((Below.refl _ w).alloc (Nat.le_refl _) _).trans (h.mono (by simp))⟩
theorem wrap64_id (n:Int) (h : -9223372036854775808≤n∧n≤9223372036854775807):wrap64 n=n:=by unfold wrap64;omega
def expD (r : List UInt8) : List UInt8 := if Lib.hasPrefix r [45] then Lib.trimPrefix r [45] else Lib.trimPrefix r [43]
def expR (l : List UInt8) : Int × Bool := match l with
  | [] => (0, false)
  | a :: r => if decide (a = 69) || decide (a = 101) then
      (if decide (1 ≤ (aheadL (expD r) digL).length) && decide ((aheadL (expD r) digL).length ≤ 3) && (behL (expD r) digL).isEmpty then
        ((if Lib.hasPrefix r [45] then -((rowN (aheadL (expD r) digL) : Nat) : Int) else ((rowN (aheadL (expD r) digL) : Nat) : Int)), true) else (0, false))
      else (0, false)
theorem rowN_snoc (l:List UInt8) (c:UInt8):rowN (l++[c])=rowN l*10+(c.toNat-48):=by
 unfold rowN;rw[List.foldl_append];rfl
theorem rowN_take (D:List UInt8) (k:Nat) (h:k<D.length):rowN (D.take (k+1))=rowN (D.take k)*10+(D[k].toNat-48):=by
 rw[List.take_succ_eq_append_getElem h,rowN_snoc]
theorem rowN_lt : ∀ (k : Nat) (D : List UInt8), (∀ b ∈ D, b.toNat ≤ 57) → rowN (D.take k) < 10 ^ k
  | 0, D, _ => by simp [rowN]
  | k + 1, D, hD => by
    by_cases h : k < D.length
    · rw [rowN_take D k h]
      have := rowN_lt k D hD
      have hb := hD _ (List.getElem_mem h)
      rw [Nat.pow_succ]
      omega
    · have := rowN_lt k D hD
      rw [List.take_of_length_le (by omega)] at this ⊢
      rw [Nat.pow_succ]
      omega
theorem neI {a:UInt8} {n:Nat} (hn:n<256):((a.toNat:Int) != (n:Int)) = !decide (a=UInt8.ofNat n):=by
 by_cases h:a=UInt8.ofNat n
 ·subst h;have:(UInt8.ofNat n).toNat=n:=by simp;omega
  simp[this]
 ·rw[decide_eq_false h];have:a.toNat≠n:=fun e=>h (UInt8.toNat_inj.1 (by rw[e];simp;omega));simp;omega
theorem trim_len (l p:List UInt8):(Lib.trimPrefix l p).length<=l.length:=by
 unfold Lib.trimPrefix;split
 ·simp
 ·exact Nat.le_refl _
structure Wr where
  neg : Bool
  whole : List UInt8
  part : List UInt8
  e : Int
def Wr.cells (x : Wr) : Array Value := #[.bool x.neg, .string (bs x.whole), .string (bs x.part), .int .i64 x.e]
def Wr.v (x : Wr) : Value := .agg x.cells
def partR (l : List UInt8) : List UInt8 × List UInt8 × Bool :=
  if Lib.hasPrefix l [46] then (aheadL (Lib.trimPrefix l [46]) digL, behL (Lib.trimPrefix l [46]) digL, !(aheadL (Lib.trimPrefix l [46]) digL).isEmpty) else ([], l, true)
def expO (l : List UInt8) : Int × Bool := if l.isEmpty then (0, true) else expR l
def readR (l : List UInt8) : Wr × Bool :=
  (⟨Lib.hasPrefix l [45], aheadL (Lib.trimPrefix l [45]) digL, (partR (behL (Lib.trimPrefix l [45]) digL)).1, (expO (partR (behL (Lib.trimPrefix l [45]) digL)).2.1).1⟩,
    !(aheadL (Lib.trimPrefix l [45]) digL).isEmpty && (partR (behL (Lib.trimPrefix l [45]) digL)).2.2 && (expO (partR (behL (Lib.trimPrefix l [45]) digL)).2.1).2)
theorem Row.fourR {W:World} {B:Nat} {t:TypeId} {a b c d:Value} (h:Row W B t #[a,b,c,d]):W.cell? ⟨B,0,none⟩=some a∧W.cell? ⟨B,1,none⟩=some b∧W.cell? ⟨B,2,none⟩=some c∧W.cell? ⟨B,3,none⟩=some d:=⟨h.cell rfl,h.cell rfl,h.cell rfl,h.cell rfl⟩
theorem Row.set4R {W:World} {B:Nat} {t:TypeId} {a b c d:Value} (h:Row W B t #[a,b,c,d]) (a' b' c' d':Value):Row ((((W.setCell ⟨B,0,none⟩ a').setCell ⟨B,1,none⟩ b').setCell ⟨B,2,none⟩ c').setCell ⟨B,3,none⟩ d') B t #[a',b',c',d']:=(((h.set 0 a').set 1 b').set 2 c').set 3 d'
theorem below_set4R {N:Nat} {x W:World} (h:Below N x W) {B':Nat} (hN:N≤B') (a b c d:Value):Below N x ((((W.setCell ⟨B',0,none⟩ a).setCell ⟨B',1,none⟩ b).setCell ⟨B',2,none⟩ c).setCell ⟨B',3,none⟩ d):=below_set (below_set (below_set (below_set h 0 a hN) 1 b hN) 2 c hN) 3 d hN
end Go.Proofs.YtoncpcdepemlcaaGreatDoor
