import Derived.Test.YtfbhonjndepjbaaDoorWtn
import Derived.Test.YtfbhonjndepjbaaDoorSh2
import Derived.Lib.IndexBytes
import Derived.WalkLawsBesides
/- Texts as lists of bytes, and the signs that a text begins with. -/
namespace Go.Proofs.YtfbhonjndepjbaaDoor
open Go.RowKit

/-- A text of bytes. -/
def bs (l : List UInt8) : ByteArray := ⟨l.toArray⟩
theorem bs_list (l : List UInt8) : (bs l).data.toList = l := rfl
theorem bs_of (s : ByteArray) : bs s.data.toList = s := rfl
theorem bs_size (l : List UInt8) : (bs l).size = l.length := by simp [bs, ByteArray.size]
theorem bs_toList (l : List UInt8) : (bs l).toList = l := by rw [Lib.toList_data]; rfl
theorem bs_ext {a : ByteArray} {l : List UInt8} (h : a.data.toList = l) : a = bs l := by rw [← h]; rfl
theorem bs_take (l : List UInt8) (k : Nat) : (bs l).extract 0 k = bs (l.take k) := bs_ext (by rw [Lib.extract_data]; simp [bs])
theorem bs_drop (l : List UInt8) (k : Nat) : (bs l).extract k (bs l).size = bs (l.drop k) := bs_ext (by
  rw [Lib.extract_data, bs_list, bs_size]
  rw [List.take_of_length_le (by simp)])
def aheadL (l cs : List UInt8) : List UInt8 := l.takeWhile (cs.contains ·)
def behL (l cs : List UInt8) : List UInt8 := l.dropWhile (cs.contains ·)
theorem ahead_behind (l cs : List UInt8) : aheadL l cs ++ behL l cs = l := List.takeWhile_append_dropWhile
theorem ahead_len (l cs : List UInt8) : (aheadL l cs).length + (behL l cs).length = l.length := by
  have := congrArg List.length (ahead_behind l cs)
  simpa using this
theorem ahead_take (l cs : List UInt8) : l.take (aheadL l cs).length = aheadL l cs := by
  have := ahead_behind l cs
  calc l.take (aheadL l cs).length = (aheadL l cs ++ behL l cs).take (aheadL l cs).length := by rw [this]
    _ = aheadL l cs := by simp

theorem drop_step (l : List UInt8) (k : Nat) (h : k < (bs l).size) : l.drop k = (bs l)[k] :: l.drop (k + 1) := by
  have h' : k < l.length := by rw [bs_size] at h; exact h
  rw [List.drop_eq_getElem_cons h']
  rfl
def digL : List UInt8 := [48, 49, 50, 51, 52, 53, 54, 55, 56, 57]
def rowN (l : List UInt8) : Nat := l.foldl (fun a b => a * 10 + (b.toNat - 48)) 0
theorem dig_bounds {b : UInt8} (h : digL.contains b = true) : 48 ≤ b.toNat ∧ b.toNat ≤ 57 := by
  simp [digL] at h
  rcases h with rfl | rfl | rfl | rfl | rfl | rfl | rfl | rfl | rfl | rfl <;> decide
theorem ahead_mem {l cs : List UInt8} {b : UInt8} (h : b ∈ aheadL l cs) : cs.contains b = true := by
  unfold aheadL at h
  induction l with
  | nil => simp at h
  | cons a l ih =>
    rw [List.takeWhile_cons] at h
    split at h
    · rcases List.mem_cons.1 h with rfl | h
      · assumption
      · exact ih h
    · simp at h
theorem below_allocS {a w : World} (h : Below a.heap.size a w) (o : Obj) : Below a.heap.size a (w.alloc o) := h.alloc h.size o
theorem one_row (w w1 : World) (o1 : Array Value) (t1 : TypeId) (h : Below ((w.alloc (.cells o1 t1)).heap.size) (w.alloc (.cells o1 t1)) w1) :
    Row w1 w.heap.size t1 o1 ∧ Below w.heap.size w w1 :=
  ⟨(Row.new w t1 o1).below h (by simp), ((Below.refl _ w).alloc (Nat.le_refl _) _).trans (h.mono (by simp))⟩
theorem wrap64_id (n : Int) (h : -9223372036854775808 ≤ n ∧ n ≤ 9223372036854775807) : wrap64 n = n := by unfold wrap64; omega
end Go.Proofs.YtfbhonjndepjbaaDoor
