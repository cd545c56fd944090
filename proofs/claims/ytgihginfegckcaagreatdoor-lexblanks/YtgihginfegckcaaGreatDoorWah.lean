import Derived.Test.YtgihginfegckcaaGreatDoorBaseM
import Derived.Lib.IndexBytes
import Derived.WalkLawsBesides
/- ahead, plain: the signs that a text begins with. -/
namespace Go.Proofs.YtgihginfegckcaaGreatDoor
open Go.RowKit

/-- A text of bytes. -/
def bs (l : List UInt8) : ByteArray := ⟨l.toArray⟩
theorem bs_list (l : List UInt8) : (bs l).data.toList = l := rfl
theorem bs_of (s : ByteArray) : bs s.data.toList = s := rfl
theorem bs_size (l : List UInt8) : (bs l).size = l.length := by simp [bs, ByteArray.size]
theorem bs_toList (l : List UInt8) : (bs l).toList = l := by rw [Lib.toList_data]; rfl
theorem bs_ext {a : ByteArray} {l : List UInt8} (h : a.data.toList = l) : a = bs l := by rw [← h]; rfl
theorem bs_take (l : List UInt8) (k : Nat) : (bs l).extract 0 k = bs (l.take k) := bs_ext (by rw [Lib.extract_data]; simp [bs])
theorem bs_drop (l : List UInt8) (k : Nat) : (bs l).extract k (bs l).size = bs (l.drop k) := bs_ext (by
  rw [Lib.extract_data, bs_list, bs_size]
  rw [List.take_of_length_le (by simp)])
def aheadL (l cs : List UInt8) : List UInt8 := l.takeWhile (cs.contains ·)
def behindL (l cs : List UInt8) : List UInt8 := l.dropWhile (cs.contains ·)
theorem ahead_behind (l cs : List UInt8) : aheadL l cs ++ behindL l cs = l := List.takeWhile_append_dropWhile
theorem ahead_len (l cs : List UInt8) : (aheadL l cs).length + (behindL l cs).length = l.length := by
  have := congrArg List.length (ahead_behind l cs)
  simpa using this
theorem ahead_take (l cs : List UInt8) : l.take (aheadL l cs).length = aheadL l cs := by
  have := ahead_behind l cs
  calc l.take (aheadL l cs).length = (aheadL l cs ++ behindL l cs).take (aheadL l cs).length := by rw [this]
    _ = aheadL l cs := by simp

set_option maxRecDepth 100000 in
set_option maxHeartbeats 400000 in
theorem ahead_any (l cs : List UInt8) (hl : l.length ≤ 9223372036854775807) (hc : cs.length < 1000) (ha : cs.all (fun b => decide (b.toNat < 128)) = true) (w : World) :
    Calls Tryz.prog 119 #[.string (bs l), .string (bs cs)] w fun e w' => e = .returned (.tuple #[.string (bs (aheadL l cs)), .string (bs (behindL l cs))]) ∧ Below w.heap.size w w' := by
  have HT : Hid (Calls Tryz.prog 55 #[.string (bs l), .string (bs cs)] w fun e w' => e = .returned (.string (bs (behindL l cs))) ∧ Below w.heap.size w w') :=
    Tryz.strings_TrimLeft_laid (bs l) (bs cs) w (by rw [bs_size]; omega) (fun j b hb => by
      have := List.all_eq_true.1 ha b (List.mem_of_getElem? hb)
      simpa using this)
  have hk := ahead_len l cs
  have s1 := bs_size l
  have s2 := bs_size (behindL l cs)
  have e1 : wrap64 (((bs l).size : Int) - ((bs (behindL l cs)).size : Int)) = (((aheadL l cs).length : Nat) : Int) := by
    rw [wrap64_id _ (by omega)]; omega
  have e2 : (bs l).extract 0 (aheadL l cs).length = bs (aheadL l cs) := by rw [bs_take, ahead_take]
  have hle : (aheadL l cs).length ≤ (bs l).size := by omega
  clear s1 s2 hk
  go_enter Tryz.func119, Tryz.ntmps119
  go_wp2_with fail
  refine Calls.mono HT.out ?_
  rintro _ w1 ⟨rfl, hB⟩
  clear HT
  go_wp2
  go_ret2
  exact ⟨rfl, hB⟩
end Go.Proofs.YtgihginfegckcaaGreatDoor
