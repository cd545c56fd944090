import Derived.Test.YtoncpcdepemlcaaGreatDoorTabM
import Derived.Test.YtoncpcdepemlcaaGreatDoorUtnM
/- utf: the document's Text. -/
namespace Go.Proofs.YtoncpcdepemlcaaGreatDoor
open Go.RowKit

end Go.Proofs.YtoncpcdepemlcaaGreatDoor
/- utf: the document's Valid, from what 'first' finds. -/
namespace Go.Proofs.YtoncpcdepemlcaaGreatDoor
open Go.RowKit

def natsOf (s : ByteArray) : List Nat := s.data.toList.map UInt8.toNat
theorem natsOf_len (s : ByteArray) : (natsOf s).length = s.size := by
  unfold natsOf
  rw [List.length_map, Array.length_toList]
  rfl
theorem dec_le {l : List Nat} (hn : l ≠ []) : (decL l).2 ≤ l.length := by
  have := dec_eq hn
  unfold decL Go.Lib.decodeN
  repeat' split
  all_goals simp only
  all_goals omega
theorem natsOf_drop (s : ByteArray) (n : Nat) : natsOf (s.extract n s.size) = (natsOf s).drop n := by
  have hl := natsOf_len s
  unfold natsOf at hl ⊢
  rw [ByteArray.data_extract, Array.toList_extract, List.extract_eq_take_drop]
  simp only [List.map_take, List.map_drop]
  rw [List.take_of_length_le]
  rw [List.length_drop]
  omega

end Go.Proofs.YtoncpcdepemlcaaGreatDoor
