import Derived.Test.YtgihginfegckcaaGreatDoorUwrM
import Derived.Maps.AppendAt
import Derived.SliceStrings
/- utf: the document's turned: letters from one on moved. -/
namespace Go.Proofs.YtgihginfegckcaaGreatDoor
open Go.RowKit

theorem conv_bytes33 (S : Nat → Prop) (w : World) (sv : Value) (zs : List Int) (h : BytesIn S w sv zs) : (convert 49 9 sv).run Tryz.prog w = .ok (.string (strOfNums zs)) w := by
  rcases h with ⟨rfl, a, cap, rfl⟩ | ⟨b, off, cap, rfl, _, hc⟩
  · cases a with
    | none =>
      rw [run_convert_bytes_nil w 49 5 Tryz.underlying49 Tryz.underlying5 _ _ 9 Tryz.underlying9]
      rfl
    | some A =>
      rw [run_convert_bytes_string w 49 9 5 _ _ _ Tryz.underlying49 Tryz.underlying5 Tryz.underlying9, run_bytesToString w A 0 cap [] (by simpa using run_loadCells_list (P := Tryz.prog) w A [] (fun j v hj => by simp at hj))]
      rfl
  · exact run_convert_bytes_arg w 49 5 Tryz.underlying49 Tryz.underlying5 b off zs.length cap zs rfl (fun i hi => by rw [hc i hi]; simp [List.getD]) 9 Tryz.underlying9

end Go.Proofs.YtgihginfegckcaaGreatDoor
/- utf: the document's Trim. -/
namespace Go.Proofs.YtgihginfegckcaaGreatDoor
open Go.RowKit

def byteAt (s : ByteArray) (j : Nat) : Int := if h : j < s.size then ((s[j]'h).toNat : Int) else 0
def trimEnd (b : List Int) : List Int := if b.getLast? = some 32 then b.dropLast else b
end Go.Proofs.YtgihginfegckcaaGreatDoor
