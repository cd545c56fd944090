import Derived.Test.YtnblbakjfpfipaaGreatDoorRsd
import Derived.Test.YtnblbakjfpfipaaGreatDoorWpa
/- What the document's cell is to answer; Parse by it. -/
namespace Go.Proofs.YtnblbakjfpfipaaGreatDoor
open Go.RowKit

/-- A text without a sheet: the reference, whether it is written so, whether it is there. -/
def cellR (l : List UInt8) : Rf := if (placeP l).ok then ⟨.empty, ((colOf (placeP l).letters).getD 0 : Nat), (rowN (placeP l).digits : Nat), (placeP l).ac, (placeP l).ar⟩ else Rf.zero
def cellT (l : List UInt8) : Bool := (placeP l).ok && (foundR .empty (placeP l)).isSome
/-- The contract of the document's cell. -/
def CellC : Prop := ∀ (l : List UInt8), l.length ≤ 140737488351232 → ∀ W : World, Calls Tryz.prog 44 #[.string (bs l)] W fun e w' => e = .returned (.tuple #[(cellR l).v, .bool (placeP l).ok, .bool (cellT l)]) ∧ Below W.heap.size W w'
theorem refSheet_any (l : List UInt8) (hl : l.length ≤ 140737488351232) (w : World) : Calls Tryz.prog 43 #[.string (bs l)] w fun e w' => ShOk l e ∧ Below w.heap.size w w' := by
  cases h : Lib.hasPrefix l [39]
  · exact refSheet_plain l hl h w
  · exact refSheet_quoted l hl h w
theorem found_sheet (s : ByteArray) (p : Pl) : foundR s p = (foundR .empty p).map (fun x => ⟨s, x.c, x.r, x.ac, x.ar⟩) := by
  unfold foundR
  split <;> rfl
end Go.Proofs.YtnblbakjfpfipaaGreatDoor
