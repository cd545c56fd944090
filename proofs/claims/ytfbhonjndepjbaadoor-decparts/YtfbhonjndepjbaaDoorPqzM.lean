import Derived.Test.YtfbhonjndepjbaaDoorDpbM
import Derived.Test.YtfbhonjndepjbaaDoorRfiMM
/- Places in a text, for the document's Parse (pure; and its digit). -/
namespace Go.Proofs.YtfbhonjndepjbaaDoor
open Go.RowKit

/-- Behind i signs of l stands x. -/
structure PzAt (l : List UInt8) (i : Nat) (x : List UInt8) : Prop where
  le : i ≤ (bs l).size
  eq : l.drop i = x
theorem PzAt.nil {l : List UInt8} {i : Nat} (h : PzAt l i []) : i = (bs l).size := by
  have h1 := h.le
  have h2 := congrArg List.length h.eq
  rw [bs_size] at *
  simp at h2
  omega
theorem PzAt.cons {l : List UInt8} {i : Nat} {a : UInt8} {r : List UInt8} (h : PzAt l i (a :: r)) : ∃ hi : i < (bs l).size, (bs l)[i] = a ∧ PzAt l (i + 1) r := by
  have h2 := congrArg List.length h.eq
  have hi : i < (bs l).size := by
    rw [bs_size]
    simp at h2
    omega
  have h3 := drop_step l i hi
  rw [h.eq] at h3
  injection h3 with h4 h5
  exact ⟨hi, h4.symm, ⟨hi, h5.symm⟩⟩
end Go.Proofs.YtfbhonjndepjbaaDoor
/- A number's digits, place by place, and its text (pure). -/
namespace Go.Proofs.YtfbhonjndepjbaaDoor

end Go.Proofs.YtfbhonjndepjbaaDoor
/- The document's Make. -/
namespace Go.Proofs.YtfbhonjndepjbaaDoor
open Go.RowKit

end Go.Proofs.YtfbhonjndepjbaaDoor
