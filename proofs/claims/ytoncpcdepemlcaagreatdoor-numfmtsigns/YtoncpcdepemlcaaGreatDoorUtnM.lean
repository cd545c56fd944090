import Derived.Test.YtoncpcdepemlcaaGreatDoorUwrM
import Derived.Maps.AppendAt
import Derived.SliceStrings
/- utf: the document's turned: letters from one on moved. -/
namespace Go.Proofs.YtoncpcdepemlcaaGreatDoor
open Go.RowKit

end Go.Proofs.YtoncpcdepemlcaaGreatDoor
/- utf: the document's Trim. -/
namespace Go.Proofs.YtoncpcdepemlcaaGreatDoor
open Go.RowKit

def trimEnd (b : List Int) : List Int := if b.getLast? = some 32 then b.dropLast else b
end Go.Proofs.YtoncpcdepemlcaaGreatDoor
/- utf: the program's Trim, and what the builder's String answers. -/
namespace Go.Proofs.YtoncpcdepemlcaaGreatDoor
open Go.RowKit

def Octs (zs : List Int) : Prop := ∀ x ∈ zs, 0 ≤ x ∧ x < 256
theorem Octs.snoc {zs : List Int} (h : Octs zs) {x : Int} (h0 : 0 ≤ x) (h1 : x < 256) : Octs (zs ++ [x]) := by
  intro y hy
  rcases List.mem_append.1 hy with hy | hy
  · exact h y hy
  · simp at hy; omega

/-- What the program holds when the document holds b. -/
def TrSt (gap : Bool) (zs b : List Int) : Prop := (b = if gap = true ∧ zs ≠ [] then zs ++ [32] else zs) ∧ zs.getLast? ≠ some 32
theorem TrSt.done {gap : Bool} {zs b : List Int} (h : TrSt gap zs b) : trimEnd b = zs := by
  obtain ⟨rfl, h2⟩ := h
  unfold trimEnd
  by_cases hg : gap = true ∧ zs ≠ []
  · rw [if_pos hg]
    simp
  · rw [if_neg hg, if_neg h2]

end Go.Proofs.YtoncpcdepemlcaaGreatDoor
