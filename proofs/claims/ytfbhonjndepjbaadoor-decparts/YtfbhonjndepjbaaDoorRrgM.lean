import Derived.Test.YtfbhonjndepjbaaDoorPqzM
import Derived.Test.YtfbhonjndepjbaaDoorWalM
import Derived.Deep.CutBlock
import Derived.Deep.DeepCutAuto
import Derived.Test.YtfbhonjndepjbaaDoorRqu
import Derived.Test.YtfbhonjndepjbaaDoorRfiMM
import Derived.Test.YtfbhonjndepjbaaDoorWddM
/- The document's Right. -/
namespace Go.Proofs.YtfbhonjndepjbaaDoor
open Go.RowKit

end Go.Proofs.YtfbhonjndepjbaaDoor
/- The document's Floor. -/
namespace Go.Proofs.YtfbhonjndepjbaaDoor
open Go.RowKit

end Go.Proofs.YtfbhonjndepjbaaDoor
/- The document's Floor, of numbers with digits behind the point. -/
namespace Go.Proofs.YtfbhonjndepjbaaDoor
open Go.RowKit

end Go.Proofs.YtfbhonjndepjbaaDoor
/- Floor: the program's way and the document's are one (pure). -/
namespace Go.Proofs.YtfbhonjndepjbaaDoor

theorem dec_low (c e : Int) (he : within e) : ∃ j : Nat, c = sc (decW c e) * 10 ^ j ∧ (c ≠ 0 → (decW c e).e = e + j) ∧ ((decW c e).e < 0 → (decW c e).n % 10 ≠ 0) := by
  obtain ⟨h1, h2⟩ : -18 ≤ e ∧ e ≤ 18 := he
  by_cases hc : c = 0
  · subst hc
    exact ⟨0, by simp [decW, shortW, numW, sc], fun h => absurd rfl h, fun h => by simp [decW, shortW, numW] at h⟩
  · obtain ⟨k, a1, a2, a3, a4, a5⟩ := strip_spec c.natAbs e (by omega)
    refine ⟨k, ?_, fun _ => ?_, fun h => ?_⟩
    · unfold decW shortW numW sc
      simp only [show c.natAbs ≠ 0 by omega, if_false]
      have a1' : ((c.natAbs : Nat) : Int) = ((strip c.natAbs e).1 : Int) * 10 ^ k := by
        have := congrArg (Nat.cast : Nat → Int) a1
        rw [Int.natCast_mul, Int.natCast_pow] at this
        exact this
      by_cases hs : c < 0
      · simp only [hs, decide_true, if_true]
        rw [Int.neg_mul, ← a1']; omega
      · simp only [hs, decide_false]
        rw [if_neg (by simp), ← a1']; omega
    · unfold decW shortW numW
      simp only [show c.natAbs ≠ 0 by omega, if_false]
      exact a2
    · unfold decW shortW numW at h ⊢
      simp only [show c.natAbs ≠ 0 by omega, if_false] at h ⊢
      rcases a4 with h5 | h5
      · exact h5
      · omega
end Go.Proofs.YtfbhonjndepjbaaDoor
/- The document's Round. -/
namespace Go.Proofs.YtfbhonjndepjbaaDoor
open Go.RowKit

end Go.Proofs.YtfbhonjndepjbaaDoor
/- The document's Round: where it refuses, and where nothing goes. -/
namespace Go.Proofs.YtfbhonjndepjbaaDoor
open Go.RowKit

end Go.Proofs.YtfbhonjndepjbaaDoor
