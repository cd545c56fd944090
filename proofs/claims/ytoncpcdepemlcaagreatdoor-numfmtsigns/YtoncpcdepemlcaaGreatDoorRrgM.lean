import Derived.Test.YtoncpcdepemlcaaGreatDoorPqzM
import Derived.Test.YtoncpcdepemlcaaGreatDoorWprM
import Derived.Deep.CutBlock
import Derived.Deep.DeepCutAuto
import Derived.Test.YtoncpcdepemlcaaGreatDoorRtmM
import Derived.Test.YtoncpcdepemlcaaGreatDoorDpaM
import Derived.Test.YtoncpcdepemlcaaGreatDoorWbsM
/- The document's Right. -/
namespace Go.Proofs.YtoncpcdepemlcaaGreatDoor
open Go.RowKit

end Go.Proofs.YtoncpcdepemlcaaGreatDoor
/- Quo: how often a number goes into another one. -/
namespace Go.Proofs.YtoncpcdepemlcaaGreatDoor
open Go.RowKit

end Go.Proofs.YtoncpcdepemlcaaGreatDoor
/- The document's Floor. -/
namespace Go.Proofs.YtoncpcdepemlcaaGreatDoor
open Go.RowKit

end Go.Proofs.YtoncpcdepemlcaaGreatDoor
/- The document's Floor, of numbers with digits behind the point. -/
namespace Go.Proofs.YtoncpcdepemlcaaGreatDoor
open Go.RowKit

end Go.Proofs.YtoncpcdepemlcaaGreatDoor
/- Floor: the program's way and the document's are one (pure). -/
namespace Go.Proofs.YtoncpcdepemlcaaGreatDoor

theorem dec_low (c e : Int) (he : within e) : ∃ j : Nat, c = sc (decW c e) * 10 ^ j ∧ (c ≠ 0 → (decW c e).e = e + j) ∧ ((decW c e).e < 0 → (decW c e).n % 10 ≠ 0) := by
  obtain ⟨h1, h2⟩ : -18 ≤ e ∧ e ≤ 18 := he
  by_cases hc : c = 0
  · subst hc
    exact ⟨0, by simp [decW, shortW, numW, sc], fun h => absurd rfl h, fun h => by simp [decW, shortW, numW] at h⟩
  · obtain ⟨k, a1, a2, a3, a4, a5⟩ := strip_spec c.natAbs e (by omega)
    refine ⟨k, ?_, fun _ => ?_, fun h => ?_⟩
    · unfold decW shortW numW sc
      simp only [show c.natAbs ≠ 0 by omega, if_false]
      have a1' : ((c.natAbs : Nat) : Int) = ((strip c.natAbs e).1 : Int) * 10 ^ k := by
        have := congrArg (Nat.cast : Nat → Int) a1
        rw [Int.natCast_mul, Int.natCast_pow] at this
        exact this
      by_cases hs : c < 0
      · simp only [hs, decide_true, if_true]
        rw [Int.neg_mul, ← a1']; omega
      · simp only [hs, decide_false]
        rw [if_neg (by simp), ← a1']; omega
    · unfold decW shortW numW
      simp only [show c.natAbs ≠ 0 by omega, if_false]
      exact a2
    · unfold decW shortW numW at h ⊢
      simp only [show c.natAbs ≠ 0 by omega, if_false] at h ⊢
      rcases a4 with h5 | h5
      · exact h5
      · omega
theorem told_dec (c e : Int) (he : within e) : toldW (some (decW c e)) = tell c e := by
  show tellW (decW c e).neg (decW c e).n (decW c e).e = _
  rw [← tell_sc]
  obtain ⟨j, h1, h2, _⟩ := dec_low c e he
  by_cases hc : c = 0
  · subst hc; rfl
  · have := tell_pow (sc (decW c e)) (decW c e).e j
    rw [← h1, h2 hc, show e + (j : Int) - (j : Int) = e by omega] at this
    rw [h2 hc]
    exact this.symm
end Go.Proofs.YtoncpcdepemlcaaGreatDoor
