/- Which items may stand behind so many bytes; which bytes items tell. -/
import Derived.Test.YtijfjbpmlcmnmaaDoorIts
namespace Go.Proofs.YtijfjbpmlcmnmaaDoor
open Go.RowKit

def It.fits (r : It) (n : Nat) : Bool := if r.l = 0 then decide (r.d = 0) && decide (0 ≤ r.b) && decide (r.b ≤ 255) else decide (r.b = 0) && decide (3 ≤ r.l) && decide (r.l ≤ 258) && decide (1 ≤ r.d) && decide (r.d ≤ 32768 ∧ r.d ≤ (n : Int))
def It.val (r : It) : Value := .agg #[.int .i64 r.b, .int .i64 r.l, .int .i64 r.d]

set_option maxRecDepth 100000 in
set_option maxHeartbeats 1000000 in
theorem fits_any (r : It) (n : Nat) (w : World) (hn : n ≤ 2000000) : Calls Tryd.prog 24 #[r.val, .int .i64 (n : Int)] w fun e w' => e = .returned (.bool (r.fits n)) ∧ Below w.heap.size w w' := by
  obtain ⟨b, l, d⟩ := r
  unfold It.val
  simp only
  by_cases h1 : l = 0
  · subst h1
    by_cases h2 : d = 0
    · subst h2
      by_cases h3 : 0 ≤ b
      · have e3 : decide (0 ≤ b) = true := by simpa using h3
        go_enter Tryd.func24, Tryd.ntmps24
        go_wp2
        go_ret
        exact ⟨by simp [It.fits, h3], (Below.refl _ w).alloc (Nat.le_refl _) _⟩
      · have e3 : decide (0 ≤ b) = false := by simpa using h3
        have HF : Hid (It.fits ⟨b, 0, 0⟩ n = false) := by show _ = _; simp [It.fits, h3]
        go_enter Tryd.func24, Tryd.ntmps24
        go_wp2
        go_ret
        exact ⟨by rw [HF.out]; rfl, (Below.refl _ w).alloc (Nat.le_refl _) _⟩
    · have e2 : (d == 0) = false := by simpa using h2
      go_enter Tryd.func24, Tryd.ntmps24
      go_wp2
      go_ret
      exact ⟨by simp [It.fits, h2], (Below.refl _ w).alloc (Nat.le_refl _) _⟩
  · have e1 : (l == 0) = false := by simpa using h1
    by_cases h2 : b = 0
    · subst h2
      by_cases h3 : 3 ≤ l
      · have e3 : decide (3 ≤ l) = true := by simpa using h3
        by_cases h4 : l ≤ 258
        · have e4 : decide (l ≤ 258) = true := by simpa using h4
          by_cases h5 : 1 ≤ d
          · have e5 : decide (1 ≤ d) = true := by simpa using h5
            rcases Nat.lt_trichotomy 32768 n with h6 | h6 | h6
            · have e6 : ¬ ((n : Int) < 32768) := by omega
              have e7 : (32768 : Int) < (n : Int) := by omega
              have e8 : decide (d ≤ 32768 ∧ d ≤ (n : Int)) = decide (d ≤ 32768) := by rw [decide_eq_decide]; omega
              go_enter Tryd.func24, Tryd.ntmps24
              go_wp2
              go_ret
              exact ⟨by simp [It.fits, h1, h3, h4, h5, e8], (Below.refl _ w).alloc (Nat.le_refl _) _⟩
            · subst h6
              have e8 : decide (d ≤ 32768 ∧ d ≤ ((32768 : Nat) : Int)) = decide (d ≤ 32768) := by rw [decide_eq_decide]; omega
              go_enter Tryd.func24, Tryd.ntmps24
              go_wp2
              go_ret
              exact ⟨by simp [It.fits, h1, h3, h4, h5], (Below.refl _ w).alloc (Nat.le_refl _) _⟩
            · have e6 : (n : Int) < 32768 := by omega
              have e7 : ¬ ((32768 : Int) < (n : Int)) := by omega
              have e8 : decide (d ≤ 32768 ∧ d ≤ (n : Int)) = decide (d ≤ (n : Int)) := by rw [decide_eq_decide]; omega
              go_enter Tryd.func24, Tryd.ntmps24
              go_wp2
              go_ret
              exact ⟨by simp [It.fits, h1, h3, h4, h5, e8], (Below.refl _ w).alloc (Nat.le_refl _) _⟩
          · have e5 : decide (1 ≤ d) = false := by simpa using h5
            have HF : Hid (It.fits ⟨0, l, d⟩ n = false) := by show _ = _; simp [It.fits, h1, h5]
            go_enter Tryd.func24, Tryd.ntmps24
            go_wp2
            go_ret
            exact ⟨by rw [HF.out]; rfl, (Below.refl _ w).alloc (Nat.le_refl _) _⟩
        · have e4 : decide (l ≤ 258) = false := by simpa using h4
          have HF : Hid (It.fits ⟨0, l, d⟩ n = false) := by show _ = _; simp [It.fits, h1, h4]
          go_enter Tryd.func24, Tryd.ntmps24
          go_wp2
          go_ret
          exact ⟨by rw [HF.out]; rfl, (Below.refl _ w).alloc (Nat.le_refl _) _⟩
      · have e3 : decide (3 ≤ l) = false := by simpa using h3
        have HF : Hid (It.fits ⟨0, l, d⟩ n = false) := by show _ = _; simp [It.fits, h1, h3]
        go_enter Tryd.func24, Tryd.ntmps24
        go_wp2
        go_ret
        exact ⟨by rw [HF.out]; rfl, (Below.refl _ w).alloc (Nat.le_refl _) _⟩
    · have e2 : (b == 0) = false := by simpa using h2
      go_enter Tryd.func24, Tryd.ntmps24
      go_wp2
      go_ret
      exact ⟨by simp [It.fits, h1, h2], (Below.refl _ w).alloc (Nat.le_refl _) _⟩

set_option maxRecDepth 100000 in
set_option maxHeartbeats 1000000 in
theorem size_any (r : It) (w : World) : Calls Tryd.prog 25 #[r.val] w fun e w' => e = .returned (.int .i64 (max 1 r.l)) ∧ Below w.heap.size w w' := by
  obtain ⟨b, l, d⟩ := r
  unfold It.val
  simp only
  rcases Int.lt_trichotomy 1 l with h | h | h
  · have e1 : ¬ (l < 1) := by omega
    go_enter Tryd.func25, Tryd.ntmps25
    go_wp2
    go_ret
    exact ⟨by simp; omega, (Below.refl _ w).alloc (Nat.le_refl _) _⟩
  · subst h
    go_enter Tryd.func25, Tryd.ntmps25
    go_wp2
    go_ret
    exact ⟨by simp, (Below.refl _ w).alloc (Nat.le_refl _) _⟩
  · have e1 : ¬ (1 < l) := by omega
    go_enter Tryd.func25, Tryd.ntmps25
    go_wp2
    go_ret
    exact ⟨by simp; omega, (Below.refl _ w).alloc (Nat.le_refl _) _⟩
end Go.Proofs.YtijfjbpmlcmnmaaDoor
