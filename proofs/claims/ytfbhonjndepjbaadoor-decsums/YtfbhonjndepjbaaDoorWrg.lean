import Derived.Test.YtfbhonjndepjbaaDoorWal
/- Right, of any Dec. -/
namespace Go.Proofs.YtfbhonjndepjbaaDoor
open Go.RowKit

/-- A Dec is right. -/
def rightB (p q : Int) : Bool := if p = 0 then decide (q = 0) else decide (-18 ≤ q ∧ q ≤ 18) && (decide (p % 10 ≠ 0) || decide (q = 18))
theorem tmod_dec (p : Int) : decide (p % 10 ≠ 0) = (Int.tmod p 10 != 0) := by
  have h : p % 10 = 0 ↔ Int.tmod p 10 = 0 := ⟨fun h => Int.tmod_eq_zero_of_dvd (Int.dvd_of_emod_eq_zero h), fun h => Int.emod_eq_zero_of_dvd (Int.dvd_of_tmod_eq_zero h)⟩
  by_cases h1 : Int.tmod p 10 = 0
  · rw [decide_eq_false (by simpa using h.2 h1), h1]; rfl
  · rw [decide_eq_true (show p % 10 ≠ 0 from fun e => h1 (h.1 e))]; simp [h1]
theorem tmod_wrap (p : Int) : wrap64 (Int.tmod p 10) = Int.tmod p 10 := by
  have e1 := Int.natAbs_tmod p 10
  have e2 : (Int.tmod p 10).natAbs < 10 := by rw [e1]; exact Nat.mod_lt _ (by decide)
  unfold wrap64; omega
set_option maxRecDepth 100000 in
set_option maxHeartbeats 400000 in
theorem right_any (p q : Int) (hp : I64 p) (w : World) : Calls Tryd.prog 26 #[.agg #[.int .i64 p, .int .i64 q]] w fun r w' => r = .returned (.bool (rightB p q)) ∧ Below w.heap.size w w' := by
  have hb0 : ∀ o, Below w.heap.size w (w.alloc o) := fun o => (Below.refl _ w).alloc (Nat.le_refl _) _
  have hp1 := hp.1
  have hp2 := hp.2
  unfold rightB
  by_cases h0 : p = 0
  · subst h0
    rw [if_pos rfl]
    clear hp hp1 hp2
    by_cases hq : q = 0
    · subst hq
      go_enter Tryd.func26, Tryd.ntmps26
      go_wp2
      go_ret
      exact ⟨rfl, hb0 _⟩
    · have hq2 : (q == 0) = false := by simpa using hq
      rw [decide_eq_false hq]
      go_enter Tryd.func26, Tryd.ntmps26
      go_wp2
      go_ret
      exact ⟨by first | rfl | simp [hq2], hb0 _⟩
  · rw [if_neg h0, tmod_dec]
    have HI : ∀ b, decide (-18 ≤ q ∧ q ≤ 18) = b → Hid (decide (-18 ≤ q ∧ q ≤ 18) = b) := fun _ h => h
    have ht := tmod_wrap p
    clear hp
    cases hw : decide (-18 ≤ q ∧ q ≤ 18) with
    | false =>
      have HI := HI _ hw
      clear hw
      go_enter Tryd.func26, Tryd.ntmps26
      go_wp2_with (go_at_call 65; refine (within_any _ _).mono ?_; rintro _ w10 ⟨rfl, hw10⟩; rw [hw10, HI.out]; clear hw10 w10)
      go_ret
      exact ⟨rfl, hb0 _⟩
    | true =>
      have HI := HI _ hw
      clear hw
      by_cases h1 : Int.tmod p 10 = 0
      · by_cases h2 : q = 18
        · subst h2
          rw [h1]
          go_enter Tryd.func26, Tryd.ntmps26
          go_wp2_with (go_at_call 65; refine (within_any _ _).mono ?_; rintro _ w10 ⟨rfl, hw10⟩; rw [hw10, HI.out]; clear hw10 w10)
          go_ret
          exact ⟨by first | rfl | simp, hb0 _⟩
        · have h3 : (q == 18) = false := by simpa using h2
          rw [h1, decide_eq_false h2]
          go_enter Tryd.func26, Tryd.ntmps26
          go_wp2_with (go_at_call 65; refine (within_any _ _).mono ?_; rintro _ w10 ⟨rfl, hw10⟩; rw [hw10, HI.out]; clear hw10 w10)
          go_ret
          exact ⟨by first | rfl | simp [h3], hb0 _⟩
      · have h3 : (Int.tmod p 10 != 0) = true := by simpa using h1
        have h4 : (wrap64 (Int.tmod p 10) != 0) = true := by rw [ht]; exact h3
        rw [h3]
        go_enter Tryd.func26, Tryd.ntmps26
        go_wp2_with (go_at_call 65; refine (within_any _ _).mono ?_; rintro _ w10 ⟨rfl, hw10⟩; rw [hw10, HI.out]; clear hw10 w10)
        go_ret
        exact ⟨by first | rfl | simp, hb0 _⟩
end Go.Proofs.YtfbhonjndepjbaaDoor
