/- Plain numbers: what a decimal's number is told as. -/
import Derived.WalkKit
namespace Go.Proofs.YtfbhonjndepjbaaDoor

def strip (n : Nat) (e : Int) : Nat × Int :=
  if _h : n ≠ 0 ∧ n % 10 = 0 ∧ e < 18 then strip (n / 10) (e + 1) else (n, e)
  termination_by n
  decreasing_by omega
theorem strip_go (n : Nat) (e : Int) (h : n ≠ 0 ∧ n % 10 = 0 ∧ e < 18) : strip n e = strip (n / 10) (e + 1) := by
  rw [strip]; exact dif_pos h
theorem strip_fix (n : Nat) (e : Int) (h : n % 10 ≠ 0 ∨ 18 ≤ e) : strip n e = (n, e) := by
  rw [strip]; exact dif_neg (by omega)
theorem strip_mul (n : Nat) (e : Int) (h : n ≠ 0) (he : e ≤ 18) : strip (n * 10) (e - 1) = strip n e := by
  rw [strip_go _ _ (by omega)]
  have h1 : n * 10 / 10 = n := by omega
  have h2 : e - 1 + 1 = e := by omega
  rw [h1, h2]
theorem strip_spec (n : Nat) : ∀ e : Int, n ≠ 0 → ∃ k : Nat, n = (strip n e).1 * 10 ^ k ∧ (strip n e).2 = e + k ∧ (k = 0 ∨ e + k ≤ 18) ∧ ((strip n e).1 % 10 ≠ 0 ∨ 18 ≤ (strip n e).2) ∧ (strip n e).1 ≠ 0 := by
  induction n using Nat.strongRecOn with
  | ind n ih =>
    intro e hn
    by_cases h : n % 10 = 0 ∧ e < 18
    · rw [strip_go n e ⟨hn, h.1, h.2⟩]
      obtain ⟨k, h1, h2, h3, h4, h5⟩ := ih (n / 10) (by omega) (e + 1) (by omega)
      refine ⟨k + 1, ?_, ?_, ?_, h4, h5⟩
      · rw [Nat.pow_succ, ← Nat.mul_assoc, ← h1]; omega
      · rw [h2]; omega
      · right
        rcases h3 with h3 | h3 <;> omega
    · rw [strip_fix n e (by omega)]
      exact ⟨0, by simp, by simp, Or.inl rfl, by show n % 10 ≠ 0 ∨ 18 ≤ e; omega, hn⟩

def raise (p : Nat × Int) : Nat × Int := if 18 < p.2 then (p.1 * 10 ^ (p.2 - 18).toNat, 18) else p
theorem raise_mul (n : Nat) (e : Int) (h : n ≠ 0) : raise (strip (n * 10) (e - 1)) = raise (strip n e) := by
  by_cases he : e ≤ 18
  · rw [strip_mul n e h he]
  · rw [strip_fix _ _ (by omega), strip_fix _ _ (by omega)]
    have e1 : (e - 18).toNat = (e - 1 - 18).toNat + 1 := by omega
    by_cases h2 : 18 < e - 1
    · simp only [raise, h2, if_true, show 18 < e by omega, e1, Nat.pow_succ]
      congr 1
      rw [Nat.mul_assoc, Nat.mul_comm 10]
    · obtain rfl : e = 19 := by omega
      rfl

def tellW (neg : Bool) (n : Nat) (e : Int) : Option (Int × Int) :=
  if n = 0 then some (0, 0) else
    if (raise (strip n e)).1 ≤ 9223372036854775807 + neg.toNat ∧ -18 ≤ (raise (strip n e)).2 then
      some (if neg then -((raise (strip n e)).1 : Int) else ((raise (strip n e)).1 : Int), (raise (strip n e)).2) else none
theorem tellW_mul (neg : Bool) (n : Nat) (e : Int) : tellW neg (n * 10) (e - 1) = tellW neg n e := by
  unfold tellW
  by_cases h : n = 0
  · simp [h]
  · rw [if_neg h, if_neg (by omega), raise_mul n e h]
theorem tellW_pow (neg : Bool) (n : Nat) (e : Int) (k : Nat) : tellW neg (n * 10 ^ k) (e - k) = tellW neg n e := by
  induction k with
  | zero => simp
  | succ k ih =>
    rw [Nat.pow_succ, ← Nat.mul_assoc, show e - ((k + 1 : Nat) : Int) = (e - k) - 1 by omega, tellW_mul, ih]
theorem tellW_zero (neg : Bool) (e : Int) : tellW neg 0 e = some (0, 0) := rfl
theorem raise_fst (p : Nat × Int) : p.1 ≤ (raise p).1 := by
  unfold raise; split
  · exact Nat.le_mul_of_pos_right _ (Nat.pos_of_ne_zero (by simp [Nat.pow_eq_zero]))
  · exact Nat.le_refl _
/-- What is too great and has no nought to give away can't be told. -/
theorem tellW_big (neg : Bool) (n : Nat) (e : Int) (h : n % 10 ≠ 0 ∨ 18 ≤ e) (hn : 9223372036854775808 < n) : tellW neg n e = none := by
  have h2 := raise_fst (n, e)
  unfold tellW
  rw [if_neg (by omega), strip_fix n e h, if_neg]
  have h3 : n ≤ (raise (n, e)).1 := h2
  cases neg <;> simp <;> omega
theorem raise_spec (n : Nat) (e : Int) (hn : n ≠ 0) : ∃ i j : Nat, n * 10 ^ i = (raise (strip n e)).1 * 10 ^ j ∧ e - i = (raise (strip n e)).2 - j ∧ (raise (strip n e)).2 ≤ 18 ∧ (raise (strip n e)).1 ≠ 0 ∧ ((raise (strip n e)).1 % 10 ≠ 0 ∨ (raise (strip n e)).2 = 18) := by
  obtain ⟨k, h1, h2, h3, h4, h5⟩ := strip_spec n e hn
  unfold raise
  split
  · rename_i hh
    have hk : k = 0 := by omega
    subst hk
    refine ⟨((strip n e).2 - 18).toNat, 0, ?_, by simp; omega, by simp, ?_, Or.inr rfl⟩
    · simp only [Nat.pow_zero, Nat.mul_one] at h1 ⊢
      rw [← h1]
    · simp only
      intro hc
      rcases Nat.mul_eq_zero.1 hc with hc | hc
      · exact h5 hc
      · simp [Nat.pow_eq_zero] at hc
  · rename_i hh
    exact ⟨0, k, by simpa using h1, by omega, by omega, h5, by omega⟩
theorem tellW_some {neg : Bool} {n : Nat} {e C E : Int} (h : tellW neg n e = some (C, E)) (hn : n ≠ 0) :
    -18 ≤ E ∧ E ≤ 18 ∧ C ≠ 0 ∧ decide (C < 0) = neg ∧ -9223372036854775808 ≤ C ∧ C ≤ 9223372036854775807 ∧ (C % 10 ≠ 0 ∨ E = 18) ∧ ∃ i j : Nat, n * 10 ^ i = C.natAbs * 10 ^ j ∧ e - i = E - j := by
  obtain ⟨i, j, h1, h2, h3, h4, h5⟩ := raise_spec n e hn
  unfold tellW at h
  rw [if_neg hn] at h
  generalize raise (strip n e) = p at *
  obtain ⟨m, E'⟩ := p
  simp only at *
  split at h
  · rename_i hh
    simp only [Option.some.injEq, Prod.mk.injEq] at h
    obtain ⟨hC, rfl⟩ := h
    cases neg
    · simp only [Bool.toNat_false, Bool.false_eq_true, if_false] at hh hC
      subst hC
      exact ⟨hh.2, h3, by omega, decide_eq_false (by omega), by omega, by omega, by omega, i, j, by simpa using h1, h2⟩
    · simp only [Bool.toNat_true, if_true] at hh hC
      subst hC
      exact ⟨hh.2, h3, by omega, decide_eq_true (by omega), by omega, by omega, by omega, i, j, by simpa using h1, h2⟩
  · cases h

/-- The number c times 10 to the e, in units of 10 to the m. -/
def V (m c e : Int) : Int := c * 10 ^ (e - m).toNat
def tell (c e : Int) : Option (Int × Int) := tellW (decide (c < 0)) c.natAbs e
theorem tell_pow (c e : Int) (k : Nat) : tell (c * 10 ^ k) (e - k) = tell c e := by
  unfold tell
  have h0 : (0 : Int) < 10 ^ k := Int.pow_pos (by omega)
  have h1 : decide (c * 10 ^ k < 0) = decide (c < 0) := by
    congr 1
    apply propext
    constructor
    · intro h
      apply Int.lt_of_not_ge
      intro hc
      have := Int.mul_nonneg hc (Int.le_of_lt h0)
      omega
    · intro h
      exact Int.mul_neg_of_neg_of_pos h h0
  have h2 : (c * 10 ^ k).natAbs = c.natAbs * 10 ^ k := by
    rw [Int.natAbs_mul, Int.natAbs_pow]; rfl
  rw [h1, h2, tellW_pow]
theorem tell_V (m c e : Int) (h : m ≤ e) : tell (V m c e) m = tell c e := by
  have := tell_pow c e (e - m).toNat
  unfold V
  rwa [show e - ((e - m).toNat : Int) = m by omega] at this
theorem V_step (m m' c e : Int) (h : m' ≤ m) (he : m ≤ e) : V m' c e = V m c e * 10 ^ (m - m').toNat := by
  unfold V
  rw [Int.mul_assoc, ← Int.pow_add]
  congr 2
  omega
theorem pow_ne (k : Nat) : (10 : Int) ^ k ≠ 0 := Int.ne_of_gt (Int.pow_pos (by omega))
theorem pow_pos' (k : Nat) : (0 : Int) < 10 ^ k := Int.pow_pos (by omega)
theorem V_zero (m e : Int) : V m 0 e = 0 := by simp [V]
theorem V_neg (m c e : Int) : V m (-c) e = -V m c e := by simp [V, Int.neg_mul]
theorem V_lt (m c e : Int) : (V m c e < 0 ↔ c < 0) := by
  have h0 := pow_pos' (e - m).toNat
  unfold V
  constructor
  · intro h
    apply Int.lt_of_not_ge
    intro hc
    have := Int.mul_nonneg hc (Int.le_of_lt h0)
    omega
  · intro h
    exact Int.mul_neg_of_neg_of_pos h h0
theorem V_eq0 (m c e : Int) : (V m c e = 0 ↔ c = 0) := by
  unfold V
  constructor
  · intro h
    rcases Int.mul_eq_zero.1 h with h | h
    · exact h
    · exact absurd h (pow_ne _)
  · rintro rfl; simp
/-- What is told is right, and is the number. -/
theorem tell_some {c e C E : Int} (h : tell c e = some (C, E)) :
    -18 ≤ E ∧ E ≤ 18 ∧ -9223372036854775808 ≤ C ∧ C ≤ 9223372036854775807 ∧ (C % 10 ≠ 0 ∨ E = 18 ∨ (C = 0 ∧ E = 0)) ∧ (c = 0 ↔ C = 0) ∧ ∀ m, m ≤ e → m ≤ E → V m C E = V m c e := by
  by_cases hc : c = 0
  · subst hc
    have : (C, E) = (0, 0) := by simpa [tell, tellW_zero] using h.symm
    cases this
    exact ⟨by omega, by omega, by omega, by omega, by omega, by omega, fun m _ _ => by simp [V]⟩
  · obtain ⟨h1, h2, h3, h4, h5, h6, h7, i, j, h8, h9⟩ := tellW_some h (by omega)
    refine ⟨h1, h2, h5, h6, by omega, by omega, fun m he hE => ?_⟩
    have hs : (C < 0 ↔ c < 0) := by simpa using h4
    have hn : (V m C E).natAbs = (V m c e).natAbs := by
      unfold V
      rw [Int.natAbs_mul, Int.natAbs_mul, Int.natAbs_pow, Int.natAbs_pow]
      show C.natAbs * 10 ^ _ = c.natAbs * 10 ^ _
      have hp : 0 < 10 ^ (i + j) := Nat.pos_of_ne_zero (by simp [Nat.pow_eq_zero])
      apply Nat.eq_of_mul_eq_mul_right hp
      have a1 : C.natAbs * 10 ^ (E - m).toNat * 10 ^ (i + j) = (C.natAbs * 10 ^ j) * 10 ^ ((E - m).toNat + i) := by
        rw [Nat.mul_assoc, Nat.mul_assoc, ← Nat.pow_add, ← Nat.pow_add]; congr 2; omega
      have a2 : c.natAbs * 10 ^ (e - m).toNat * 10 ^ (i + j) = (c.natAbs * 10 ^ i) * 10 ^ ((e - m).toNat + j) := by
        rw [Nat.mul_assoc, Nat.mul_assoc, ← Nat.pow_add, ← Nat.pow_add]; congr 2; omega
      rw [a1, a2, h8]
      congr 2
      omega
    have s1 := V_lt m C E
    have s2 := V_lt m c e
    omega
/-- A number that stands in a Dec can be told. -/
theorem tell_of_dec (c e : Int) (h1 : -18 ≤ e) (h2 : e ≤ 18) (h3 : -9223372036854775808 ≤ c) (h4 : c ≤ 9223372036854775807) : ∃ C E, tell c e = some (C, E) := by
  by_cases hc : c = 0
  · subst hc; exact ⟨0, 0, by simp [tell, tellW_zero]⟩
  · obtain ⟨k, a1, a2, a3, a4, a5⟩ := strip_spec c.natAbs e (by omega)
    have hr : raise (strip c.natAbs e) = strip c.natAbs e := by
      unfold raise; rw [if_neg]; omega
    have hle : (strip c.natAbs e).1 ≤ c.natAbs := by
      have hp : 0 < 10 ^ k := Nat.pos_of_ne_zero (by simp [Nat.pow_eq_zero])
      have := Nat.le_mul_of_pos_right (strip c.natAbs e).1 hp
      omega
    unfold tell tellW
    rw [if_neg (by omega), hr, if_pos]
    · exact ⟨_, _, rfl⟩
    · constructor
      · by_cases hs : c < 0
        · simp only [hs, decide_true, Bool.toNat_true]; omega
        · simp only [hs, decide_false, Bool.toNat_false]; omega
      · omega
/-- Two numbers that are the same are told the same. -/
theorem tell_same {c e C E m : Int} (he : m ≤ e) (hE : m ≤ E) (h : V m C E = V m c e) : tell C E = tell c e := by
  rw [← tell_V m C E hE, ← tell_V m c e he, h]
#print axioms tell_same
end Go.Proofs.YtfbhonjndepjbaaDoor
