/- Plain numbers: which is the greater one, and rounding. -/
import Derived.Test.YtfbhonjndepjbaaDoorDpw
namespace Go.Proofs.YtfbhonjndepjbaaDoor

def cN (x y : Nat) : Int := if x < y then -1 else if y < x then 1 else 0
theorem cN_mul (x y p : Nat) (hp : 0 < p) : cN (x * p) (y * p) = cN x y := by
  unfold cN
  have h1 : x * p < y * p ↔ x < y := Nat.mul_lt_mul_right hp
  have h2 : y * p < x * p ↔ y < x := Nat.mul_lt_mul_right hp
  simp only [h1, h2]
def sgW (w : Wd) : Int := if w.n = 0 then 0 else if w.neg then -1 else 1
def sizeW (a b : Wd) : Int :=
  match lowW a b.e with
  | none => 1
  | some a' => match lowW b a'.e with
    | none => -1
    | some b' => cN a'.n b'.n
def cmpW (a b : Wd) : Int := if sgW a ≠ sgW b then (if sgW a < sgW b then -1 else 1) else sgW a * sizeW a b
def VW (w : Wd) : Int := V (-18) (sc w) w.e
theorem ten_pos (k : Nat) : 0 < 10 ^ k := Nat.pos_of_ne_zero (by simp [Nat.pow_eq_zero])
theorem VW_abs (w : Wd) : (VW w).natAbs = w.n * 10 ^ (w.e - -18).toNat := by
  unfold VW V
  rw [Int.natAbs_mul, sc_abs, Int.natAbs_pow]; rfl
theorem VW_sign (w : Wd) : (VW w).sign = sgW w := by
  have h := V_lt (-18) (sc w) w.e
  have h0 := V_eq0 (-18) (sc w) w.e
  have hs : sc w = if w.neg then -(w.n : Int) else w.n := rfl
  unfold VW sgW
  generalize V (-18) (sc w) w.e = x at *
  by_cases hn : w.n = 0
  · rw [if_pos hn]
    have : x = 0 := h0.2 (by rw [hs, hn]; simp)
    subst this; rfl
  · rw [if_neg hn]
    cases hneg : w.neg
    · rw [hneg] at hs
      simp only [Bool.false_eq_true, if_false] at hs ⊢
      exact Int.sign_eq_one_of_pos (by omega)
    · rw [hneg] at hs
      simp only [if_true] at hs ⊢
      exact Int.sign_eq_neg_one_of_neg (by omega)
theorem size_eq (a b : Wd) (ha : Sh a) (hb : Sh b) : sizeW a b = cN (VW a).natAbs (VW b).natAbs := by
  have e1 := VW_abs a
  have e2 := VW_abs b
  have l1 := ha.lo
  have l2 := hb.lo
  have b1 := ha.big
  have b2 := hb.big
  rw [e1, e2]
  unfold sizeW
  by_cases hle : a.e ≤ b.e
  · have hla : lowW a b.e = some a := by unfold lowW; rw [if_pos hle]
    rw [hla]
    have hp : b.n * 10 ^ (b.e - -18).toNat = b.n * 10 ^ (b.e - a.e).toNat * 10 ^ (a.e - -18).toNat := by
      rw [Nat.mul_assoc, ← Nat.pow_add]; congr 2; omega
    rw [hp, cN_mul _ _ _ (ten_pos _)]
    simp only
    by_cases hge : b.e ≤ a.e
    · have hlb : lowW b a.e = some b := by unfold lowW; rw [if_pos hge]
      rw [hlb, show (b.e - a.e).toNat = 0 by omega]; simp
    · by_cases hf : b.n * 10 ^ (b.e - a.e).toNat < M128
      · have hlb : lowW b a.e = some ⟨b.neg, b.n * 10 ^ (b.e - a.e).toNat, a.e⟩ := by unfold lowW; rw [if_neg hge, if_pos hf]
        rw [hlb]
      · have hlb : lowW b a.e = none := by unfold lowW; rw [if_neg hge, if_neg hf]
        rw [hlb]
        generalize b.n * 10 ^ (b.e - a.e).toNat = z at hf
        unfold M128 at hf
        unfold cN
        rw [if_pos (by omega)]
  · have hp : a.n * 10 ^ (a.e - -18).toNat = a.n * 10 ^ (a.e - b.e).toNat * 10 ^ (b.e - -18).toNat := by
      rw [Nat.mul_assoc, ← Nat.pow_add]; congr 2; omega
    rw [hp, cN_mul _ _ _ (ten_pos _)]
    by_cases hf : a.n * 10 ^ (a.e - b.e).toNat < M128
    · have hla : lowW a b.e = some ⟨a.neg, a.n * 10 ^ (a.e - b.e).toNat, b.e⟩ := by unfold lowW; rw [if_neg hle, if_pos hf]
      have hlb : lowW b b.e = some b := by unfold lowW; rw [if_pos (Int.le_refl _)]
      rw [hla]; simp only; rw [hlb]
    · have hla : lowW a b.e = none := by unfold lowW; rw [if_neg hle, if_neg hf]
      rw [hla]
      generalize a.n * 10 ^ (a.e - b.e).toNat = z at hf
      unfold M128 at hf
      unfold cN
      rw [if_neg (by omega), if_pos (by omega)]
theorem sign_cases (x : Int) : (x < 0 ∧ x.sign = -1) ∨ (x = 0 ∧ x.sign = 0) ∨ (0 < x ∧ x.sign = 1) := by
  rcases Int.lt_trichotomy x 0 with h | h | h
  · exact Or.inl ⟨h, Int.sign_eq_neg_one_of_neg h⟩
  · exact Or.inr (Or.inl ⟨h, by rw [h]; rfl⟩)
  · exact Or.inr (Or.inr ⟨h, Int.sign_eq_one_of_pos h⟩)
theorem cmp_eq (a b : Wd) (ha : Sh a) (hb : Sh b) : cmpW a b = (VW a - VW b).sign := by
  have s1 := VW_sign a
  have s2 := VW_sign b
  have z1 : VW a = 0 ↔ a.n = 0 := by unfold VW; rw [V_eq0, sc_neg0]
  have z2 : VW b = 0 ↔ b.n = 0 := by unfold VW; rw [V_eq0, sc_neg0]
  have hz := size_eq a b ha hb
  unfold cmpW
  rw [← s1, ← s2]
  generalize VW a = A at *
  generalize VW b = B at *
  rcases sign_cases A with ⟨h, e1⟩ | ⟨h, e1⟩ | ⟨h, e1⟩ <;> rcases sign_cases B with ⟨h', e2⟩ | ⟨h', e2⟩ | ⟨h', e2⟩ <;>
    rcases sign_cases (A - B) with ⟨h'', e3⟩ | ⟨h'', e3⟩ | ⟨h'', e3⟩ <;> rw [e1, e2, e3] <;> first | omega | rfl | skip
  all_goals
    rw [if_neg (by simp)]
    first
    | (rw [hz]; unfold cN; repeat' split) <;> omega
    | simp

/-- Rounding: to a multiple of P, halves away from 0. -/
def rv (P : Nat) (A : Int) : Int := A.sign * ((((2 * A.natAbs + P) / (2 * P)) * P : Nat) : Int)
def roundW (w : Wd) (places : Int) : Wd := if -places ≤ w.e then w else ⟨w.neg, (w.n / 10 ^ (-places - 1 - w.e).toNat + 5) / 10, -places⟩
theorem rv_mono (P : Nat) {A B : Int} (h : A ≤ B) : rv P A ≤ rv P B := by
  have key : ∀ x y : Nat, x ≤ y → ((2 * x + P) / (2 * P)) * P ≤ ((2 * y + P) / (2 * P)) * P := fun x y hxy =>
    Nat.mul_le_mul_right _ (Nat.div_le_div_right (by omega))
  have k0 : ∀ x : Nat, 0 ≤ ((((2 * x + P) / (2 * P)) * P : Nat) : Int) := fun x => Int.natCast_nonneg _
  unfold rv
  rcases sign_cases A with ⟨h1, e1⟩ | ⟨h1, e1⟩ | ⟨h1, e1⟩ <;> rcases sign_cases B with ⟨h2, e2⟩ | ⟨h2, e2⟩ | ⟨h2, e2⟩ <;> rw [e1, e2]
  all_goals
    have hA := k0 A.natAbs
    have hB := k0 B.natAbs
    first
    | omega
    | (have := key B.natAbs A.natAbs (by omega); omega)
    | (have := key A.natAbs B.natAbs (by omega); omega)
theorem half_up (n k : Nat) : (n / 10 ^ k + 5) / 10 = (2 * n + 10 ^ (k + 1)) / (2 * 10 ^ (k + 1)) := by
  have hp := ten_pos k
  rw [Nat.pow_succ]
  generalize 10 ^ k = p at *
  rw [show 2 * (p * 10) = p * 20 by omega, ← Nat.div_div_eq_div_mul]
  have : (2 * n + p * 10) / p = 2 * n / p + 10 := by rw [Nat.add_mul_div_left _ _ hp]
  rw [this]
  have h1 : 2 * n / p / 2 = n / p := by
    rw [Nat.div_div_eq_div_mul, Nat.mul_comm p 2, ← Nat.div_div_eq_div_mul]
    congr 1; omega
  omega
theorem told_round (w : Wd) (hw : Sh w) (places : Int) (h1 : -18 ≤ places) (h2 : places ≤ 18) : toldW (some (roundW w places)) = tell (rv (10 ^ (18 - places).toNat) (VW w)) (-18) := by
  have hl := hw.lo
  show tellW (roundW w places).neg (roundW w places).n (roundW w places).e = _
  rw [← tell_sc]
  have hP := ten_pos (18 - places).toNat
  have hv : rv (10 ^ (18 - places).toNat) (VW w) = VW (roundW w places) := by
    have hs := VW_sign w
    have ha := VW_abs w
    have hs2 := VW_sign (roundW w places)
    have ha2 := VW_abs (roundW w places)
    have hab : (rv (10 ^ (18 - places).toNat) (VW w)).natAbs = (VW (roundW w places)).natAbs := by
      rw [ha2]
      unfold rv roundW
      by_cases hge : -places ≤ w.e
      · rw [if_pos hge, Int.natAbs_mul, ha]
        have hd : w.n * 10 ^ (w.e - -18).toNat = w.n * 10 ^ (w.e + places).toNat * 10 ^ (18 - places).toNat := by
          rw [Nat.mul_assoc, ← Nat.pow_add]; congr 2; omega
        rw [hd]
        generalize 10 ^ (18 - places).toNat = P at *
        generalize w.n * 10 ^ (w.e + places).toNat = q at *
        have h3 : (2 * (q * P) + P) / (2 * P) = q := by
          rw [show 2 * (q * P) + P = P + (2 * P) * q by rw [Nat.mul_comm q P, ← Nat.mul_assoc, Nat.add_comm], Nat.add_mul_div_left _ _ (by omega), Nat.div_eq_of_lt (by omega)]
          omega
        rw [h3, Int.natAbs_natCast]
        rcases sign_cases (VW w) with ⟨h, e1⟩ | ⟨h, e1⟩ | ⟨h, e1⟩ <;> rw [e1]
        · simp
        · have : q * P = 0 := by rw [← hd, ← ha, h]; rfl
          rw [this]; simp
        · simp
      · rw [if_neg hge, Int.natAbs_mul, ha]
        simp only
        have hu := half_up w.n (-places - 1 - w.e).toNat
        rw [show (-places - 1 - w.e).toNat + 1 = (-places - w.e).toNat by omega] at hu
        rw [hu]
        have hP2 : 10 ^ (18 - places).toNat = 10 ^ (-places - w.e).toNat * 10 ^ (w.e - -18).toNat := by
          rw [← Nat.pow_add]; congr 1; omega
        have hq : 0 < 10 ^ (w.e - -18).toNat := ten_pos _
        rw [show (-places - -18).toNat = (18 - places).toNat by omega, hP2]
        generalize 10 ^ (-places - w.e).toNat = Q at *
        generalize 10 ^ (w.e - -18).toNat = R at *
        have h3 : (2 * (w.n * R) + Q * R) / (2 * (Q * R)) = (2 * w.n + Q) / (2 * Q) := by
          rw [show 2 * (w.n * R) + Q * R = (2 * w.n + Q) * R by rw [Nat.add_mul, Nat.mul_assoc], ← Nat.mul_assoc, Nat.mul_div_mul_right _ _ hq]
        rw [h3, Int.natAbs_natCast]
        rcases sign_cases (VW w) with ⟨h, e1⟩ | ⟨h, e1⟩ | ⟨h, e1⟩ <;> rw [e1]
        · simp
        · have h4 : w.n * R = 0 := by rw [← ha, h]; rfl
          have h5 : w.n = 0 := by
            rcases Nat.mul_eq_zero.1 h4 with h6 | h6
            · exact h6
            · omega
          have hQ : 0 < Q := by
            apply Nat.pos_of_ne_zero; rintro rfl; simp at hP2
          rw [h5, Nat.mul_zero, Nat.zero_add, Nat.div_eq_of_lt (by omega)]; simp
        · simp
    have hsg : (rv (10 ^ (18 - places).toNat) (VW w)) = 0 ∨ (rv (10 ^ (18 - places).toNat) (VW w)).sign = (VW w).sign := by
      unfold rv
      generalize (((2 * (VW w).natAbs + 10 ^ (18 - places).toNat) / (2 * 10 ^ (18 - places).toNat)) * 10 ^ (18 - places).toNat : Nat) = z
      by_cases hz : z = 0
      · left; rw [hz]; simp
      · right
        rw [Int.sign_mul, Int.sign_sign, Int.sign_eq_one_of_pos (by omega : (0 : Int) < (z : Int)), Int.mul_one]
    have hsn : VW (roundW w places) = 0 ∨ (VW (roundW w places)).sign = (VW w).sign := by
      rw [hs2, hs]
      by_cases hn : (roundW w places).n = 0
      · left; unfold VW; rw [V_eq0, sc_neg0]; exact hn
      · right
        unfold sgW
        have hneg : (roundW w places).neg = w.neg := by unfold roundW; split <;> rfl
        have hn2 : w.n ≠ 0 := by
          intro h0; apply hn
          unfold roundW
          split
          · exact h0
          · simp [h0]
        rw [if_neg hn, if_neg hn2, hneg]
    generalize rv (10 ^ (18 - places).toNat) (VW w) = x at *
    generalize VW (roundW w places) = y at *
    rcases sign_cases x with ⟨h, e1⟩ | ⟨h, e1⟩ | ⟨h, e1⟩ <;> rcases sign_cases y with ⟨h', e2⟩ | ⟨h', e2⟩ | ⟨h', e2⟩ <;> omega
  have hlo : -18 ≤ (roundW w places).e := by
    unfold roundW; split
    · exact hl
    · simp only; omega
  rw [hv]
  exact (tell_V (-18) _ _ hlo).symm
#print axioms told_round
#print axioms cmp_eq
end Go.Proofs.YtfbhonjndepjbaaDoor
