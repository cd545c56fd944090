/- Plain numbers in the making, as the program has them: a sign, a whole number below 2 to the 128, an exponent. -/
import Derived.Test.YtfbhonjndepjbaaDoorDpu
namespace Go.Proofs.YtfbhonjndepjbaaDoor

structure Wd where
  neg : Bool
  n : Nat
  e : Int
def M128 : Nat := 340282366920938463463374607431768211456
def numW (c e : Int) : Wd := ⟨decide (c < 0), c.natAbs, e⟩
def shortW (w : Wd) : Wd := if w.n = 0 then ⟨false, 0, 0⟩ else ⟨w.neg, (strip w.n w.e).1, (strip w.n w.e).2⟩
def decW (c e : Int) : Wd := shortW (numW c e)
def lowW (w : Wd) (t : Int) : Option Wd :=
  if w.e ≤ t then some w else if w.n * 10 ^ (w.e - t).toNat < M128 then some ⟨w.neg, w.n * 10 ^ (w.e - t).toNat, t⟩ else none
def diffW (a b : Wd) : Wd := if a.n < b.n then ⟨b.neg, b.n - a.n, b.e⟩ else ⟨a.neg, a.n - b.n, a.e⟩
def addW (a b : Wd) : Option Wd :=
  if a.neg = b.neg then (if a.n + b.n < M128 then some ⟨a.neg, a.n + b.n, a.e⟩ else none) else some (diffW a b)
def sumW (a b : Wd) : Option Wd :=
  if a.n = 0 then some b else if b.n = 0 then some a else
  match lowW a b.e with
  | none => none
  | some a' => match lowW b a'.e with
    | none => none
    | some b' => addW a' b'
def turnW (a : Wd) : Wd := ⟨!a.neg, a.n, a.e⟩
def prodW (a b : Wd) : Wd := ⟨a.neg != b.neg, a.n * b.n, a.e + b.e⟩
def sc (w : Wd) : Int := if w.neg then -(w.n : Int) else w.n
def toldW : Option Wd → Option (Int × Int)
  | none => none
  | some w => tellW w.neg w.n w.e

theorem tell_sc (w : Wd) : tell (sc w) w.e = tellW w.neg w.n w.e := by
  obtain ⟨neg, n, e⟩ := w
  by_cases h : n = 0
  · subst h; cases neg <;> simp [sc, tell, tellW_zero]
  · unfold tell
    cases neg
    · have h1 : sc ⟨false, n, e⟩ = (n : Int) := rfl
      rw [h1, decide_eq_false (by omega), Int.natAbs_natCast]
    · have h1 : sc ⟨true, n, e⟩ = -(n : Int) := rfl
      rw [h1, decide_eq_true (by omega), Int.natAbs_neg, Int.natAbs_natCast]
/-- A Dec's number, in its short form. -/
structure Sh (w : Wd) : Prop where
  big : w.n ≤ 9223372036854775808
  lo : -18 ≤ w.e
  hi : w.e ≤ 18
  fix : w.n % 10 ≠ 0 ∨ w.e = 18 ∨ (w.n = 0 ∧ w.e = 0)
theorem sh_dec (c e : Int) (h1 : -18 ≤ e) (h2 : e ≤ 18) (h3 : -9223372036854775808 ≤ c) (h4 : c ≤ 9223372036854775807) : Sh (decW c e) := by
  unfold decW shortW numW
  by_cases hc : c = 0
  · subst hc; exact ⟨by simp, by simp, by simp, by simp⟩
  · rw [if_neg (by simp; omega)]
    obtain ⟨k, a1, a2, a3, a4, a5⟩ := strip_spec c.natAbs e (by omega)
    have hp : 0 < 10 ^ k := Nat.pos_of_ne_zero (by simp [Nat.pow_eq_zero])
    have := Nat.le_mul_of_pos_right (strip c.natAbs e).1 hp
    exact ⟨by simp only; omega, by simp only; omega, by simp only; omega, by simp only; omega⟩
theorem sc_dec (m c e : Int) (hm : m ≤ e) : V m (sc (decW c e)) (decW c e).e = V m c e := by
  unfold decW shortW numW
  by_cases hc : c = 0
  · subst hc; simp [sc, V]
  · rw [if_neg (by simp; omega)]
    obtain ⟨k, a1, a2, a3, a4, a5⟩ := strip_spec c.natAbs e (by omega)
    simp only
    generalize strip c.natAbs e = p at *
    have hp : (10 : Int) ^ (p.2 - m).toNat = 10 ^ k * 10 ^ (e - m).toNat := by
      rw [← Int.pow_add]; congr 1; omega
    have hs : sc ⟨decide (c < 0), p.1, p.2⟩ * 10 ^ k = c := by
      have h1 : ((p.1 * 10 ^ k : Nat) : Int) = (c.natAbs : Int) := by rw [← a1]
      rw [Int.natCast_mul, Int.natCast_pow] at h1
      by_cases hneg : c < 0
      · simp only [sc, hneg, decide_true, if_true, Int.neg_mul]
        have h2 : (p.1 : Int) * 10 ^ k = c.natAbs := by simpa using h1
        rw [h2]; omega
      · simp only [sc, hneg, decide_false, Bool.false_eq_true, if_false]
        have h2 : (p.1 : Int) * 10 ^ k = c.natAbs := by simpa using h1
        rw [h2]; omega
    unfold V
    rw [hp, ← Int.mul_assoc, hs]
theorem sc_neg0 (w : Wd) : sc w = 0 ↔ w.n = 0 := by
  unfold sc; split <;> omega
theorem sc_turn (w : Wd) : sc (turnW w) = -sc w := by
  unfold sc turnW
  cases w.neg <;> simp
theorem sh_turn {w : Wd} (h : Sh w) : Sh (turnW w) := ⟨h.big, h.lo, h.hi, h.fix⟩
theorem sc_pow (neg : Bool) (n k : Nat) (e e' : Int) : sc ⟨neg, n * 10 ^ k, e⟩ = sc ⟨neg, n, e'⟩ * 10 ^ k := by
  unfold sc
  cases neg
  · simp [Int.natCast_mul, Int.natCast_pow]
  · simp [Int.natCast_mul, Int.natCast_pow, Int.neg_mul]
theorem sc_abs (w : Wd) : (sc w).natAbs = w.n := by
  unfold sc; split <;> omega
theorem sc_add {a b c : Wd} (h : addW a b = some c) (he : a.e = b.e) : sc c = sc a + sc b ∧ c.e = a.e := by
  unfold addW at h
  split at h
  · rename_i hn
    split at h
    · cases h
      refine ⟨?_, rfl⟩
      unfold sc
      simp only [hn]
      cases b.neg <;> simp <;> omega
    · cases h
  · rename_i hn
    cases h
    unfold diffW
    split
    · refine ⟨?_, he.symm⟩
      unfold sc
      simp only
      cases ha : a.neg <;> cases hb : b.neg <;> simp_all <;> omega
    · refine ⟨?_, rfl⟩
      unfold sc
      simp only
      cases ha : a.neg <;> cases hb : b.neg <;> simp_all <;> omega
theorem addW_none {a b : Wd} (h : addW a b = none) : M128 ≤ a.n + b.n ∧ (sc a + sc b).natAbs = a.n + b.n := by
  unfold addW at h
  split at h
  · rename_i hn
    split at h
    · cases h
    · refine ⟨by omega, ?_⟩
      unfold sc
      rw [hn]
      split <;> omega
  · cases h
/-- A sum of two numbers of which the second has the lower exponent, as told. -/
theorem tell_big_sum (x y : Int) (k : Nat) (e : Int) (hk : 1 ≤ k) (hy : y.natAbs % 10 ≠ 0) (hy2 : y.natAbs ≤ 9223372036854775808)
    (hx : M128 ≤ (x * 10 ^ k).natAbs + y.natAbs) : tell (x * 10 ^ k + y) e = none := by
  unfold tell
  obtain ⟨j, rfl⟩ : ∃ j, k = j + 1 := ⟨k - 1, by omega⟩
  have hz : x * 10 ^ (j + 1) = (x * 10 ^ j) * 10 := by rw [Int.pow_succ, Int.mul_assoc]
  rw [hz] at hx ⊢
  generalize x * 10 ^ j = z at *
  unfold M128 at hx
  exact tellW_big _ _ _ (Or.inl (by omega)) (by omega)
theorem told_sum_le (a b : Wd) (ha : Sh a) (hb : Sh b) (hb0 : b.n ≠ 0) (he : b.e ≤ a.e) :
    (toldW (match lowW a b.e with | none => none | some a' => match lowW b a'.e with | none => none | some b' => addW a' b') =
      tell (sc a * 10 ^ (a.e - b.e).toNat + sc b) b.e) ∧
    (toldW (match lowW b a.e with | none => none | some a' => match lowW a a'.e with | none => none | some b' => addW a' b') =
      tell (sc a * 10 ^ (a.e - b.e).toNat + sc b) b.e) := by
  have hk : a.e ≤ b.e ∨ 1 ≤ (a.e - b.e).toNat := by omega
  have hlb : lowW b a.e = some b := by unfold lowW; rw [if_pos he]
  have hlb2 : ∀ x : Wd, x.e = b.e → lowW b x.e = some b := fun x hx => by unfold lowW; rw [if_pos (by omega)]
  have hyb : 1 ≤ (a.e - b.e).toNat → (sc b).natAbs % 10 ≠ 0 := by
    intro h; rw [sc_abs]; have := hb.fix; have := ha.hi; omega
  have hb2 := hb.big
  have ha2 := ha.big
  have key : ∀ a' : Wd, sc a' = sc a * 10 ^ (a.e - b.e).toNat → a'.e = b.e → 
      toldW (addW a' b) = tell (sc a * 10 ^ (a.e - b.e).toNat + sc b) b.e ∧ toldW (addW b a') = tell (sc a * 10 ^ (a.e - b.e).toNat + sc b) b.e := by
    intro a' h1 h2
    have hbad : M128 ≤ a'.n + b.n → tell (sc a * 10 ^ (a.e - b.e).toNat + sc b) b.e = none := by
      intro hbig
      rcases hk with hk | hk
      · exfalso
        rw [show (a.e - b.e).toNat = 0 by omega] at h1
        have h3 := sc_abs a'
        have h4 := sc_abs a
        simp only [Int.pow_zero, Int.mul_one] at h1
        rw [h1] at h3
        unfold M128 at hbig
        omega
      · refine tell_big_sum _ _ _ _ hk (hyb hk) (by rw [sc_abs]; exact hb2) ?_
        rw [← h1, sc_abs, sc_abs]; exact hbig
    constructor
    · cases hc : addW a' b with
      | some c =>
        obtain ⟨h3, h4⟩ := sc_add hc h2
        show tellW c.neg c.n c.e = _
        rw [← tell_sc c, h3, h1, h4, h2]
      | none =>
        obtain ⟨h3, _⟩ := addW_none hc
        exact (hbad h3).symm
    · cases hc : addW b a' with
      | some c =>
        obtain ⟨h3, h4⟩ := sc_add hc h2.symm
        show tellW c.neg c.n c.e = _
        rw [← tell_sc c, h3, h1, h4, Int.add_comm]
      | none =>
        obtain ⟨h3, _⟩ := addW_none hc
        exact (hbad (by omega)).symm
  by_cases hle : a.e ≤ b.e
  · have heq : a.e = b.e := by omega
    have hla : lowW a b.e = some a := by unfold lowW; rw [if_pos hle]
    have hk1 := key a (by rw [show (a.e - b.e).toNat = 0 by omega]; simp) heq
    constructor
    · rw [hla]; simp only [hlb]; exact hk1.1
    · rw [hlb]; simp only [hla]; exact hk1.2
  · have hk1 : 1 ≤ (a.e - b.e).toNat := by omega
    by_cases hf : a.n * 10 ^ (a.e - b.e).toNat < M128
    · have hla : lowW a b.e = some ⟨a.neg, a.n * 10 ^ (a.e - b.e).toNat, b.e⟩ := by unfold lowW; rw [if_neg hle, if_pos hf]
      have hk2 := key ⟨a.neg, a.n * 10 ^ (a.e - b.e).toNat, b.e⟩ (sc_pow a.neg a.n _ b.e a.e) rfl
      constructor
      · rw [hla]; simp only [hlb2 ⟨a.neg, a.n * 10 ^ (a.e - b.e).toNat, b.e⟩ rfl]; exact hk2.1
      · rw [hlb]; simp only [hla]; exact hk2.2
    · have hla : lowW a b.e = none := by unfold lowW; rw [if_neg hle, if_neg hf]
      have hnone : tell (sc a * 10 ^ (a.e - b.e).toNat + sc b) b.e = none := by
        refine tell_big_sum _ _ _ _ hk1 (hyb hk1) (by rw [sc_abs]; exact hb2) ?_
        rw [Int.natAbs_mul, Int.natAbs_pow, sc_abs]
        have : M128 ≤ a.n * 10 ^ (a.e - b.e).toNat := by omega
        exact Nat.le_trans this (Nat.le_add_right _ _)
      constructor
      · rw [hla, hnone]; rfl
      · rw [hlb]; simp only [hla]; rw [hnone]; rfl
theorem told_sum (a b : Wd) (ha : Sh a) (hb : Sh b) : toldW (sumW a b) = tell (V (-18) (sc a) a.e + V (-18) (sc b) b.e) (-18) := by
  unfold sumW
  by_cases ha0 : a.n = 0
  · rw [if_pos ha0, (V_eq0 (-18) (sc a) a.e).2 ((sc_neg0 a).2 ha0), Int.zero_add, tell_V _ _ _ hb.lo, tell_sc]; rfl
  · rw [if_neg ha0]
    by_cases hb0 : b.n = 0
    · rw [if_pos hb0, (V_eq0 (-18) (sc b) b.e).2 ((sc_neg0 b).2 hb0), Int.add_zero, tell_V _ _ _ ha.lo, tell_sc]; rfl
    · rw [if_neg hb0]
      have h1 := ha.lo
      have h2 := hb.lo
      rcases Int.le_total b.e a.e with he | he
      · rw [(told_sum_le a b ha hb hb0 he).1]
        have hv : V (-18) (sc a) a.e + V (-18) (sc b) b.e = V (-18) (sc a * 10 ^ (a.e - b.e).toNat + sc b) b.e := by
          unfold V
          rw [Int.add_mul, Int.mul_assoc, ← Int.pow_add]
          congr 3
          omega
        rw [hv, tell_V _ _ _ h2]
      · rw [(told_sum_le b a hb ha ha0 he).2]
        have hv : V (-18) (sc a) a.e + V (-18) (sc b) b.e = V (-18) (sc b * 10 ^ (b.e - a.e).toNat + sc a) a.e := by
          unfold V
          rw [Int.add_mul, Int.mul_assoc, ← Int.pow_add, Int.add_comm]
          congr 3
          omega
        rw [hv, tell_V _ _ _ h1]
theorem sc_prod (a b : Wd) : sc (prodW a b) = sc a * sc b := by
  unfold sc prodW
  cases a.neg <;> cases b.neg <;> simp [Int.natCast_mul, Int.neg_mul, Int.mul_neg]
theorem told_prod (a b : Wd) (ha : Sh a) (hb : Sh b) : toldW (some (prodW a b)) = tell (V (-18) (sc a) a.e * V (-18) (sc b) b.e) (-36) := by
  show tellW (prodW a b).neg (prodW a b).n (prodW a b).e = _
  have h1 := ha.lo
  have h2 := hb.lo
  rw [← tell_sc, sc_prod]
  have hv : V (-18) (sc a) a.e * V (-18) (sc b) b.e = V (-36) (sc a * sc b) (a.e + b.e) := by
    unfold V
    rw [show (a.e + b.e - -36).toNat = (a.e - -18).toNat + (b.e - -18).toNat by omega, Int.pow_add]
    rw [Int.mul_assoc, Int.mul_assoc, Int.mul_left_comm (10 ^ _)]
  rw [hv, tell_V _ _ _ (by omega)]
  rfl
#print axioms told_prod
#print axioms told_sum
end Go.Proofs.YtfbhonjndepjbaaDoor
