import Derived.Test.YtoncpcdepemlcaaGreatDoorPqzM
import Derived.Test.YtoncpcdepemlcaaGreatDoorWdgM
import Derived.Deep.CutBlock
import Derived.Deep.DeepCutAuto
import Derived.Test.YtoncpcdepemlcaaGreatDoorRrgM
import Derived.Test.YtoncpcdepemlcaaGreatDoorWbsM
import Derived.Test.YtoncpcdepemlcaaGreatDoorRtmM
import Derived.Test.YtoncpcdepemlcaaGreatDoorRcmM
import Derived.Test.YtoncpcdepemlcaaGreatDoorWprM
import Derived.Test.YtoncpcdepemlcaaGreatDoorRro
import Derived.Test.YtoncpcdepemlcaaGreatDoorRrb
import Derived.Laws.StructEq
/- The document's Print. -/
namespace Go.Proofs.YtoncpcdepemlcaaGreatDoor
open Go.RowKit

theorem sc_sign (c e : Int) : decide (sc (decW c e) < 0) = (decW c e).neg := by
  unfold sc decW shortW numW
  by_cases hc : c = 0
  · subst hc; rfl
  · simp only [show c.natAbs ≠ 0 by omega, if_false]
    have hs := strip_spec c.natAbs e (by omega)
    obtain ⟨k, _, _, _, _, h5⟩ := hs
    by_cases hn : c < 0
    · simp only [hn, decide_true, if_true]
      exact decide_eq_true (by omega)
    · simp only [hn, decide_false]
      exact decide_eq_false (by simp)
theorem shl_abs (y : Wd) (k : Nat) : (sc y * 10 ^ k).natAbs = y.n * 10 ^ k := by
  rw [Int.natAbs_mul, Int.natAbs_pow, sc_abs]; rfl
end Go.Proofs.YtoncpcdepemlcaaGreatDoor
/- Round: the program's way (pure, and its answer for any Dec). -/
namespace Go.Proofs.YtoncpcdepemlcaaGreatDoor

/-- Does half or more go? -/
def upN (n k : Nat) : Nat := if 10 ^ k ≤ n % 10 ^ k + n % 10 ^ k then 1 else 0
/-- What Round answers. -/
def roundV (c e pl : Int) : Value := if (-18 ≤ e ∧ e ≤ 18) ∧ (-18 ≤ pl ∧ pl ≤ 18) then (if 0 < -pl - e then decV (tell (if c < 0 then -((c.natAbs / 10 ^ (-pl - e).toNat + upN c.natAbs (-pl - e).toNat : Nat) : Int) else ((c.natAbs / 10 ^ (-pl - e).toNat + upN c.natAbs (-pl - e).toNat : Nat) : Int)) (-pl)) else decV (tell c e)) else .tuple #[.agg #[.int .i64 0, .int .i64 0], .int .i64 1]
theorem up_digit (n d : Nat) : (n / 10 ^ d + 5) / 10 = n / 10 ^ (d + 1) + upN n (d + 1) := by
  have hp : 0 < 10 ^ d := Nat.pow_pos (by decide)
  unfold upN
  rw [Nat.pow_succ]
  obtain ⟨P, hP⟩ : ∃ P, 10 ^ d = P := ⟨_, rfl⟩
  rw [hP] at hp ⊢
  have h1 := Nat.div_add_mod n P
  have h2 := Nat.mod_lt n hp
  have h3 : n / (P * 10) = n / P / 10 := (Nat.div_div_eq_div_mul n P 10).symm
  have h4 : n % (P * 10) = P * (n / P % 10) + n % P := by
    rw [Nat.mod_mul, Nat.add_comm]
  rw [h3, h4]
  obtain ⟨a, ha⟩ : ∃ a, n / P = a := ⟨_, rfl⟩
  obtain ⟨l, hl⟩ : ∃ l, n % P = l := ⟨_, rfl⟩
  rw [ha, hl]
  rw [hl] at h2
  obtain ⟨r, hr⟩ : ∃ r, a % 10 = r := ⟨_, rfl⟩
  have hr9 : r < 10 := by rw [← hr]; exact Nat.mod_lt _ (by decide)
  rw [hr]
  have hc : (P * 10 ≤ P * r + l + (P * r + l)) ↔ 5 ≤ r := by
    constructor
    · intro h
      rcases Nat.lt_or_ge r 5 with h5 | h5
      · have : P * r ≤ P * 4 := Nat.mul_le_mul_left P (by omega)
        omega
      · exact h5
    · intro h
      have : P * 5 ≤ P * r := Nat.mul_le_mul_left P h
      omega
  by_cases h5 : 5 ≤ r
  · rw [if_pos (hc.2 h5)]; omega
  · rw [if_neg (fun h => h5 (hc.1 h))]; omega
theorem up_shift (n j k : Nat) (h : j ≤ k) : n * 10 ^ j / 10 ^ k = n / 10 ^ (k - j) ∧ upN (n * 10 ^ j) k = upN n (k - j) := by
  have hp : 0 < 10 ^ j := Nat.pow_pos (by decide)
  obtain ⟨d, rfl⟩ : ∃ d, k = d + j := ⟨k - j, by omega⟩
  rw [Nat.add_sub_cancel, Nat.pow_add]
  refine ⟨Nat.mul_div_mul_right _ _ hp, ?_⟩
  unfold upN
  rw [Nat.pow_add, Nat.mul_mod_mul_right, ← Nat.add_mul]
  by_cases h5 : 10 ^ d ≤ n % 10 ^ d + n % 10 ^ d
  · rw [if_pos h5, if_pos (Nat.mul_le_mul_right _ h5)]
  · rw [if_neg h5, if_neg (fun h6 => h5 (Nat.le_of_mul_le_mul_right h6 hp))]
theorem up_none (n j k : Nat) (h : k ≤ j) : n * 10 ^ j / 10 ^ k = n * 10 ^ (j - k) ∧ upN (n * 10 ^ j) k = 0 := by
  have hp : 0 < 10 ^ k := Nat.pow_pos (by decide)
  obtain ⟨d, rfl⟩ : ∃ d, j = d + k := ⟨j - k, by omega⟩
  rw [Nat.add_sub_cancel, Nat.pow_add, ← Nat.mul_assoc]
  refine ⟨Nat.mul_div_cancel _ hp, ?_⟩
  unfold upN
  rw [Nat.mul_mod_left, if_neg (by omega)]
theorem pround_any (c e pl : Int) (hc : I64 c) (w : World) : Calls Tryz.prog 83 #[.agg #[.int .i64 c, .int .i64 e], .int .i64 pl] w fun r w' => r = .returned (roundV c e pl) ∧ Go.RowKit.Below w.heap.size w w' := by
  unfold roundV
  by_cases he : -18 ≤ e ∧ e ≤ 18
  · have hw : within e := he
    by_cases hp : -18 ≤ pl ∧ pl ≤ 18
    · have hwp : within pl := hp
      rw [if_pos ⟨he, hp⟩]
      obtain ⟨j, h1, h2, h3⟩ := dec_low c e hw
      have hab : c.natAbs = (decW c e).n * 10 ^ j := by
        conv => lhs; rw [h1]
        exact shl_abs _ _
      have hsg := sc_sign c e
      by_cases hc0 : c = 0
      · subst hc0
        have hd : decW 0 e = ⟨false, 0, 0⟩ := by simp [decW, shortW, numW]
        have ht : tell 0 e = some (0, 0) := by simp [tell, tellW_zero]
        have hv : decV (tell (if (0 : Int) < 0 then -(((0 : Int).natAbs / 10 ^ (-pl - e).toNat + upN (0 : Int).natAbs (-pl - e).toNat : Nat) : Int) else (((0 : Int).natAbs / 10 ^ (-pl - e).toNat + upN (0 : Int).natAbs (-pl - e).toNat : Nat) : Int)) (-pl)) = decV (some (0, 0)) := by
          have hu : upN (0 : Int).natAbs (-pl - e).toNat = 0 := by
            unfold upN
            rw [if_neg (by have : 0 < 10 ^ (-pl - e).toNat := Nat.pow_pos (by decide); simp)]
          rw [if_neg (by omega), hu]
          simp [tell, tellW_zero]
        have hall : (if 0 < -pl - e then decV (tell (if (0 : Int) < 0 then -(((0 : Int).natAbs / 10 ^ (-pl - e).toNat + upN (0 : Int).natAbs (-pl - e).toNat : Nat) : Int) else (((0 : Int).natAbs / 10 ^ (-pl - e).toNat + upN (0 : Int).natAbs (-pl - e).toNat : Nat) : Int)) (-pl)) else decV (tell 0 e)) = decV (some (0, 0)) := by
          split
          · exact hv
          · rw [ht]
        rw [hall]
        by_cases hy : -pl ≤ (decW 0 e).e
        · have := round_up 0 e pl hc hw hwp hy w
          rw [told_dec 0 e hw, ht] at this
          exact this
        · have := round_down 0 e pl hc hw hwp hy w
          have hr : toldW (some (roundW (decW 0 e) pl)) = some (0, 0) := by
            unfold roundW
            rw [if_neg hy, hd]
            show tellW _ _ _ = _
            simp [tellW_zero]
          rw [hr] at this
          exact this
      · have hye := h2 hc0
        have hn0 : (decW c e).n ≠ 0 := by
          intro h
          rw [h, Nat.zero_mul] at hab
          omega
        have hcn : decide (c < 0) = (decW c e).neg := by
          rw [← hsg]
          congr 1
          apply propext
          have hpj : (0 : Int) < 10 ^ j := Int.pow_pos (by decide)
          constructor
          · intro h
            rcases Int.lt_or_le (sc (decW c e)) 0 with h5 | h5
            · exact h5
            · have := Int.mul_nonneg h5 (Int.le_of_lt hpj)
              omega
          · intro h
            have := Int.mul_neg_of_neg_of_pos h hpj
            omega
        by_cases hy : -pl ≤ (decW c e).e
        · have := round_up c e pl hc hw hwp hy w
          rw [told_dec c e hw] at this
          by_cases hcut : 0 < -pl - e
          · rw [if_pos hcut]
            obtain ⟨u1, u2⟩ := up_none (decW c e).n j (-pl - e).toNat (by omega)
            rw [hab, u1, u2, Nat.add_zero]
            have e1 : (if c < 0 then -(((decW c e).n * 10 ^ (j - (-pl - e).toNat) : Nat) : Int) else (((decW c e).n * 10 ^ (j - (-pl - e).toNat) : Nat) : Int)) = sc (decW c e) * 10 ^ (j - (-pl - e).toNat) := by
              unfold sc
              rw [← hcn]
              by_cases hs : c < 0
              · rw [decide_eq_true hs, if_pos hs, if_pos rfl, Int.natCast_mul, Int.natCast_pow, Int.neg_mul]; rfl
              · rw [decide_eq_false hs, if_neg hs, if_neg (by simp), Int.natCast_mul, Int.natCast_pow]; rfl
            rw [e1]
            have e2 := tell_pow (sc (decW c e) * 10 ^ (j - (-pl - e).toNat)) (-pl) (-pl - e).toNat
            rw [Int.mul_assoc, ← Int.pow_add, show j - (-pl - e).toNat + (-pl - e).toNat = j by omega, ← h1, show -pl - (((-pl - e).toNat : Nat) : Int) = e by omega] at e2
            rw [← e2]
            exact this
          · rw [if_neg hcut]; exact this
        · have := round_down c e pl hc hw hwp hy w
          rw [if_pos (by omega)]
          obtain ⟨u1, u2⟩ := up_shift (decW c e).n j (-pl - e).toNat (by omega)
          rw [hab, u1, u2]
          have e1 : toldW (some (roundW (decW c e) pl)) = tell (if c < 0 then -(((decW c e).n / 10 ^ ((-pl - e).toNat - j) + upN (decW c e).n ((-pl - e).toNat - j) : Nat) : Int) else (((decW c e).n / 10 ^ ((-pl - e).toNat - j) + upN (decW c e).n ((-pl - e).toNat - j) : Nat) : Int)) (-pl) := by
            unfold roundW
            rw [if_neg hy]
            show tellW _ _ _ = _
            obtain ⟨d, hd⟩ : ∃ d, (-pl - e).toNat - j = d + 1 := ⟨(-pl - e).toNat - j - 1, by omega⟩
            rw [hd, show (-pl - 1 - (decW c e).e).toNat = d by omega, up_digit, tellW_tell, ← hcn]
            congr 1
            by_cases hs : c < 0
            · rw [decide_eq_true hs, if_pos hs, if_pos rfl]
            · rw [decide_eq_false hs, if_neg hs, if_neg (by simp)]
          rw [e1] at this
          exact this
    · rw [if_neg (fun h => hp h.2)]
      exact round_bad2 c e pl hc hw hp w
  · rw [if_neg (fun h => he h.1)]
    exact round_bad1 c e pl he w
end Go.Proofs.YtoncpcdepemlcaaGreatDoor
/- DecLooks' walk, given the document's Int. -/
namespace Go.Proofs.YtoncpcdepemlcaaGreatDoor
open Go.RowKit

end Go.Proofs.YtoncpcdepemlcaaGreatDoor
