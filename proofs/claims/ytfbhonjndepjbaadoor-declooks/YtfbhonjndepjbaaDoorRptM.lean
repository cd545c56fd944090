import Derived.Test.YtfbhonjndepjbaaDoorRofM
import Derived.Test.YtfbhonjndepjbaaDoorRspM
/- Places of a product (pure). -/
namespace Go.Proofs.YtfbhonjndepjbaaDoor

theorem dval_set (ds : List Int) (i : Nat) (v : Int) (h : i < ds.length) : dval (ds.set i v) = dval ds + (v - ds[i]?.getD 0) * 10 ^ i := by
  induction ds generalizing i with
  | nil => simp at h
  | cons d t ih =>
    cases i with
    | zero => simp [dval]; omega
    | succ i =>
      have h2 := ih i (by simpa using h)
      simp only [List.set_cons_succ, dval, List.getElem?_cons_succ]
      rw [h2, Int.pow_succ, Int.mul_add, show (10 : Int) * ((v - t[i]?.getD 0) * 10 ^ i) = (v - t[i]?.getD 0) * (10 ^ i * 10) by rw [Int.mul_comm, Int.mul_assoc]]
      omega
/-- A place is carried on. -/
theorem dval_carry (ds : List Int) (k : Nat) (h : k + 1 < ds.length) :
    dval ((ds.set (k + 1) (ds[k + 1]?.getD 0 + ds[k]?.getD 0 / 10)).set k (ds[k]?.getD 0 % 10)) = dval ds := by
  rw [dval_set _ _ _ (by simp; omega), dval_set _ _ _ h, List.getElem?_set_ne (by omega), Int.pow_succ]
  generalize ds[k]?.getD 0 = a
  generalize ds[k + 1]?.getD 0 = b
  generalize (10 : Int) ^ k = p
  have h1 : a = 10 * (a / 10) + a % 10 := (Int.mul_ediv_add_emod a 10).symm
  generalize a / 10 = q at *
  generalize a % 10 = r at *
  subst h1
  rw [show b + q - b = q by omega, show r - (10 * q + r) = -(10 * q) by omega, Int.neg_mul, Int.mul_comm p 10, ← Int.mul_assoc, Int.mul_comm q 10]
  omega
end Go.Proofs.YtfbhonjndepjbaaDoor
/- A product, place by place (pure). -/
namespace Go.Proofs.YtfbhonjndepjbaaDoor

theorem dval_take_succ (bs : List Int) (k : Nat) (h : k < bs.length) : dval (bs.take (k + 1)) = dval (bs.take k) + bs[k]?.getD 0 * 10 ^ k := by
  rw [List.take_add_one, List.getElem?_eq_getElem h, dval_append]
  simp only [Option.toList_some, Option.getD_some, dval, List.length_take]
  rw [Nat.min_eq_left (Nat.le_of_lt h), Int.mul_zero, Int.add_zero, Int.mul_comm]
theorem getD_set (ds : List Int) (i m : Nat) (v : Int) (h : i < ds.length) : (ds.set i v)[m]?.getD 0 = if m = i then v else ds[m]?.getD 0 := by
  by_cases hm : m = i
  · subst hm; rw [List.getElem?_set_self h, if_pos rfl]; rfl
  · rw [List.getElem?_set_ne (fun h => hm h.symm), if_neg hm]
/-- k places of a digit's product are added. -/
structure PrAt (P x : Int) (i : Nat) (bs ds : List Int) (k : Nat) : Prop where
  val : dval ds = P + x * 10 ^ i * dval (bs.take k)
  lo : ∀ m : Nat, 0 ≤ ds[m]?.getD 0
  hi : ∀ m : Nat, ds[m]?.getD 0 ≤ if m < i + k then 90 else 9
theorem mul_dig {x y : Int} (hx : 0 ≤ x ∧ x ≤ 9) (hy : 0 ≤ y ∧ y ≤ 9) : 0 ≤ x * y ∧ x * y ≤ 81 := by
  refine ⟨Int.mul_nonneg hx.1 hy.1, ?_⟩
  have h1 := Int.mul_le_mul hx.2 hy.2 hy.1 (by decide : (0 : Int) ≤ 9)
  exact h1
theorem PrAt.step {P x : Int} {i k : Nat} {bs ds : List Int} (h : PrAt P x i bs ds k) (hx : 0 ≤ x ∧ x ≤ 9) (hb : DgL bs) (hk : k < bs.length) (hl : i + k < ds.length) :
    PrAt P x i bs (ds.set (i + k) (ds[i + k]?.getD 0 + x * bs[k]?.getD 0)) (k + 1) := by
  have hp := mul_dig hx (hb.get k)
  refine ⟨?_, fun m => ?_, fun m => ?_⟩
  · rw [dval_set _ _ _ hl, h.val, dval_take_succ bs k hk, Int.pow_add, Int.mul_add]
    generalize ds[i + k]?.getD 0 = d
    generalize bs[k]?.getD 0 = y
    rw [show d + x * y - d = x * y by omega, show x * y * (10 ^ i * 10 ^ k) = x * 10 ^ i * (y * 10 ^ k) by rw [Int.mul_assoc, Int.mul_assoc, ← Int.mul_assoc y, Int.mul_comm y (10 ^ i), Int.mul_assoc]]
    omega
  · rw [getD_set _ _ _ _ hl]
    have h1 := h.lo m
    have h2 := h.lo (i + k)
    split <;> omega
  · rw [getD_set _ _ _ _ hl]
    have h1 := h.hi m
    have h2 := h.hi (i + k)
    rw [if_neg (Nat.lt_irrefl _)] at h2
    split
    · rw [if_pos (by omega)]; omega
    · split at h1
      · rw [if_pos (by omega)]; exact h1
      · split <;> omega
/-- k places are carried on. -/
structure CaAt (P : Int) (ds : List Int) (k : Nat) : Prop where
  val : dval ds = P
  lo : ∀ m : Nat, 0 ≤ ds[m]?.getD 0
  hi : ∀ m : Nat, ds[m]?.getD 0 ≤ if m < k then 9 else if m = k then 100 else 90
theorem PrAt.carry {P x : Int} {i k : Nat} {bs ds : List Int} (h : PrAt P x i bs ds k) (hk : k = bs.length) : CaAt (P + x * 10 ^ i * dval bs) ds 0 := by
  refine ⟨?_, h.lo, fun m => ?_⟩
  · rw [h.val, hk, List.take_length]
  · have h1 := h.hi m
    rw [if_neg (Nat.not_lt_zero _)]
    split at h1 <;> split <;> omega
theorem CaAt.step {P : Int} {ds : List Int} {k : Nat} (h : CaAt P ds k) (hl : k + 1 < ds.length) :
    CaAt P ((ds.set (k + 1) (ds[k + 1]?.getD 0 + ds[k]?.getD 0 / 10)).set k (ds[k]?.getD 0 % 10)) (k + 1) := by
  have a0 := h.lo k
  have a1 := h.hi k
  have b0 := h.lo (k + 1)
  have b1 := h.hi (k + 1)
  rw [if_neg (by omega), if_pos rfl] at a1
  rw [if_neg (by omega), if_neg (by omega)] at b1
  refine ⟨(dval_carry ds k hl).trans h.val, fun m => ?_, fun m => ?_⟩
  · rw [getD_set _ _ _ _ (by simp; omega), getD_set _ _ _ _ hl]
    have h1 := h.lo m
    split
    · omega
    · split <;> omega
  · rw [getD_set _ _ _ _ (by simp; omega), getD_set _ _ _ _ hl]
    have h1 := h.hi m
    split
    · rw [if_pos (by omega)]; omega
    · split
      · rw [if_neg (by omega)]; omega
      · split at h1
        · rw [if_pos (by omega)]; exact h1
        · rw [if_neg (by omega)]; exact h1
theorem dval_ge {ds : List Int} (h : ∀ m : Nat, 0 ≤ ds[m]?.getD 0) (k : Nat) : ds[k]?.getD 0 * 10 ^ k ≤ dval ds ∧ 0 ≤ dval ds := by
  induction ds generalizing k with
  | nil => simp [dval]
  | cons d t ih =>
    have hd := h 0
    have ht : ∀ m : Nat, 0 ≤ t[m]?.getD 0 := fun m => by simpa using h (m + 1)
    simp only [List.getElem?_cons_zero, Option.getD_some] at hd
    have h0 := (ih ht 0).2
    refine ⟨?_, by simp only [dval]; omega⟩
    cases k with
    | zero => simp only [List.getElem?_cons_zero, Option.getD_some, dval, Int.pow_zero]; omega
    | succ k =>
      have h2 := (ih ht k).1
      simp only [List.getElem?_cons_succ, dval, Int.pow_succ]
      rw [← Int.mul_assoc]
      omega
/-- All is carried on, and the last place is nought. -/
theorem CaAt.digits {P : Int} {ds : List Int} {k : Nat} (h : CaAt P ds k) (hl : k + 1 = ds.length) (hP : P < 10 ^ k) : DgL ds := by
  have h0 : ds[k]?.getD 0 ≤ 0 := by
    have h1 := (dval_ge h.lo k).1
    rw [h.val] at h1
    have h2 := h.lo k
    rcases Int.lt_or_le 0 (ds[k]?.getD 0) with h3 | h3
    · have h4 : (10 : Int) ^ k * 1 ≤ 10 ^ k * ds[k]?.getD 0 := Int.mul_le_mul_of_nonneg_left (by omega) (Int.le_of_lt (Int.pow_pos (by decide)))
      rw [Int.mul_one, Int.mul_comm] at h4
      omega
    · exact h3
  intro d hd
  obtain ⟨m, hm, rfl⟩ := List.getElem_of_mem hd
  have h1 := h.lo m
  have h2 := h.hi m
  rw [List.getElem?_eq_getElem hm, Option.getD_some] at h1 h2
  refine ⟨h1, ?_⟩
  by_cases hk : m < k
  · rw [if_pos hk] at h2; exact h2
  · have : m = k := by omega
    subst this
    rw [List.getElem?_eq_getElem hm, Option.getD_some] at h0
    omega
end Go.Proofs.YtfbhonjndepjbaaDoor
