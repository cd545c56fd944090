/- The document's words for right lengths, and the program's: one and the same. -/
import Derived.Test.YtiakploggmmklaaPre
namespace Go.Proofs.Ytiakploggmmklaa
open Go.RowKit

/-- The room that the first k symbols take up, and how many of them have a code. -/
def spS (zs : List Int) : Nat → Nat × Nat
  | 0 => (0, 0)
  | k + 1 => if 0 < zs[k]?.getD 0 then ((spS zs k).1 + 2 ^ (15 - (zs[k]?.getD 0).toNat), (spS zs k).2 + 1) else spS zs k
/-- How many symbols have a code of at most k bits. -/
def nsum (zs : List Int) : Nat → Nat
  | 0 => 0
  | k + 1 => nsum zs k + cnt zs (k + 1)
theorem room_snoc (zs : List Int) (m : Nat) (k : Nat) (hk : k ≤ 15) : room (zs ++ [(m : Int)]) k = room zs k + if 1 ≤ m ∧ m ≤ k then 2 ^ (15 - m) else 0 := by
  induction k with
  | zero => simp only [room]; rw [if_neg (by omega)]
  | succ k ih =>
    rw [room, room, ih (by omega), cnt_snoc, Nat.add_mul]
    by_cases h1 : m = k + 1
    · subst h1
      rw [if_neg (by omega), if_pos rfl, if_pos (by omega), show 15 - (k + 1) = 14 - k by omega]
      omega
    · rw [if_neg (c := (m : Int) = ((k + 1 : Nat) : Int)) (by omega)]
      by_cases h2 : 1 ≤ m ∧ m ≤ k
      · rw [if_pos h2, if_pos (by omega)]; omega
      · rw [if_neg h2, if_neg (by omega)]; omega
theorem nsum_snoc (zs : List Int) (m : Nat) (k : Nat) : nsum (zs ++ [(m : Int)]) k = nsum zs k + if 1 ≤ m ∧ m ≤ k then 1 else 0 := by
  induction k with
  | zero => simp only [nsum]; rw [if_neg (by omega)]
  | succ k ih =>
    rw [nsum, nsum, ih, cnt_snoc]
    by_cases h1 : m = k + 1
    · subst h1
      rw [if_neg (by omega), if_pos rfl, if_pos (by omega)]
      omega
    · rw [if_neg (c := (m : Int) = ((k + 1 : Nat) : Int)) (by omega)]
      by_cases h2 : 1 ≤ m ∧ m ≤ k
      · rw [if_pos h2, if_pos (by omega)]; omega
      · rw [if_neg h2, if_neg (by omega)]; omega
theorem cnt_nil (m : Nat) : cnt [] m = 0 := rfl
theorem spS_spec (zs : List Int) (h : inRange zs) (k : Nat) (hk : k ≤ zs.length) : spS zs k = (room (zs.take k) 15, nsum (zs.take k) 15) := by
  induction k with
  | zero =>
    have h1 : ∀ j, room [] j = 0 := fun j => by
      induction j with
      | zero => rfl
      | succ j ih => rw [room, ih, cnt_nil]; simp
    have h2 : ∀ j, nsum [] j = 0 := fun j => by
      induction j with
      | zero => rfl
      | succ j ih => rw [nsum, ih, cnt_nil]
    rw [List.take_zero, h1, h2]; rfl
  | succ k ih =>
    have hlt : k < zs.length := by omega
    have e : zs[k]?.getD 0 = zs[k] := by simp [hlt]
    have hb := h _ (List.getElem_mem hlt)
    obtain ⟨m, hm⟩ := Int.eq_ofNat_of_zero_le hb.1
    rw [spS, ih (by omega), List.take_succ_eq_append_getElem hlt, e, hm, room_snoc _ m 15 (Nat.le_refl _), nsum_snoc]
    by_cases h0 : 1 ≤ m
    · rw [if_pos (by omega), if_pos (by omega), if_pos (by omega), Int.toNat_natCast]
    · rw [if_neg (by omega), if_neg (by omega), if_neg (by omega)]
      rfl
theorem nsum_le (zs : List Int) (i k : Nat) (h : i < k) : cnt zs (i + 1) ≤ nsum zs k := by
  induction k with
  | zero => omega
  | succ k ih =>
    rw [nsum]
    by_cases e : i = k
    · subst e; omega
    · have := ih (by omega); omega
theorem sameTab_of (zs ys : List Int) (h : ∀ i, i < 15 → cnt zs (i + 1) = cnt ys (i + 1)) : sameTab zs ys = true := by
  rw [sameTab, List.all_eq_true]
  intro i hi
  have hi' := List.mem_range.1 hi
  simp only [cntL, List.getD_eq_getElem?_getD, List.getElem?_map, List.getElem?_range hi', Option.map_some, Option.getD_some, beq_iff_eq]
  rw [h i hi']
theorem nsum_same (zs ys : List Int) (h : ∀ i, i < 15 → cnt zs (i + 1) = cnt ys (i + 1)) (k : Nat) (hk : k ≤ 15) : nsum zs k = nsum ys k := by
  induction k with
  | zero => rfl
  | succ k ih => rw [nsum, nsum, ih (by omega), h k (by omega)]
/-- Below the first length that is there the room is empty. -/
theorem room_zero (zs : List Int) (k : Nat) (h : ∀ i, i < k → cnt zs (i + 1) = 0) : room zs k = 0 ∧ nsum zs k = 0 := by
  induction k with
  | zero => exact ⟨rfl, rfl⟩
  | succ k ih =>
    obtain ⟨h1, h2⟩ := ih (fun i hi => h i (by omega))
    rw [room, nsum, h1, h2, h k (by omega)]
    simp
theorem room_small (zs : List Int) (k : Nat) (hk : k ≤ 15) (h1 : cnt zs 1 = 0) (hn : nsum zs k ≤ 1) : room zs k ≤ 8192 * nsum zs k := by
  induction k with
  | zero => simp [room]
  | succ k ih =>
    rw [nsum] at hn ⊢
    have := ih (by omega) (by omega)
    rw [room]
    cases k with
    | zero =>
      rw [show 0 + 1 = 1 from rfl, h1] at *
      simp [room, nsum]
    | succ k =>
      have h2 : (2 : Nat) ^ (14 - (k + 1)) ≤ 2 ^ 13 := Nat.pow_le_pow_right (by omega) (by omega)
      have h3 : cnt zs (k + 1 + 1) * 2 ^ (14 - (k + 1)) ≤ cnt zs (k + 1 + 1) * 2 ^ 13 := Nat.mul_le_mul_left _ h2
      omega
theorem right_same (zs : List Int) : rightB zs = (decide (room zs 15 = 32768) || decide (nsum zs 15 = 0) || (decide (nsum zs 15 = 1) && decide (room zs 15 = 16384))) := by
  have e1 : sameTab zs [] = decide (nsum zs 15 = 0) := by
    rw [Bool.eq_iff_iff, decide_eq_true_iff]
    constructor
    · intro h
      rw [nsum_same zs [] (sameTab_cnt zs [] h) 15 (Nat.le_refl _)]
      decide
    · intro h
      exact sameTab_of zs [] (fun i hi => by have := nsum_le zs i 15 hi; rw [cnt_nil]; omega)
  have e2 : sameTab zs [1] = (decide (nsum zs 15 = 1) && decide (room zs 15 = 16384)) := by
    rw [Bool.eq_iff_iff, Bool.and_eq_true, decide_eq_true_iff, decide_eq_true_iff]
    constructor
    · intro h
      rw [nsum_same zs [1] (sameTab_cnt zs [1] h) 15 (Nat.le_refl _), room_same zs [1] (sameTab_cnt zs [1] h) 15 (Nat.le_refl _)]
      decide
    · rintro ⟨h1, h2⟩
      have hc1 : cnt zs 1 ≠ 0 := fun h0 => by
        have := room_small zs 15 (Nat.le_refl _) h0 (by omega)
        omega
      have hs : ∀ k, 1 ≤ k → k ≤ 15 → nsum zs k = cnt zs 1 + (nsum zs k - cnt zs 1) ∧ cnt zs 1 ≤ nsum zs k := fun k h3 _ => by
        have := nsum_le zs 0 k (by omega)
        rw [Nat.zero_add] at this
        omega
      have hle := nsum_le zs 0 15 (by omega)
      rw [Nat.zero_add] at hle
      have two : ∀ (k i : Nat), 0 < i → i < k → cnt zs 1 + cnt zs (i + 1) ≤ nsum zs k := by
        intro k
        induction k with
        | zero => intro i _ h; omega
        | succ k ih =>
          intro i h3 h4
          rw [nsum]
          by_cases e : i = k
          · subst e
            have := nsum_le zs 0 i h3
            rw [Nat.zero_add] at this
            omega
          · have := ih i h3 (by omega); omega
      refine sameTab_of zs [1] (fun i hi => ?_)
      by_cases h0 : i = 0
      · subst h0
        have : cnt [1] (0 + 1) = 1 := by decide
        rw [this, Nat.zero_add]
        omega
      · have := two 15 i (by omega) hi
        have e : cnt [1] (i + 1) = 0 := by
          simp only [cnt, List.countP_cons, List.countP_nil, beq_iff_eq]
          rw [if_neg (by omega)]
        rw [e]
        omega
  rw [rightB, e1, e2]
end Go.Proofs.Ytiakploggmmklaa
