/- Packages of coins, merged: what is taken of a row is taken of the rows before (pure). -/
import Derived.Test.YtiakploggmmklaaSpd
namespace Go.Proofs.Ytiakploggmmklaa

def wsum (l : List Coin) : Int := (l.map (·.1)).sum
def SC (l : List Coin) : Prop := l.Pairwise (fun a b => a.1 ≤ b.1)
theorem wsum_append (a b : List Coin) : wsum (a ++ b) = wsum a + wsum b := by simp [wsum]
theorem sum_perm {a b : List Int} (h : a.Perm b) : a.sum = b.sum := by
  induction h with
  | nil => rfl
  | cons x _ ih => rw [List.sum_cons, List.sum_cons, ih]
  | swap x y l => simp only [List.sum_cons]; omega
  | trans _ _ ih1 ih2 => exact ih1.trans ih2
theorem wsum_perm {a b : List Coin} (h : a.Perm b) : wsum a = wsum b := sum_perm (h.map _)
theorem SC.at {l : List Coin} (h : SC l) {i j : Nat} (hi : i ≤ j) (hj : j < l.length) : (l[i]'(by omega)).1 ≤ l[j].1 := by
  by_cases e : i = j
  · subst e; exact Int.le_refl _
  · exact List.pairwise_iff_getElem.1 h i j (by omega) hj (by omega)

theorem merge_take : ∀ (a b : List Coin), SC a → ∀ t, t ≤ a.length + b.length → ∃ x y, x + y = t ∧ x ≤ a.length ∧ y ≤ b.length ∧ ((mergeL a b).take t).Perm (a.take x ++ b.take y) ∧ ∀ i j (hi : i < a.length) (hj : j < b.length), j < y → a[i].1 ≤ b[j].1 → i < x
  | [], b, _, t, ht => ⟨0, t, by omega, by simp, by simpa using ht, by rw [mergeL_nil]; simp, fun i j hi => by simp at hi⟩
  | x :: a, [], _, t, ht => ⟨t, 0, by omega, by simpa using ht, by simp, by rw [mergeL_nil']; simp, fun i j hi hj => by simp at hj⟩
  | x :: a, y :: b, hs, 0, ht => ⟨0, 0, rfl, by simp, by simp, by simp, fun i j _ _ h => by omega⟩
  | x :: a, y :: b, hs, t + 1, ht => by
    by_cases c : x.1 ≤ y.1
    · obtain ⟨p, q, h1, h2, h3, h4, h5⟩ := merge_take a (y :: b) (List.Pairwise.of_cons hs) t (by simp at ht ⊢; omega)
      refine ⟨p + 1, q, by omega, by simp; omega, h3, ?_, fun i j hi hj hjq hle => ?_⟩
      · rw [mergeL, if_pos c, List.take_succ_cons, List.take_succ_cons]
        exact h4.cons _
      · cases i with
        | zero => omega
        | succ i => have := h5 i j (by simpa using hi) hj hjq (by simpa using hle); omega
    · obtain ⟨p, q, h1, h2, h3, h4, h5⟩ := merge_take (x :: a) b hs t (by simp at ht ⊢; omega)
      refine ⟨p, q + 1, by omega, h2, by simp; omega, ?_, fun i j hi hj hjq hle => ?_⟩
      · rw [mergeL, if_neg c, List.take_succ_cons, List.take_succ_cons]
        exact (h4.cons y).trans List.perm_middle.symm
      · cases j with
        | zero =>
          exfalso
          have := SC.at hs (Nat.zero_le i) hi
          simp only [List.getElem_cons_zero] at this hle
          omega
        | succ j => exact h5 i j hi (by simpa using hj) (by omega) (by simpa using hle)
termination_by a b => a.length + b.length
theorem merge_sorted : ∀ (a b : List Coin), SC a → SC b → SC (mergeL a b)
  | [], b, _, hb => by rw [mergeL_nil]; exact hb
  | x :: a, [], ha, _ => by rw [mergeL_nil']; exact ha
  | x :: a, y :: b, ha, hb => by
    rw [mergeL]
    split
    · rename_i c
      refine List.pairwise_cons.2 ⟨fun z hz => ?_, merge_sorted a (y :: b) (List.Pairwise.of_cons ha) hb⟩
      rcases mergeL_mem _ _ _ hz with h | h
      · exact List.rel_of_pairwise_cons ha h
      · rcases List.mem_cons.1 h with rfl | h
        · exact c
        · have := List.rel_of_pairwise_cons hb h; omega
    · rename_i c
      refine List.pairwise_cons.2 ⟨fun z hz => ?_, merge_sorted (x :: a) b ha (List.Pairwise.of_cons hb)⟩
      rcases mergeL_mem _ _ _ hz with h | h
      · rcases List.mem_cons.1 h with rfl | h
        · omega
        · have := List.rel_of_pairwise_cons ha h; omega
      · exact List.rel_of_pairwise_cons hb h
termination_by a b => a.length + b.length
theorem pairs_get (r : List Coin) (j : Nat) (hj : j < (pairsL r).length) : (pairsL r)[j] = pairF r j := by simp [pairsL, upto]
theorem pairF_eq (r : List Coin) (j : Nat) (hj : 2 * j + 1 < r.length) : pairF r j = ((r[2 * j]'(by omega)).1 + r[2 * j + 1].1, false) := by
  unfold pairF
  rw [List.getElem?_eq_getElem (by omega), List.getElem?_eq_getElem hj]
  rfl
theorem pairs_sorted {r : List Coin} (h : SC r) : SC (pairsL r) := by
  refine List.pairwise_iff_getElem.2 (fun i j hi hj hij => ?_)
  have hl := pairsL_length r
  rw [pairs_get, pairs_get, pairF_eq r i (by omega), pairF_eq r j (by omega)]
  have h1 := h.at (i := 2 * i) (j := 2 * j) (by omega) (by omega)
  have h2 := h.at (i := 2 * i + 1) (j := 2 * j + 1) (by omega) (by omega)
  show _ + _ ≤ _ + _
  omega
theorem row_sorted {sl : List Coin} (h : SC sl) : ∀ k, SC (rowN sl k)
  | 0 => h
  | k + 1 => merge_sorted _ _ h (pairs_sorted (row_sorted h k))
theorem row_len (sl : List Coin) (k : Nat) : (rowN sl (k + 1)).length = sl.length + (rowN sl k).length / 2 := by
  rw [rowN, mergeL_length, pairsL_length]
theorem pairs_sum (r : List Coin) : ∀ y, 2 * y ≤ r.length → wsum ((pairsL r).take y) = wsum (r.take (2 * y))
  | 0, _ => rfl
  | y + 1, h => by
    have hl := pairsL_length r
    have ih := pairs_sum r y (by omega)
    rw [List.take_succ_eq_append_getElem (by omega), wsum_append, ih, pairs_get, pairF_eq r y (by omega), show 2 * (y + 1) = 2 * y + 1 + 1 by omega, List.take_succ_eq_append_getElem (by omega), List.take_succ_eq_append_getElem (by omega), wsum_append, wsum_append]
    simp [wsum]
    omega
theorem pairs_two (r : List Coin) : ∀ c ∈ pairsL r, c.2 = false := by
  intro c hc
  unfold pairsL upto at hc
  obtain ⟨j, _, rfl⟩ := List.mem_map.1 hc
  rfl

/-- All singles, by weight, none below 0. -/
structure Sing (sl : List Coin) : Prop where
  srt : SC sl
  one : ∀ c ∈ sl, c.2 = true
  pos : ∀ c ∈ sl, 0 ≤ c.1
theorem row_pos {sl : List Coin} (h : Sing sl) (k : Nat) : ∀ c ∈ rowN sl k, 0 ≤ c.1 := by
  induction k with
  | zero => exact h.pos
  | succ k ih =>
    intro c hc
    rcases mergeL_mem _ _ _ hc with h1 | h1
    · exact h.pos c h1
    · unfold pairsL upto at h1
      obtain ⟨j, hj, rfl⟩ := List.mem_map.1 h1
      have hj' : j < (rowN sl k).length / 2 := by simpa using hj
      rw [pairF_eq _ j (by omega)]
      have a1 := ih _ (List.getElem_mem (show 2 * j < (rowN sl k).length by omega))
      have a2 := ih _ (List.getElem_mem (show 2 * j + 1 < (rowN sl k).length by omega))
      show 0 ≤ _ + _
      omega
def ones (l : List Coin) : Nat := l.countP (·.2)
theorem ones_all {l : List Coin} (h : ∀ c ∈ l, c.2 = true) : ones l = l.length := by
  unfold ones
  rw [List.countP_eq_length]
  exact h
theorem ones_none {l : List Coin} (h : ∀ c ∈ l, c.2 = false) : ones l = 0 := by
  unfold ones
  rw [List.countP_eq_zero]
  intro c hc
  rw [h c hc]
  simp

/-- What is taken of a row: singles from the front, and packages from the front. -/
structure Lvl (sl r : List Coin) (R : List Coin) (t s y : Nat) : Prop where
  sum : s + y = t
  sn : s ≤ sl.length
  yn : 2 * y ≤ r.length
  cnt : ones (R.take t) = s
  wt : wsum (R.take t) = wsum (sl.take s) + wsum (r.take (2 * y))
  mono : ∀ y0, y0 ≤ y → ones (r.take (2 * y0)) ≤ s
theorem ones_row {sl : List Coin} (h : Sing sl) (k t : Nat) (ht : t ≤ (rowN sl k).length) : ∃ x, ones ((rowN sl k).take t) = x ∧ x ≤ sl.length ∧ ∀ i (hi : i < sl.length), i < x → sl[i] ∈ (rowN sl k).take t := by
  cases k with
  | zero =>
    refine ⟨t, ?_, ht, fun i hi hx => ?_⟩
    · rw [rowN, ones_all (fun c hc => h.one c (List.mem_of_mem_take hc)), List.length_take]
      exact Nat.min_eq_left ht
    · rw [List.mem_take_iff_getElem]
      exact ⟨i, by rw [rowN]; omega, rfl⟩
  | succ k =>
    obtain ⟨x, y, h1, h2, h3, h4, _⟩ := merge_take sl (pairsL (rowN sl k)) h.srt t (by rw [← mergeL_length]; exact ht)
    refine ⟨x, ?_, h2, fun i hi hx => ?_⟩
    · unfold ones
      rw [rowN, h4.countP_eq, List.countP_append]
      have a1 := ones_all (l := sl.take x) (fun c hc => h.one c (List.mem_of_mem_take hc))
      have a2 := ones_none (l := (pairsL (rowN sl k)).take y) (fun c hc => pairs_two _ c (List.mem_of_mem_take hc))
      unfold ones at a1 a2
      rw [a1, a2, List.length_take]
      omega
    · refine h4.mem_iff.2 (List.mem_append.2 (.inl ?_))
      rw [List.mem_take_iff_getElem]
      exact ⟨i, by omega, rfl⟩
theorem lvl {sl : List Coin} (h : Sing sl) (k t : Nat) (ht : t ≤ (rowN sl (k + 1)).length) : ∃ s y, Lvl sl (rowN sl k) (rowN sl (k + 1)) t s y := by
  obtain ⟨x, y, h1, h2, h3, h4, h5⟩ := merge_take sl (pairsL (rowN sl k)) h.srt t (by rw [← mergeL_length]; exact ht)
  have hl := pairsL_length (rowN sl k)
  refine ⟨x, y, h1, h2, by omega, ?_, ?_, fun y0 hy0 => ?_⟩
  · unfold ones
    rw [rowN, h4.countP_eq, List.countP_append]
    have a1 := ones_all (l := sl.take x) (fun c hc => h.one c (List.mem_of_mem_take hc))
    have a2 := ones_none (l := (pairsL (rowN sl k)).take y) (fun c hc => pairs_two _ c (List.mem_of_mem_take hc))
    unfold ones at a1 a2
    rw [a1, a2, List.length_take]
    omega
  · rw [rowN, wsum_perm h4, wsum_append, pairs_sum _ _ (by omega)]
  · obtain ⟨p, hp1, hp2, hp3⟩ := ones_row h k (2 * y0) (by omega)
    rw [hp1]
    rcases Nat.eq_zero_or_pos p with h0 | h0
    · omega
    · have hm := hp3 (p - 1) (by omega) (by omega)
      obtain ⟨q, hq, he⟩ := List.mem_take_iff_getElem.1 hm
      have hy0' : 0 < y0 := by omega
      have hq2 : q < 2 * y0 := by omega
      have s1 := (row_sorted h.srt k).at (i := q) (j := 2 * (y0 - 1) + 1) (by omega) (by omega)
      have p1 := row_pos h k _ (List.getElem_mem (show 2 * (y0 - 1) < (rowN sl k).length by omega))
      have := h5 (p - 1) (y0 - 1) (by omega) (by omega) (by omega) (by
        rw [pairs_get, pairF_eq _ _ (by omega), ← he]
        show _ ≤ _ + _
        omega)
      omega
theorem row_long (sl : List Coin) : ∀ k c, 1 ≤ c → sl.length ≤ c * 2 ^ k → 2 * sl.length ≤ (rowN sl k).length + c
  | 0, c, _, h => by rw [rowN]; simp at h; omega
  | k + 1, c, hc, h => by
    have := row_long sl k (2 * c) (by omega) (by rw [Nat.pow_succ] at h; rw [Nat.mul_comm 2 c, Nat.mul_assoc, Nat.mul_comm 2]; exact h)
    rw [row_len]
    omega
theorem row_all {sl : List Coin} (h : Sing sl) (h2 : 2 ≤ sl.length) : ∀ k, 2 * sl.length - 2 ≤ (rowN sl k).length → ones ((rowN sl k).take (2 * sl.length - 2)) = sl.length
  | 0, hk => by
    rw [rowN] at hk ⊢
    rw [List.take_of_length_le (by omega), ones_all h.one]
  | k + 1, hk => by
    obtain ⟨s, y, L⟩ := lvl h k _ hk
    rw [L.cnt]
    have a := L.sum
    have b := L.sn
    have c := L.yn
    by_cases e : s = sl.length
    · exact e
    · exfalso
      have ih := row_all h h2 k (by omega)
      have m := L.mono (sl.length - 1) (by omega)
      rw [show 2 * (sl.length - 1) = 2 * sl.length - 2 by omega, ih] at m
      omega
end Go.Proofs.Ytiakploggmmklaa
