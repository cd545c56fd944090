import Derived.Test.YtgihginfegckcaaGreatDoorLal
/- A blank behind a text changes nothing ahead of it (pure). -/
namespace Go.Proofs.YtgihginfegckcaaGreatDoor
open Go.RowKit

theorem pre_loc : ∀ (m x y : List UInt8), (∀ b ∈ m, b ≠ 32) → Lib.hasPrefix (x ++ 32 :: y) m = Lib.hasPrefix x m
  | [], x, y, _ => by simp [Lib.hasPrefix]
  | a :: m, [], y, h => by
    have : (a == 32) = false := beq_eq_false_iff_ne.2 (h a (by simp))
    simp [Lib.hasPrefix, List.isPrefixOf, this]
  | a :: m, c :: x, y, h => by
    have ih := pre_loc m x y (fun b hb => h b (by simp [hb]))
    unfold Lib.hasPrefix at ih ⊢
    rw [List.cons_append]
    show ((a == c) && m.isPrefixOf (x ++ 32 :: y)) = ((a == c) && m.isPrefixOf x)
    rw [ih]
theorem trim_loc (m x y : List UInt8) (h : ∀ b ∈ m, b ≠ 32) : Lib.trimPrefix (x ++ 32 :: y) m = Lib.trimPrefix x m ++ 32 :: y := by
  unfold Lib.trimPrefix
  rw [pre_loc m x y h]
  split
  · rename_i hp
    rw [List.drop_append_of_le_length (pre_len hp)]
  · rfl
theorem ahead_loc (cs : List UInt8) (hc : cs.contains 32 = false) : ∀ (x y : List UInt8), aheadL (x ++ 32 :: y) cs = aheadL x cs ∧ behindL (x ++ 32 :: y) cs = behindL x cs ++ 32 :: y
  | [], y => by
    unfold aheadL behindL
    rw [List.nil_append, List.takeWhile_cons, List.dropWhile_cons, hc]
    simp
  | a :: x, y => by
    have ih := ahead_loc cs hc x y
    unfold aheadL behindL at ih ⊢
    rw [List.cons_append, List.takeWhile_cons, List.dropWhile_cons, List.takeWhile_cons, List.dropWhile_cons]
    split
    · exact ⟨by rw [ih.1], ih.2⟩
    · exact ⟨rfl, rfl⟩
theorem past_loc (x o y : List UInt8) : pastD (x ++ 32 :: y) (o ++ 32 :: y) = pastD x o ++ 32 :: y := by
  unfold pastD
  rw [(ahead_loc digL (by decide) x y).1, (ahead_loc digL (by decide) x y).2]
  split <;> rfl
theorem cut_loc (cs : List UInt8) (hc : cs.contains 32 = false) (x y : List UInt8) : cutO (x ++ 32 :: y) cs = ((cutO x cs).1 ++ 32 :: y, (cutO x cs).2) := by
  cases x with
  | nil => rw [List.nil_append]; simp only [cutO, hc, Bool.false_eq_true, if_false, List.nil_append]
  | cons a x =>
    rw [List.cons_append]
    simp only [cutO]
    split <;> rfl
theorem num_loc (x y : List UInt8) : numC (x ++ 32 :: y) = numC x ++ 32 :: y := by
  have hA : numA (x ++ 32 :: y) = numA x ++ 32 :: y := past_loc x x y
  have hB : numB (x ++ 32 :: y) = numB x ++ 32 :: y := by
    unfold numB
    rw [hA, cut_loc [46] (by decide)]
    simp only
    split
    · exact past_loc _ _ _
    · rfl
  unfold numC
  rw [hB, cut_loc [69, 101] (by decide)]
  simp only
  split
  · rw [cut_loc [43, 45] (by decide)]
    exact past_loc _ _ _
  · rfl
theorem numN_loc (x y : List UInt8) : numN (x ++ 32 :: y) = numN x := by
  unfold numN
  rw [num_loc]
  simp only [List.length_append]
  omega
theorem qEnd_loc (c : UInt8) (hc : c ≠ 32) (y : List UInt8) : ∀ (n : Nat) (x : List UInt8), x.length ≤ n → ∀ k, qEnd c x = some k → qEnd c (x ++ 32 :: y) = some k
  | 0, x, hn, k, h => by
    have : x = [] := List.eq_nil_of_length_eq_zero (by omega)
    subst this
    simp [qEnd] at h
  | n + 1, [], _, k, h => by simp [qEnd] at h
  | n + 1, a :: x, hn, k, h => by
    by_cases e : a = c
    · subst e
      cases x with
      | nil =>
        rw [qEnd_end (by intro b r' h; cases h)] at h
        rw [List.cons_append, List.nil_append, qEnd_end (by intro b r' h; cases h; exact Ne.symm hc)]
        exact h
      | cons b x =>
        by_cases e2 : b = a
        · subst e2
          rw [qEnd_two] at h
          obtain ⟨j, hj, rfl⟩ := Option.map_eq_some_iff.1 h
          rw [List.cons_append, List.cons_append, qEnd_two, qEnd_loc b hc y n x (by simp at hn; omega) j hj]
          rfl
        · rw [qEnd_end (by intro x y h; cases h; exact e2)] at h
          rw [List.cons_append, List.cons_append, qEnd_end (by intro x y h; cases h; exact e2)]
          exact h
    · rw [qEnd_other e] at h
      obtain ⟨j, hj, rfl⟩ := Option.map_eq_some_iff.1 h
      rw [List.cons_append, qEnd_other e, qEnd_loc c hc y n x (by simp at hn; omega) j hj]
      rfl
theorem quoted_loc (a : UInt8) (x y : List UInt8) (ha : a ≠ 32) (h : quotedN (a :: x) ≠ 0) : quotedN (a :: x ++ 32 :: y) = quotedN (a :: x) := by
  unfold quotedN at h ⊢
  rw [List.cons_append]
  simp only at h ⊢
  cases hq : qEnd a x with
  | none => rw [hq] at h; exact absurd rfl h
  | some k => rw [qEnd_loc a ha y x.length x (Nat.le_refl _) k hq]
theorem take_loc (x y : List UInt8) (n : Nat) (h : n ≤ x.length) : (x ++ 32 :: y).take n = x.take n := by
  rw [List.take_append_of_le_length h]
theorem sheet_loc (x y : List UInt8) (n : Nat) (hn : n ≤ x.length) (h : (onSheetR x n).2.2 = 0) : onSheetR (x ++ 32 :: y) n = onSheetR x n := by
  have hadv := onSheetR_adv hn h
  unfold onSheetR at h hadv ⊢
  have hd : (x ++ 32 :: y).drop n = x.drop n ++ 32 :: y := List.drop_append_of_le_length hn
  have hs : shN (x ++ 32 :: y) n = shN x n := by
    unfold shN
    rw [hd, trim_loc [33] _ _ (by decide), (ahead_loc plcL (by decide) _ _).1]
  rw [hd, pre_loc [33] _ _ (by decide), hs]
  cases hp : Lib.hasPrefix (x.drop n) [33]
  · rfl
  · rw [hp] at hadv
    simp only [if_true] at hadv ⊢
    rw [take_loc x y _ hadv.2]
end Go.Proofs.YtgihginfegckcaaGreatDoor
