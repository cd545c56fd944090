import Derived.Test.YtgihginfegckcaaGreatDoorLal
import Derived.Lib.CountLaws
import Derived.Lib.ReplaceLaws
/- Texts between quotes, there and back (pure). -/
namespace Go.Proofs.YtgihginfegckcaaGreatDoor
open Go.RowKit

/-- Each quote twice. -/
def dblq : List UInt8 → List UInt8
  | [] => []
  | b :: r => if b = 34 then 34 :: 34 :: dblq r else b :: dblq r
theorem ra_miss {s old new : List UInt8} (h : Lib.index s old = -1) : Lib.replaceAll s old new = s := by
  unfold Lib.replaceAll Lib.replace
  split
  · rfl
  · have : Lib.replaceNum s old (-1) = 0 := by unfold Lib.replaceNum; rw [if_pos (by omega), Lib.count_miss h]
    rw [this]; rfl
theorem ra_hit {s old new : List UInt8} {i : Nat} (h1 : old ≠ []) (hne : (old == new) = false) (h : Lib.index s old = i) : Lib.replaceAll s old new = s.take i ++ new ++ Lib.replaceAll (s.drop (i + old.length)) old new := by
  unfold Lib.replaceAll Lib.replace
  rw [hne]
  simp only [Bool.false_eq_true, if_false]
  have e1 : ∀ t, Lib.replaceNum t old (-1) = Lib.count t old := fun t => by unfold Lib.replaceNum; rw [if_pos (by omega)]
  rw [e1, e1, Lib.count_hit h1 h, Nat.add_comm, Lib.replaceK_hit _ _ _ _ i h]
theorem dblq_app (p : List UInt8) (r : List UInt8) (hp : ∀ b ∈ p, b ≠ 34) : dblq (p ++ r) = p ++ dblq r := by
  induction p with
  | nil => rfl
  | cons a p ih =>
    rw [List.cons_append, dblq, if_neg (hp a (by simp)), ih (fun b hb => hp b (by simp [hb]))]
    rfl
theorem split34 (s : List UInt8) : (∀ b ∈ s, b ≠ 34) ∨ ∃ p r, s = p ++ 34 :: r ∧ ∀ b ∈ p, b ≠ 34 := by
  induction s with
  | nil => left; simp
  | cons a s ih =>
    by_cases h : a = 34
    · right; exact ⟨[], s, by rw [h]; rfl, by simp⟩
    · rcases ih with h2 | ⟨p, r, rfl, h2⟩
      · left; intro b hb; rcases List.mem_cons.1 hb with rfl | hb
        · exact h
        · exact h2 b hb
      · right; exact ⟨a :: p, r, rfl, fun b hb => by
          rcases List.mem_cons.1 hb with rfl | hb
          · exact h
          · exact h2 b hb⟩
theorem occ_no {s sub : List UInt8} {c : UInt8} (h : ∀ b ∈ s, b ≠ c) (j : Nat) : Lib.occAt s (c :: sub) j = false := by
  unfold Lib.occAt
  cases hd : s.drop j with
  | nil => rfl
  | cons a r =>
    have ha : a ∈ s := List.mem_of_mem_drop (by rw [hd]; simp)
    have : (c == a) = false := beq_eq_false_iff_ne.2 (Ne.symm (h a ha))
    simp [List.isPrefixOf, this]
theorem occ_ahead {p r sub : List UInt8} {c : UInt8} (h : ∀ b ∈ p, b ≠ c) (j : Nat) (hj : j < p.length) : Lib.occAt (p ++ r) (c :: sub) j = false := by
  unfold Lib.occAt
  rw [List.drop_append_of_le_length (by omega), List.drop_eq_getElem_cons hj]
  have : (c == p[j]) = false := beq_eq_false_iff_ne.2 (Ne.symm (h p[j] (List.getElem_mem hj)))
  show ((c == p[j]) && _) = false
  rw [this]
  rfl
theorem idx_none {s sub : List UInt8} (h : ∀ b ∈ s, b ≠ 34) : Lib.index s (34 :: sub) = -1 := Lib.index_none (fun j _ => occ_no h j)
theorem idx_at {p r sub : List UInt8} (h : ∀ b ∈ p, b ≠ 34) (hr : (34 :: sub).isPrefixOf r = true) : Lib.index (p ++ r) (34 :: sub) = (p.length : Nat) := by
  refine Lib.index_first (by simp) ?_ (fun j hj => occ_ahead h j hj)
  unfold Lib.occAt
  simpa using hr
theorem dblq_no {s : List UInt8} (h : ∀ b ∈ s, b ≠ 34) : dblq s = s := by
  have := dblq_app s [] h
  simpa [dblq] using this
/-- Quotes are put in twice. -/
theorem ra_dbl : ∀ (n : Nat) (s : List UInt8), s.length ≤ n → Lib.replaceAll s [34] [34, 34] = dblq s
  | n, s, hn => by
    rcases split34 s with h | ⟨p, r, rfl, h⟩
    · rw [ra_miss (idx_none h), dblq_no h]
    · cases n with
      | zero => simp at hn
      | succ n =>
        rw [ra_hit (by simp) rfl (idx_at (r := 34 :: r) h rfl), dblq_app p _ h]
        have e : (p ++ 34 :: r).drop (p.length + ([34] : List UInt8).length) = r := by simp
        rw [e, ra_dbl n r (by simp at hn; omega)]
        simp [dblq]
/-- And taken out again. -/
theorem ra_und : ∀ (n : Nat) (s : List UInt8), s.length ≤ n → Lib.replaceAll (dblq s) [34, 34] [34] = s
  | n, s, hn => by
    rcases split34 s with h | ⟨p, r, rfl, h⟩
    · rw [dblq_no h, ra_miss (idx_none h)]
    · cases n with
      | zero => simp at hn
      | succ n =>
        have e0 : dblq (34 :: r) = 34 :: 34 :: dblq r := by simp [dblq]
        rw [dblq_app p _ h, e0, ra_hit (by simp) rfl (idx_at (r := 34 :: 34 :: dblq r) h rfl)]
        have e : (p ++ 34 :: 34 :: dblq r).drop (p.length + ([34, 34] : List UInt8).length) = dblq r := by simp
        rw [e, ra_und n r (by simp at hn; omega)]
        simp
theorem qEnd_dbl : ∀ (s : List UInt8), qEnd 34 (dblq s ++ [34]) = some ((dblq s).length + 1)
  | [] => by rw [show dblq [] ++ [34] = ([34] : List UInt8) from rfl, qEnd_end (by intro b r h; cases h)]; rfl
  | b :: s => by
    by_cases h : b = 34
    · have e : dblq (b :: s) = 34 :: 34 :: dblq s := by simp [dblq, h]
      rw [e, List.cons_append, List.cons_append, qEnd_two, qEnd_dbl s]
      simp
    · have e : dblq (b :: s) = b :: dblq s := by simp [dblq, h]
      rw [e, List.cons_append, qEnd_other h, qEnd_dbl s]
      simp
/-- How a text is quoted. -/
def quoteQ (s : List UInt8) : List UInt8 := 34 :: (dblq s ++ [34])
theorem dblq_len (s : List UInt8) : s.length ≤ (dblq s).length ∧ (dblq s).length ≤ 2 * s.length := by
  induction s with
  | nil => simp [dblq]
  | cons b s ih => unfold dblq; split <;> simp <;> omega
theorem lex_quote (s : List UInt8) : lexR (quoteQ s) = if 512 < (quoteQ s).length ∨ 255 < s.length then ([], 0, 3) else if xmlL (natsOf (bs s)) = true then ([⟨2, 0, s, 0, 0, Rf.zero⟩], 0, 0) else ([], 0, 20) := by
  have hq : quotedN (quoteQ s) = (quoteQ s).length := by
    unfold quoteQ quotedN
    simp only [qEnd_dbl]
    simp
  have hlen : (quoteQ s).length = (dblq s).length + 2 := by simp [quoteQ]
  have hin : innerL (quoteQ s) = s := by
    unfold innerL
    rw [hq, hlen]
    have : ((quoteQ s).take ((dblq s).length + 2 - 1)).drop 1 = dblq s := by
      unfold quoteQ
      rw [List.drop_take]
      simp
    rw [this]
    exact ra_und s.length s (Nat.le_refl _)
  have h1 : oneR (quoteQ s) = textR (quoteQ s) := by
    show oneR (34 :: (dblq s ++ [34])) = _
    unfold oneR
    simp only
    rw [if_neg (by decide), if_pos (c := True) trivial]
    rfl
  have h2 : textR (quoteQ s) = if 255 < s.length then (Tk.zero, 0, 3) else (⟨2, 0, s, 0, 0, Rf.zero⟩, (quoteQ s).length, errX (xmlL (natsOf (bs s)))) := by
    unfold textR
    rw [hq, if_neg (by omega), hin]
  unfold lexR
  by_cases h5 : 512 < (quoteQ s).length
  · rw [if_pos h5, if_pos (.inl h5)]
  · rw [if_neg h5]
    have hc : quoteQ s = 34 :: (dblq s ++ [34]) := rfl
    by_cases h25 : 255 < s.length
    · rw [if_pos (.inr h25)]
      have e2 : (oneR (34 :: (dblq s ++ [34]))).2.2 ≠ 0 := by rw [← hc, h1, h2, if_pos h25]; decide
      rw [hc, lexG_err (by decide) e2, ← hc, h1, h2, if_pos h25]
    · rw [if_neg (by omega)]
      rw [if_neg h25] at h2
      by_cases hx : xmlL (natsOf (bs s)) = true
      · rw [if_pos hx]
        rw [hx] at h2
        have e2 : (oneR (34 :: (dblq s ++ [34]))).2.2 = 0 := by rw [← hc, h1, h2]; rfl
        rw [show (quoteQ s).length + 1 = ((dblq s).length + 2) + 1 by omega, hc, lexG_tok (by decide) e2, ← hc, h1, h2]
        simp only
        rw [List.drop_eq_nil_of_le (Nat.le_refl _)]
        rfl
      · rw [if_neg hx]
        have hx' : xmlL (natsOf (bs s)) = false := by simpa using hx
        rw [hx'] at h2
        have e2 : (oneR (34 :: (dblq s ++ [34]))).2.2 ≠ 0 := by rw [← hc, h1, h2]; show (20 : Int) ≠ 0; decide
        rw [hc, lexG_err (by decide) e2, ← hc, h1, h2]
        rfl
end Go.Proofs.YtgihginfegckcaaGreatDoor
