/- The document's sorted: coins by how often, put in one by one (pure), and coins of two cells in memory. -/
import Derived.Test.YtiakploggmmklaaLen
import Derived.Test.YtiakploggmmklaaPmg
namespace Go.Proofs.Ytiakploggmmklaa
open Go.RowKit

/-- A coin: how often, and the symbols that go together. -/
abbrev CP := Int × Value
def cellsP (l : List CP) : List Value := l.flatMap fun c => [.int .i64 c.1, c.2]
theorem cellsP_append (a b : List CP) : cellsP (a ++ b) = cellsP a ++ cellsP b := by simp [cellsP]
theorem cellsP_length (l : List CP) : (cellsP l).length = l.length * 2 := by
  induction l with
  | nil => rfl
  | cons c l ih => show (([.int .i64 c.1, c.2] : List Value) ++ cellsP l).length = _; rw [List.length_append, ih]; simp; omega
theorem cellsP_at (l : List CP) : ∀ (j : Nat) (h : j < l.length), (cellsP l)[2 * j]? = some (.int .i64 l[j].1) ∧ (cellsP l)[2 * j + 1]? = some l[j].2 := by
  induction l with
  | nil => intro j h; simp at h
  | cons c l ih =>
    intro j h
    show (([.int .i64 c.1, c.2] : List Value) ++ cellsP l)[2 * j]? = _ ∧ (([.int .i64 c.1, c.2] : List Value) ++ cellsP l)[2 * j + 1]? = _
    cases j with
    | zero => exact ⟨rfl, rfl⟩
    | succ j =>
      have := ih j (by simpa using h)
      rw [List.getElem?_append_right (by simp; omega), List.getElem?_append_right (by simp; omega)]
      simp only [List.length_cons, List.length_nil, List.getElem_cons_succ]
      rw [show 2 * (j + 1) - (0 + 1 + 1) = 2 * j by omega, show 2 * (j + 1) + 1 - (0 + 1 + 1) = 2 * j + 1 by omega]
      exact this
theorem cellsP_take (l : List CP) (k : Nat) : cellsP (l.take k) = (cellsP l).take (2 * k) := by
  induction l generalizing k with
  | nil => simp [cellsP]
  | cons c l ih =>
    cases k with
    | zero => simp [cellsP]
    | succ k =>
      show .int .i64 c.1 :: c.2 :: cellsP (l.take k) = (.int .i64 c.1 :: c.2 :: cellsP l).take (2 * (k + 1))
      rw [show 2 * (k + 1) = 2 * k + 1 + 1 by omega, List.take_succ_cons, List.take_succ_cons, ih]
theorem cellsP_drop (l : List CP) (k : Nat) : cellsP (l.drop k) = (cellsP l).drop (2 * k) := by
  have h := cellsP_append (l.take k) (l.drop k)
  rw [List.take_append_drop, cellsP_take] at h
  have h2 := List.take_append_drop (2 * k) (cellsP l)
  conv at h2 => rhs; rw [h]
  exact (List.append_cancel_left h2).symm

/-- Where a coin is put in. -/
def posK (l : List CP) (f : Int) : Nat → Nat
  | 0 => 0
  | k + 1 => if f < (l[k]?.getD (0, undef)).1 then posK l f k else k + 1
def insC (l : List CP) (c : CP) : List CP := l.take (posK l c.1 l.length) ++ c :: l.drop (posK l c.1 l.length)
def srtL (l : List CP) : List CP := l.foldl insC []
theorem posK_le (l : List CP) (f : Int) : ∀ k, posK l f k ≤ k
  | 0 => Nat.le_refl _
  | k + 1 => by
    rw [posK]
    split
    · have := posK_le l f k; omega
    · exact Nat.le_refl _
def SP (l : List CP) : Prop := l.Pairwise (fun a b => a.1 ≤ b.1)
theorem insC_perm (l : List CP) (c : CP) : (insC l c).Perm (c :: l) := by
  unfold insC
  refine List.perm_middle.trans (List.Perm.cons c ?_)
  rw [List.take_append_drop]
theorem posK_hi (l : List CP) (f : Int) : ∀ k j (hj : j < l.length), posK l f k ≤ j → j < k → f < l[j].1
  | 0, j, _, _, h => by omega
  | k + 1, j, hj, h1, h2 => by
    rw [posK] at h1
    split at h1
    · rename_i c
      by_cases e : j = k
      · subst e
        rw [List.getElem?_eq_getElem hj] at c
        exact c
      · exact posK_hi l f k j hj h1 (by omega)
    · omega
theorem posK_lo (l : List CP) (f : Int) : ∀ k (hk : k ≤ l.length), (h : 0 < posK l f k) → (l[posK l f k - 1]'(by have := posK_le l f k; omega)).1 ≤ f
  | 0, _, h => by simp [posK] at h
  | k + 1, hk, h => by
    by_cases c : f < (l[k]?.getD (0, undef)).1
    · have e : posK l f (k + 1) = posK l f k := by rw [posK, if_pos c]
      have ih := posK_lo l f k (by omega) (by rw [← e]; exact h)
      simp only [e]
      exact ih
    · have e : posK l f (k + 1) = k + 1 := by rw [posK, if_neg c]
      simp only [e, Nat.add_sub_cancel]
      rw [List.getElem?_eq_getElem (by omega)] at c
      have : ¬ f < (l[k]'(by omega)).1 := c
      omega
theorem insC_sorted {l : List CP} (h : SP l) (c : CP) : SP (insC l c) := by
  have hp := posK_le l c.1 l.length
  have hg := List.pairwise_iff_getElem.1 h
  have hlow : ∀ i (hi : i < l.length), i < posK l c.1 l.length → l[i].1 ≤ c.1 := fun i hi h1 => by
    have a := posK_lo l c.1 l.length (Nat.le_refl _) (by omega)
    by_cases e : i = posK l c.1 l.length - 1
    · subst e; exact a
    · have := hg i (posK l c.1 l.length - 1) hi (by omega) (by omega)
      omega
  have hhi : ∀ i (hi : i < l.length), posK l c.1 l.length ≤ i → c.1 < l[i].1 := fun i hi h1 => posK_hi l c.1 l.length i hi h1 hi
  unfold insC
  generalize posK l c.1 l.length = p at hp hlow hhi
  refine List.pairwise_append.2 ⟨h.sublist (List.take_sublist _ _), List.pairwise_cons.2 ⟨fun b hb => ?_, h.sublist (List.drop_sublist _ _)⟩, fun a ha b hb => ?_⟩
  · obtain ⟨j, hj, rfl⟩ := List.mem_drop_iff_getElem.1 hb
    have := hhi (p + j) (by omega) (by omega)
    omega
  · obtain ⟨i, hi, rfl⟩ := List.mem_take_iff_getElem.1 ha
    have h1 := hlow i (by omega) (by omega)
    rcases List.mem_cons.1 hb with rfl | hb
    · exact h1
    · obtain ⟨j, hj, rfl⟩ := List.mem_drop_iff_getElem.1 hb
      have := hhi (p + j) (by omega) (by omega)
      omega
theorem srt_fold : ∀ (l o : List CP), SP o → SP (l.foldl insC o) ∧ (l.foldl insC o).Perm (o ++ l)
  | [], o, h => ⟨h, by simp⟩
  | c :: l, o, h => by
    obtain ⟨h1, h2⟩ := srt_fold l (insC o c) (insC_sorted h c)
    refine ⟨h1, h2.trans ?_⟩
    exact ((insC_perm o c).append_right l).trans (List.perm_middle (l₁ := o) (l₂ := l) (a := c)).symm
theorem srtL_ok (l : List CP) : SP (srtL l) ∧ (srtL l).Perm l := by
  exact srt_fold l [] List.Pairwise.nil
theorem srtL_take (l : List CP) (k : Nat) (hk : k < l.length) : srtL (l.take (k + 1)) = insC (srtL (l.take k)) l[k] := by
  unfold srtL
  rw [List.take_succ_eq_append_getElem hk, List.foldl_append]
  rfl

/-- Two sorted lists of the same numbers are one. -/
theorem sorted_unique : ∀ (a b : List Int), a.Pairwise (· ≤ ·) → b.Pairwise (· ≤ ·) → a.Perm b → a = b
  | [], b, _, _, h => (List.perm_nil.1 h.symm).symm ▸ rfl
  | x :: a, b, ha, hb, h => by
    cases b with
    | nil => exact absurd (List.perm_nil.1 h) (by simp)
    | cons y b =>
      have h1 : x = y := by
        have m1 : x ∈ y :: b := h.mem_iff.1 (by simp)
        have m2 : y ∈ x :: a := h.mem_iff.2 (by simp)
        have p1 : y ≤ x := by
          rcases List.mem_cons.1 m1 with e | e
          · omega
          · exact List.rel_of_pairwise_cons hb e
        have p2 : x ≤ y := by
          rcases List.mem_cons.1 m2 with e | e
          · omega
          · exact List.rel_of_pairwise_cons ha e
        omega
      subst h1
      rw [sorted_unique a b (List.Pairwise.of_cons ha) (List.Pairwise.of_cons hb) (List.Perm.cons_inv h)]
end Go.Proofs.Ytiakploggmmklaa
