/- Insertion sort sorts; what blocks become (pure). -/
import Derived.Test.YtiakploggmmklaaSym
namespace Go.Proofs.Ytiakploggmmklaa

theorem ltF_key (fs : List Int) (x y : Int) : ltF fs x y = decide (keyF fs x < keyF fs y) := by
  unfold ltF keyF cmpZ
  split
  · rename_i h; simp [h]
  · split
    · rename_i h h2; simp; omega
    · rename_i h h2; simp; omega
theorem swL_sw (l : List Int) (j : Nat) : swL l j = sw l (j + 1) j := rfl
/-- Sorted but for the element at j, which is at most what stands behind it. -/
structure InsSt (K : Int → Int) (a t j : Nat) (l : List Int) : Prop where
  pairs : ∀ x y, a ≤ x → x < y → y ≤ t → x ≠ j → y ≠ j → K (gt l x) ≤ K (gt l y)
  up : ∀ y, j < y → y ≤ t → K (gt l j) ≤ K (gt l y)
theorem insIn_ok (fs : List Int) (a t : Nat) : ∀ (j : Nat) (l : List Int), a ≤ j → j ≤ t → t < l.length → InsSt (keyF fs) a t j l → Seg a (t + 1) l (insIn (ltF fs) a j l) ∧ Srt (keyF fs) (insIn (ltF fs) a j l) a (t + 1)
  | 0, l, ha, hj, ht, h => by
    refine ⟨Seg.refl _ _ _, fun x y x1 x2 x3 => ?_⟩
    rw [insIn]
    by_cases e : x = y
    · rw [e]; omega
    · by_cases e0 : x = 0
      · rw [e0]
        exact h.up y (by omega) (by omega)
      · exact h.pairs x y x1 (by omega) (by omega) e0 (by omega)
  | j + 1, l, ha, hj, ht, h => by
    rw [insIn]
    split
    · rename_i hc
      have hlt : keyF fs (gt l (j + 1)) < keyF fs (gt l j) := by
        have := hc.2
        rw [ltF_key] at this
        exact of_decide_eq_true this
      have hg := gt_sw (l := l) (i := j + 1) (j := j) (by omega) (by omega)
      have hst : InsSt (keyF fs) a t j (swL l j) := by
        rw [swL_sw]
        refine ⟨fun x y x1 x2 x3 x4 x5 => ?_, fun y y1 y2 => ?_⟩
        · rw [hg x, hg y, if_neg x4, if_neg x5]
          by_cases e1 : x = j + 1
          · rw [if_pos e1, if_neg (by omega)]
            exact h.pairs j y (by omega) (by omega) x3 (by omega) (by omega)
          · rw [if_neg e1]
            by_cases e2 : y = j + 1
            · rw [if_pos e2]
              exact h.pairs x j x1 (by omega) (by omega) e1 (by omega)
            · rw [if_neg e2]
              exact h.pairs x y x1 x2 x3 e1 e2
        · rw [hg j, hg y, if_pos rfl, if_neg (by omega)]
          by_cases e1 : y = j + 1
          · rw [if_pos e1]
            omega
          · rw [if_neg e1]
            exact h.up y (by omega) y2
      obtain ⟨g1, g2⟩ := insIn_ok fs a t j (swL l j) (by omega) (by omega) (by rw [swL_length]; exact ht) hst
      refine ⟨Seg.trans ?_ g1, g2⟩
      rw [swL_sw]
      refine ⟨sw_perm (by omega) (by omega), fun k hk => by rw [hg k, if_neg (by omega), if_neg (by omega)], fun k k1 k2 => ?_⟩
      rw [hg k]
      split
      · exact ⟨j + 1, by omega, by omega, rfl⟩
      · split
        · exact ⟨j, by omega, by omega, rfl⟩
        · exact ⟨k, k1, k2, rfl⟩
    · rename_i hc
      refine ⟨Seg.refl _ _ _, fun x y x1 x2 x3 => ?_⟩
      have hge : a < j + 1 → keyF fs (gt l j) ≤ keyF fs (gt l (j + 1)) := fun h1 => by
        have : ¬ ltF fs (l[j + 1]?.getD 0) (l[j]?.getD 0) = true := fun h2 => hc ⟨h1, h2⟩
        rw [ltF_key] at this
        have : ¬ keyF fs (gt l (j + 1)) < keyF fs (gt l j) := fun h2 => this (decide_eq_true h2)
        omega
      by_cases e : x = y
      · rw [e]; omega
      · by_cases e0 : x = j + 1
        · rw [e0]
          exact h.up y (by omega) (by omega)
        · by_cases e1 : y = j + 1
          · rw [e1]
            have h1 := hge (by omega)
            by_cases e2 : x = j
            · rw [e2]; exact h1
            · have := h.pairs x j x1 (by omega) (by omega) e0 (by omega)
              omega
          · exact h.pairs x y x1 (by omega) (by omega) e0 e1
theorem insOut_ok (fs : List Int) (a : Nat) (l : List Int) : ∀ k, a + k < l.length → Seg a (a + k + 1) l (insOut (ltF fs) a l k) ∧ Srt (keyF fs) (insOut (ltF fs) a l k) a (a + k + 1)
  | 0, h => by
    refine ⟨Seg.refl _ _ _, fun x y x1 x2 x3 => ?_⟩
    obtain rfl : x = y := by omega
    exact Int.le_refl _
  | k + 1, h => by
    obtain ⟨g1, g2⟩ := insOut_ok fs a l k (by omega)
    have hst : InsSt (keyF fs) a (a + (k + 1)) (a + (k + 1)) (insOut (ltF fs) a l k) :=
      ⟨fun x y x1 x2 x3 x4 x5 => g2 x y x1 (by omega) (by omega), fun y y1 y2 => by omega⟩
    obtain ⟨g3, g4⟩ := insIn_ok fs a (a + (k + 1)) (a + (k + 1)) _ (by omega) (by omega) (by rw [g1.len]; omega) hst
    rw [insOut]
    exact ⟨(g1.mono (Nat.le_refl _) (by omega)).trans g3, g4⟩
/-- The block [a, b) is sorted by itself. -/
theorem ins_block (fs : List Int) (a b : Nat) (l : List Int) (h1 : a ≤ b) (h2 : b ≤ l.length) : Seg a b l (insOut (ltF fs) a l (b - a - 1)) ∧ Srt (keyF fs) (insOut (ltF fs) a l (b - a - 1)) a b := by
  by_cases e : a = b
  · subst e
    rw [show a - a - 1 = 0 by omega]
    exact ⟨Seg.refl _ _ _, fun x y x1 x2 x3 => by omega⟩
  · have := insOut_ok fs a l (b - a - 1) (by omega)
    rwa [show a + (b - a - 1) + 1 = b by omega] at this

theorem dvd_step {d s a : Nat} (h1 : d ∣ s) (h2 : d ∣ a) (h : s < a) : s + d ≤ a := by
  obtain ⟨x, rfl⟩ := h1
  obtain ⟨y, rfl⟩ := h2
  have hxy : x < y := by
    rcases Nat.lt_or_ge x y with h3 | h3
    · exact h3
    · exact absurd (Nat.mul_le_mul_left d h3) (by omega)
  have := Nat.mul_le_mul_left d (show x + 1 ≤ y from hxy)
  rw [Nat.mul_add, Nat.mul_one] at this
  exact this
/-- All blocks of z places are sorted by themselves. -/
def Blocks (K : Int → Int) (z n : Nat) (l : List Int) : Prop := ∀ s, z ∣ s → Srt K l s (min (s + z) n)
/-- Blocks of z places behind a, blocks of y places ahead of it. -/
structure Halfway (K : Int → Int) (z y n a : Nat) (l : List Int) : Prop where
  lo : ∀ s, y ∣ s → s < a → Srt K l s (s + y)
  hi : ∀ s, z ∣ s → a ≤ s → Srt K l s (min (s + z) n)
theorem Halfway.next {K : Int → Int} {z y n a : Nat} {l l' : List Int} (h : Halfway K z y n a l) (hd : y ∣ a) (hg : Seg a (a + y) l l') (hs : Srt K l' a (a + y)) : Halfway K z y n (a + y) l' := by
  refine ⟨fun s h1 h2 => ?_, fun s h1 h2 => (h.hi s h1 (by omega)).of_out (fun k k1 _ => hg.out k (.inr (by omega)))⟩
  by_cases c : s < a
  · have h3 := dvd_step h1 hd c
    exact (h.lo s h1 c).of_out (fun k _ k2 => hg.out k (.inl (by omega)))
  · have : ¬ a < s := fun h4 => by have := dvd_step hd h1 h4; omega
    obtain rfl : s = a := by omega
    exact hs
theorem Halfway.done {K : Int → Int} {z y n a : Nat} {l : List Int} (h : Halfway K z y n a l) (hd : y ∣ a) (ha : a ≤ n) (hn : n < a + y) (hs : Srt K l a n) : Blocks K y n l := by
  intro s h1
  by_cases c : s < a
  · have h3 := dvd_step h1 hd c
    rw [Nat.min_eq_left (by omega)]
    exact h.lo s h1 c
  · by_cases e : s = a
    · rw [e, Nat.min_eq_right (by omega)]
      exact hs
    · have h3 := dvd_step hd h1 (by omega)
      intro i j i1 i2 i3
      rw [Nat.min_eq_right (by omega)] at i3
      omega
end Go.Proofs.Ytiakploggmmklaa
