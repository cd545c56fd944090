/- Lists that are sorted in place, by swaps: a range is swapped, a stretch is turned round, two sorted stretches are merged (pure). -/
import Derived.Test.YtiakploggmmklaaCmp
namespace Go.Proofs.Ytiakploggmmklaa

def gt (l : List Int) (i : Nat) : Int := l[i]?.getD 0
def sw (l : List Int) (i j : Nat) : List Int := (l.set i (gt l j)).set j (gt l i)
theorem sw_len (l : List Int) (i j : Nat) : (sw l i j).length = l.length := by simp [sw]
theorem gt_sw {l : List Int} {i j : Nat} (hi : i < l.length) (hj : j < l.length) (k : Nat) : gt (sw l i j) k = if k = j then gt l i else if k = i then gt l j else gt l k := by
  unfold sw gt
  rw [List.getElem?_set, List.getElem?_set]
  by_cases h1 : k = j
  · subst h1
    simp [hj]
  · rw [if_neg (Ne.symm h1), if_neg h1]
    by_cases h2 : k = i
    · subst h2
      simp [hi]
    · rw [if_neg (Ne.symm h2), if_neg h2]
theorem sw_perm {l : List Int} {i j : Nat} (hi : i < l.length) (hj : j < l.length) : (sw l i j).Perm l := by
  have h := List.set_set_perm (i := i) (j := j) hi hj
  have e1 : gt l j = l[j] := by simp [gt, hj]
  have e2 : gt l i = l[i] := by simp [gt, hi]
  rw [sw, e1, e2]
  exact h

/-- Only [a, b) has changed, and what is there was there. -/
structure Seg (a b : Nat) (l l' : List Int) : Prop where
  perm : l'.Perm l
  out : ∀ k, (k < a ∨ b ≤ k) → gt l' k = gt l k
  mem : ∀ k, a ≤ k → k < b → ∃ j, a ≤ j ∧ j < b ∧ gt l' k = gt l j
theorem Seg.refl (a b : Nat) (l : List Int) : Seg a b l l := ⟨List.Perm.refl _, fun _ _ => rfl, fun k h1 h2 => ⟨k, h1, h2, rfl⟩⟩
theorem Seg.trans {a b : Nat} {l l' l'' : List Int} (h : Seg a b l l') (h' : Seg a b l' l'') : Seg a b l l'' := by
  refine ⟨h'.perm.trans h.perm, fun k hk => (h'.out k hk).trans (h.out k hk), fun k h1 h2 => ?_⟩
  obtain ⟨j, j1, j2, e⟩ := h'.mem k h1 h2
  obtain ⟨i, i1, i2, e'⟩ := h.mem j j1 j2
  exact ⟨i, i1, i2, e.trans e'⟩
theorem Seg.mono {a b a' b' : Nat} {l l' : List Int} (h : Seg a b l l') (ha : a' ≤ a) (hb : b ≤ b') : Seg a' b' l l' := by
  refine ⟨h.perm, fun k hk => h.out k (by omega), fun k h1 h2 => ?_⟩
  by_cases hk : a ≤ k ∧ k < b
  · obtain ⟨j, j1, j2, e⟩ := h.mem k hk.1 hk.2
    exact ⟨j, by omega, by omega, e⟩
  · exact ⟨k, h1, h2, h.out k (by omega)⟩
theorem Seg.len {a b : Nat} {l l' : List Int} (h : Seg a b l l') : l'.length = l.length := h.perm.length_eq

/-- n places from a on and from b on are swapped. -/
def swR (l : List Int) (a b : Nat) : Nat → List Int
  | 0 => l
  | n + 1 => sw (swR l a b n) (a + n) (b + n)
theorem swR_len (l : List Int) (a b n : Nat) : (swR l a b n).length = l.length := by
  induction n with
  | zero => rfl
  | succ n ih => rw [swR, sw_len, ih]
theorem swR_perm {l : List Int} {a b n : Nat} (h1 : a + n ≤ b) (h2 : b + n ≤ l.length) : (swR l a b n).Perm l := by
  induction n with
  | zero => exact List.Perm.refl _
  | succ n ih => exact (sw_perm (by rw [swR_len]; omega) (by rw [swR_len]; omega)).trans (ih (by omega) (by omega))
theorem gt_swR {l : List Int} {a b n : Nat} (h1 : a + n ≤ b) (h2 : b + n ≤ l.length) (k : Nat) :
    gt (swR l a b n) k = if a ≤ k ∧ k < a + n then gt l (k - a + b) else if b ≤ k ∧ k < b + n then gt l (k - b + a) else gt l k := by
  induction n generalizing k with
  | zero => rw [if_neg (by omega), if_neg (by omega)]; rfl
  | succ n ih =>
    have ih := ih (by omega) (by omega)
    rw [swR, gt_sw (by rw [swR_len]; omega) (by rw [swR_len]; omega)]
    simp only [ih]
    repeat' split
    all_goals first | rfl | (exfalso; omega) | (congr 1; omega)

/-- [a, m) and [m, b) have changed places. -/
structure Rot (a m b : Nat) (l l' : List Int) : Prop where
  perm : l'.Perm l
  at_ : ∀ k, gt l' k = if a ≤ k ∧ k < b then (if k < a + (b - m) then gt l (k + (m - a)) else gt l (k - (b - m))) else gt l k
theorem Rot.same {a m b : Nat} (l : List Int) (h : a = m ∨ b = m) (h1 : a ≤ m) (h2 : m ≤ b) : Rot a m b l l := by
  refine ⟨List.Perm.refl _, fun k => ?_⟩
  split
  · split
    · congr 1; omega
    · congr 1; omega
  · rfl
theorem Rot.seg {a m b : Nat} {l l' : List Int} (h : Rot a m b l l') (h1 : a ≤ m) (h2 : m ≤ b) : Seg a b l l' := by
  refine ⟨h.perm, fun k hk => by rw [h.at_, if_neg (by omega)], fun k k1 k2 => ?_⟩
  rw [h.at_, if_pos ⟨k1, k2⟩]
  split
  · exact ⟨k + (m - a), by omega, by omega, rfl⟩
  · exact ⟨k - (b - m), by omega, by omega, rfl⟩
/-- What is left to turn round: the i places ahead of m and the j behind. -/
structure RotSt (a m b i j : Nat) (l0 l : List Int) : Prop where
  perm : l.Perm l0
  out : ∀ k, (k < a ∨ b ≤ k) → gt l k = gt l0 k
  done : ∀ k, a ≤ k → k < b → (k < m - i ∨ m + j ≤ k) → gt l k = if k < a + (b - m) then gt l0 (k + (m - a)) else gt l0 (k - (b - m))
  lo : ∀ k, m - i ≤ k → k < m - i + j → gt l (k + i) = if k < a + (b - m) then gt l0 (k + (m - a)) else gt l0 (k - (b - m))
  hi : ∀ k, m - i + j ≤ k → k < m + j → gt l (k - j) = if k < a + (b - m) then gt l0 (k + (m - a)) else gt l0 (k - (b - m))
theorem RotSt.start {a m b : Nat} (l : List Int) (h1 : a ≤ m) (h2 : m ≤ b) : RotSt a m b (m - a) (b - m) l l := by
  refine ⟨List.Perm.refl _, fun _ _ => rfl, fun k k1 k2 k3 => by omega, fun k k1 k2 => ?_, fun k k1 k2 => ?_⟩
  · rw [if_pos (by omega)]
  · rw [if_neg (by omega)]
theorem RotSt.left {a m b i j : Nat} {l0 l : List Int} (h : RotSt a m b i j l0 l) (hi : i ≤ m - a) (hj : j ≤ b - m) (ha : a ≤ m) (hb : m ≤ b) (hl : b ≤ l.length) (hij : j < i) :
    RotSt a m b (i - j) j l0 (swR l (m - i) m j) := by
  have hg := gt_swR (l := l) (a := m - i) (b := m) (n := j) (by omega) (by omega)
  refine ⟨(swR_perm (by omega) (by omega)).trans h.perm, fun k hk => ?_, fun k k1 k2 k3 => ?_, fun k k1 k2 => ?_, fun k k1 k2 => ?_⟩
  · rw [hg, if_neg (by omega), if_neg (by omega)]
    exact h.out k hk
  · rw [hg]
    by_cases c : m - i ≤ k ∧ k < m - i + j
    · rw [if_pos c, ← h.lo k c.1 c.2]
      congr 1
      omega
    · rw [if_neg c, if_neg (by omega)]
      exact h.done k k1 k2 (by omega)
  · rw [hg, if_neg (by omega), if_pos (by omega), ← h.hi k (by omega) (by omega)]
    congr 1
    omega
  · rw [hg, if_neg (by omega), if_neg (by omega)]
    exact h.hi k (by omega) k2
theorem RotSt.right {a m b i j : Nat} {l0 l : List Int} (h : RotSt a m b i j l0 l) (hi : i ≤ m - a) (hj : j ≤ b - m) (ha : a ≤ m) (hb : m ≤ b) (hl : b ≤ l.length) (hij : i < j) :
    RotSt a m b i (j - i) l0 (swR l (m - i) (m + j - i) i) := by
  have hg := gt_swR (l := l) (a := m - i) (b := m + j - i) (n := i) (by omega) (by omega)
  refine ⟨(swR_perm (by omega) (by omega)).trans h.perm, fun k hk => ?_, fun k k1 k2 k3 => ?_, fun k k1 k2 => ?_, fun k k1 k2 => ?_⟩
  · rw [hg, if_neg (by omega), if_neg (by omega)]
    exact h.out k hk
  · rw [hg]
    by_cases c : m + j - i ≤ k ∧ k < m + j - i + i
    · rw [if_neg (by omega), if_pos c, ← h.hi k (by omega) (by omega)]
      congr 1
      omega
    · rw [if_neg (by omega), if_neg c]
      exact h.done k k1 k2 (by omega)
  · rw [hg, if_neg (by omega), if_neg (by omega)]
    exact h.lo k k1 (by omega)
  · rw [hg, if_pos (by omega), ← h.lo k (by omega) (by omega)]
    congr 1
    omega
theorem RotSt.end_ {a m b i : Nat} {l0 l : List Int} (h : RotSt a m b i i l0 l) (hi : i ≤ m - a) (hj : i ≤ b - m) (ha : a ≤ m) (hb : m ≤ b) (hl : b ≤ l.length) : Rot a m b l0 (swR l (m - i) m i) := by
  have hg := gt_swR (l := l) (a := m - i) (b := m) (n := i) (by omega) (by omega)
  refine ⟨(swR_perm (by omega) (by omega)).trans h.perm, fun k => ?_⟩
  rw [hg]
  by_cases c : a ≤ k ∧ k < b
  · rw [if_pos c]
    by_cases c1 : m - i ≤ k ∧ k < m - i + i
    · rw [if_pos c1, ← h.lo k c1.1 c1.2]
      congr 1
      omega
    · rw [if_neg c1]
      by_cases c2 : m ≤ k ∧ k < m + i
      · rw [if_pos c2, ← h.hi k (by omega) c2.2]
        congr 1
        omega
      · rw [if_neg c2]
        exact h.done k c.1 c.2 (by omega)
  · rw [if_neg c, if_neg (by omega), if_neg (by omega)]
    exact h.out k (by omega)

/-! ### by a key -/
def Srt (K : Int → Int) (l : List Int) (a b : Nat) : Prop := ∀ i j, a ≤ i → i ≤ j → j < b → K (gt l i) ≤ K (gt l j)
theorem Srt.sub {K : Int → Int} {l : List Int} {a b a' b' : Nat} (h : Srt K l a b) (ha : a ≤ a') (hb : b' ≤ b) : Srt K l a' b' := fun i j h1 h2 h3 => h i j (by omega) h2 (by omega)
theorem Srt.join {K : Int → Int} {l : List Int} {a m b : Nat} (h1 : Srt K l a m) (h2 : Srt K l m b) (hc : ∀ i j, a ≤ i → i < m → m ≤ j → j < b → K (gt l i) ≤ K (gt l j)) : Srt K l a b := by
  intro i j i1 i2 i3
  by_cases c : j < m
  · exact h1 i j i1 i2 c
  · by_cases d : m ≤ i
    · exact h2 i j d i2 i3
    · exact hc i j i1 (by omega) (by omega) i3
theorem Srt.of_out {K : Int → Int} {l l' : List Int} {a b : Nat} (h : Srt K l a b) (he : ∀ k, a ≤ k → k < b → gt l' k = gt l k) : Srt K l' a b := by
  intro i j i1 i2 i3
  rw [he i i1 (by omega), he j (by omega) i3]
  exact h i j i1 i2 i3

theorem rot_parts {K : Int → Int} {l l' : List Int} {a m b mid st e : Nat} (hR : Rot st m e l l') (s1 : Srt K l a m) (s2 : Srt K l m b) (h1 : a ≤ st) (h2 : st ≤ m) (h3 : m ≤ e) (h4 : e ≤ b) (hn : st + e = mid + m)
    (c1 : a < st → e < b → K (gt l (st - 1)) ≤ K (gt l e)) (c2 : st < m → m < e → K (gt l (e - 1)) ≤ K (gt l st)) :
    Srt K l' a st ∧ Srt K l' st mid ∧ Srt K l' mid e ∧ Srt K l' e b ∧ ∀ i j, a ≤ i → i < mid → mid ≤ j → j < b → K (gt l' i) ≤ K (gt l' j) := by
  have g1 : ∀ k, a ≤ k → k < st → gt l' k = gt l k := fun k _ k2 => by rw [hR.at_, if_neg (by omega)]
  have g2 : ∀ k, st ≤ k → k < mid → gt l' k = gt l (k + (m - st)) := fun k k1 k2 => by rw [hR.at_, if_pos (by omega), if_pos (by omega)]
  have g3 : ∀ k, mid ≤ k → k < e → gt l' k = gt l (k - (e - m)) := fun k k1 k2 => by rw [hR.at_, if_pos (by omega), if_neg (by omega)]
  have g4 : ∀ k, e ≤ k → k < b → gt l' k = gt l k := fun k k1 k2 => by rw [hR.at_, if_neg (by omega)]
  refine ⟨(s1.sub (Nat.le_refl _) h2).of_out g1, fun i j i1 i2 i3 => ?_, fun i j i1 i2 i3 => ?_, (s2.sub h3 (Nat.le_refl _)).of_out g4, fun i j i1 i2 i3 i4 => ?_⟩
  · rw [g2 i i1 (by omega), g2 j (by omega) i3]
    exact s2 _ _ (by omega) (by omega) (by omega)
  · rw [g3 i i1 (by omega), g3 j (by omega) i3]
    exact s1 _ _ (by omega) (by omega) (by omega)
  · by_cases x1 : i < st
    · rw [g1 i i1 x1]
      by_cases y1 : j < e
      · rw [g3 j i3 y1]
        exact s1 _ _ i1 (by omega) (by omega)
      · rw [g4 j (by omega) i4]
        have := c1 (by omega) (by omega)
        have p := s1 i (st - 1) i1 (by omega) (by omega)
        have q := s2 e j (by omega) (by omega) i4
        omega
    · rw [g2 i (by omega) i2]
      by_cases y1 : j < e
      · rw [g3 j i3 y1]
        have := c2 (by omega) (by omega)
        have p := s2 (i + (m - st)) (e - 1) (by omega) (by omega) (by omega)
        have q := s1 st (j - (e - m)) (by omega) (by omega) (by omega)
        omega
      · rw [g4 j (by omega) i4]
        exact s2 _ _ (by omega) (by omega) i4
/-- The two halves are merged by themselves: all is sorted. -/
theorem merge_end {K : Int → Int} {l l1 l2 : List Int} {a mid b : Nat} (hc : ∀ i j, a ≤ i → i < mid → mid ≤ j → j < b → K (gt l i) ≤ K (gt l j)) (hs1 : Seg a mid l l1) (t1 : Srt K l1 a mid) (hs2 : Seg mid b l1 l2) (t2 : Srt K l2 mid b) : Srt K l2 a b := by
  refine Srt.join (t1.of_out (fun k _ k2 => hs2.out k (by omega))) t2 (fun i j i1 i2 i3 i4 => ?_)
  rw [hs2.out i (by omega)]
  obtain ⟨i', p1, p2, p3⟩ := hs1.mem i i1 i2
  obtain ⟨j', q1, q2, q3⟩ := hs2.mem j i3 i4
  rw [p3, q3, hs1.out j' (by omega)]
  exact hc i' j' p1 p2 q1 q2

/-- The element at a goes n places up. -/
def mvU (l : List Int) (a : Nat) : Nat → List Int
  | 0 => l
  | n + 1 => sw (mvU l a n) (a + n) (a + n + 1)
theorem mvU_len (l : List Int) (a n : Nat) : (mvU l a n).length = l.length := by
  induction n with
  | zero => rfl
  | succ n ih => rw [mvU, sw_len, ih]
theorem mvU_perm {l : List Int} {a n : Nat} (h : a + n < l.length) : (mvU l a n).Perm l := by
  induction n with
  | zero => exact List.Perm.refl _
  | succ n ih => exact (sw_perm (by rw [mvU_len]; omega) (by rw [mvU_len]; omega)).trans (ih (by omega))
theorem gt_mvU {l : List Int} {a n : Nat} (h : a + n < l.length) (k : Nat) : gt (mvU l a n) k = if a ≤ k ∧ k < a + n then gt l (k + 1) else if k = a + n then gt l a else gt l k := by
  induction n generalizing k with
  | zero =>
    rw [if_neg (by omega)]
    split
    · rename_i h; rw [h]; rfl
    · rfl
  | succ n ih =>
    have ih := ih (by omega)
    have h0 := ih (a + n)
    have h1 := ih (a + n + 1)
    rw [if_neg (by omega), if_pos rfl] at h0
    rw [if_neg (by omega), if_neg (by omega)] at h1
    rw [mvU, gt_sw (by rw [mvU_len]; omega) (by rw [mvU_len]; omega)]
    rcases (by omega : k = a + n + 1 ∨ k = a + n ∨ (a ≤ k ∧ k < a + n) ∨ (k < a ∨ a + n + 1 < k)) with e | e | e | e
    · rw [if_pos e, h0, if_neg (by omega), if_pos (by omega)]
    · rw [if_neg (by omega), if_pos e, h1, if_pos (by omega), e]
    · rw [if_neg (by omega), if_neg (by omega), ih k, if_pos e, if_pos (by omega)]
    · rw [if_neg (by omega), if_neg (by omega), ih k, if_neg (by omega), if_neg (by omega), if_neg (by omega), if_neg (by omega)]
theorem mvU_seg {l : List Int} {a n b : Nat} (h : a + n < b) (hb : b ≤ l.length) : Seg a b l (mvU l a n) := by
  have hg := gt_mvU (l := l) (a := a) (n := n) (by omega)
  refine ⟨mvU_perm (by omega), fun k hk => by rw [hg, if_neg (by omega), if_neg (by omega)], fun k k1 k2 => ?_⟩
  rw [hg]
  split
  · exact ⟨k + 1, by omega, by omega, rfl⟩
  · split
    · exact ⟨a, by omega, by omega, rfl⟩
    · exact ⟨k, k1, k2, rfl⟩
theorem mvU_srt {K : Int → Int} {l : List Int} {a b i : Nat} (hb : b ≤ l.length) (s2 : Srt K l (a + 1) b) (h1 : a + 1 ≤ i) (h2 : i ≤ b) (lo : ∀ h, a + 1 ≤ h → h < i → K (gt l h) < K (gt l a)) (hi : ∀ h, i ≤ h → h < b → K (gt l a) ≤ K (gt l h)) :
    Srt K (mvU l a (i - 1 - a)) a b := by
  have hg := gt_mvU (l := l) (a := a) (n := i - 1 - a) (by omega)
  intro x y x1 x2 x3
  have hx := hg x
  have hy := hg y
  by_cases cx : a ≤ x ∧ x < a + (i - 1 - a)
  · rw [if_pos cx] at hx
    by_cases cy : a ≤ y ∧ y < a + (i - 1 - a)
    · rw [if_pos cy] at hy
      rw [hx, hy]
      exact s2 _ _ (by omega) (by omega) (by omega)
    · rw [if_neg cy] at hy
      by_cases dy : y = a + (i - 1 - a)
      · rw [if_pos dy] at hy
        rw [hx, hy]
        have := lo (x + 1) (by omega) (by omega)
        omega
      · rw [if_neg dy] at hy
        rw [hx, hy]
        exact s2 _ _ (by omega) (by omega) x3
  · rw [if_neg cx] at hx
    rw [if_neg (by omega)] at hy
    by_cases dx : x = a + (i - 1 - a)
    · rw [if_pos dx] at hx
      by_cases dy : y = a + (i - 1 - a)
      · rw [if_pos dy] at hy
        rw [hx, hy]
        omega
      · rw [if_neg dy] at hy
        rw [hx, hy]
        exact hi y (by omega) x3
    · rw [if_neg dx] at hx
      rw [if_neg (by omega)] at hy
      rw [hx, hy]
      exact s2 _ _ (by omega) x2 x3
/-- The element at m goes n places down. -/
def mvD (l : List Int) (m : Nat) : Nat → List Int
  | 0 => l
  | n + 1 => sw (mvD l m n) (m - n) (m - n - 1)
theorem mvD_len (l : List Int) (a n : Nat) : (mvD l a n).length = l.length := by
  induction n with
  | zero => rfl
  | succ n ih => rw [mvD, sw_len, ih]
theorem mvD_perm {l : List Int} {m n : Nat} (h : m < l.length) : (mvD l m n).Perm l := by
  induction n with
  | zero => exact List.Perm.refl _
  | succ n ih => exact (sw_perm (by rw [mvD_len]; omega) (by rw [mvD_len]; omega)).trans ih
theorem gt_mvD {l : List Int} {m n : Nat} (h : m < l.length) (hn : n ≤ m) (k : Nat) : gt (mvD l m n) k = if k = m - n then gt l m else if m - n < k ∧ k ≤ m then gt l (k - 1) else gt l k := by
  induction n generalizing k with
  | zero =>
    rw [if_neg (c := m - 0 < k ∧ k ≤ m) (by omega)]
    split
    · rename_i h; rw [h]; rfl
    · rfl
  | succ n ih =>
    have ih := ih (by omega)
    have h0 := ih (m - n)
    have h1 := ih (m - n - 1)
    rw [if_pos rfl] at h0
    rw [if_neg (by omega), if_neg (by omega)] at h1
    rw [mvD, gt_sw (by rw [mvD_len]; omega) (by rw [mvD_len]; omega)]
    rcases (by omega : k = m - n - 1 ∨ k = m - n ∨ (m - n < k ∧ k ≤ m) ∨ (k < m - n - 1 ∨ m < k)) with e | e | e | e
    · rw [if_pos e, h0, if_pos (by omega)]
    · rw [if_neg (by omega), if_pos e, h1, if_neg (by omega), if_pos (by omega), e]
    · rw [if_neg (by omega), if_neg (by omega), ih k, if_neg (by omega), if_pos e, if_neg (by omega), if_pos (by omega)]
    · rw [if_neg (by omega), if_neg (by omega), ih k, if_neg (by omega), if_neg (by omega), if_neg (by omega), if_neg (by omega)]
theorem mvD_seg {l : List Int} {m n a : Nat} (h : m < l.length) (hn : a + n ≤ m) : Seg a (m + 1) l (mvD l m n) := by
  have hg := gt_mvD (l := l) (m := m) (n := n) h (by omega)
  refine ⟨mvD_perm h, fun k hk => by rw [hg, if_neg (by omega), if_neg (by omega)], fun k k1 k2 => ?_⟩
  rw [hg]
  split
  · exact ⟨m, by omega, by omega, rfl⟩
  · split
    · exact ⟨k - 1, by omega, by omega, rfl⟩
    · exact ⟨k, k1, k2, rfl⟩
theorem mvD_srt {K : Int → Int} {l : List Int} {a m i : Nat} (hb : m < l.length) (s1 : Srt K l a m) (h1 : a ≤ i) (h2 : i ≤ m) (lo : ∀ h, a ≤ h → h < i → K (gt l h) ≤ K (gt l m)) (hi : ∀ h, i ≤ h → h < m → K (gt l m) < K (gt l h)) :
    Srt K (mvD l m (m - i)) a (m + 1) := by
  have hg := gt_mvD (l := l) (m := m) (n := m - i) hb (by omega)
  intro x y x1 x2 x3
  have hx := hg x
  have hy := hg y
  by_cases cx : x = m - (m - i)
  · rw [if_pos cx] at hx
    by_cases cy : y = m - (m - i)
    · rw [if_pos cy] at hy
      rw [hx, hy]
      omega
    · rw [if_neg cy, if_pos (by omega)] at hy
      rw [hx, hy]
      have := hi (y - 1) (by omega) (by omega)
      omega
  · rw [if_neg cx] at hx
    by_cases dx : m - (m - i) < x ∧ x ≤ m
    · rw [if_pos dx] at hx
      rw [if_neg (by omega), if_pos (by omega)] at hy
      rw [hx, hy]
      exact s1 _ _ (by omega) (by omega) (by omega)
    · rw [if_neg dx] at hx
      by_cases cy : y = m - (m - i)
      · rw [if_pos cy] at hy
        rw [hx, hy]
        exact lo x x1 (by omega)
      · rw [if_neg cy] at hy
        by_cases dy : m - (m - i) < y ∧ y ≤ m
        · rw [if_pos dy] at hy
          rw [hx, hy]
          exact s1 _ _ x1 (by omega) (by omega)
        · rw [if_neg dy] at hy
          rw [hx, hy]
          exact s1 _ _ x1 x2 (by omega)
end Go.Proofs.Ytiakploggmmklaa
