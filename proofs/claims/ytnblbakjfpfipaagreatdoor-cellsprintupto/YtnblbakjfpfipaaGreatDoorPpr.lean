/- Texts of references, there and back. -/
import Derived.Test.YtnblbakjfpfipaaGreatDoorWpg
import Derived.Test.YtnblbakjfpfipaaGreatDoorWpq
namespace Go.Proofs.YtnblbakjfpfipaaGreatDoor
open Go.RowKit

theorem ahead_app (u v cs : List UInt8) (hu : ∀ b ∈ u, cs.contains b = true) (hv : ∀ b r, v = b :: r → cs.contains b = false) : aheadL (u ++ v) cs = u ∧ behindL (u ++ v) cs = v := by
  unfold aheadL behindL
  induction u with
  | nil =>
    cases v with
    | nil => exact ⟨rfl, rfl⟩
    | cons b r =>
      have := hv b r rfl
      simp only [List.nil_append, List.takeWhile_cons, List.dropWhile_cons, this, Bool.false_eq_true, if_false]
      exact ⟨trivial, trivial⟩
  | cons a u ih =>
    have h1 := hu a (by simp)
    obtain ⟨i1, i2⟩ := ih (fun b hb => hu b (by simp [hb]))
    simp only [List.cons_append, List.takeWhile_cons, List.dropWhile_cons, h1, if_true]
    exact ⟨by rw [i1], i2⟩
theorem prefix_split (l : List UInt8) (c : UInt8) : l = (if Lib.hasPrefix l [c] then [c] else []) ++ Lib.trimPrefix l [c] := by
  unfold Lib.trimPrefix Lib.hasPrefix
  cases l with
  | nil => rfl
  | cons a r =>
    by_cases h : c = a
    · subst h; simp
    · simp [h]
theorem prefix_yes (c : UInt8) (r : List UInt8) : Lib.hasPrefix (c :: r) [c] = true ∧ Lib.trimPrefix (c :: r) [c] = r := by
  unfold Lib.trimPrefix Lib.hasPrefix
  simp
theorem prefix_no (c : UInt8) (l : List UInt8) (h : ∀ b r, l = b :: r → b ≠ c) : Lib.hasPrefix l [c] = false ∧ Lib.trimPrefix l [c] = l := by
  have : Lib.hasPrefix l [c] = false := by
    unfold Lib.hasPrefix
    cases l with
    | nil => rfl
    | cons a r =>
      have := h a r rfl
      have h2 : (c == a) = false := by simpa using (fun e : c = a => this e.symm)
      simp [List.isPrefixOf, h2]
  exact ⟨this, by unfold Lib.trimPrefix; rw [this]; rfl⟩
/-- What a text without a sheet is made of, it is. -/
theorem place_whole (l : List UInt8) : l = fixedL (placeP l).ac ++ (placeP l).letters ++ fixedL (placeP l).ar ++ (placeP l).digits ++ (placeP l).rest := by
  unfold placeP
  simp only
  have e1 := prefix_split l 36
  have e2 := ahead_behind (Lib.trimPrefix l [36]) capL
  have e3 := prefix_split (behindL (Lib.trimPrefix l [36]) capL) 36
  have e4 := ahead_behind (Lib.trimPrefix (behindL (Lib.trimPrefix l [36]) capL) [36]) digL
  unfold fixedL
  conv => lhs; rw [e1, ← e2]
  conv => lhs; rw [e3, ← e4]
  simp only [List.append_assoc]
set_option maxRecDepth 100000 in
theorem letters_all : (List.range 65).all (fun c => c == 0 || ((colOf (lettersL c) == some c) && (lettersL c).all (fun b => capL.contains b) && lettersOk (lettersL c))) = true := by kernel_rfl
theorem letters_back (c : Nat) (h1 : 1 ≤ c) (h2 : c ≤ 64) : colOf (lettersL c) = some c ∧ (∀ b ∈ lettersL c, capL.contains b = true) ∧ lettersOk (lettersL c) = true := by
  have := List.all_eq_true.1 letters_all c (List.mem_range.2 (by omega))
  simp only [Bool.or_eq_true, Bool.and_eq_true, beq_iff_eq, List.all_eq_true] at this
  rcases this with h | ⟨⟨h, h'⟩, h''⟩
  · omega
  · exact ⟨h, h', h''⟩
set_option maxRecDepth 100000 in
theorem digits_all : (List.range 513).all (fun r => r == 0 || ((rowN (Lib.decDigits r) == r) && (Lib.decDigits r).all (fun b => digL.contains b) && digitsOk (Lib.decDigits r))) = true := by kernel_rfl
theorem digits_back (r : Nat) (h1 : 1 ≤ r) (h2 : r ≤ 512) : rowN (Lib.decDigits r) = r ∧ (∀ b ∈ Lib.decDigits r, digL.contains b = true) ∧ digitsOk (Lib.decDigits r) = true := by
  have := List.all_eq_true.1 digits_all r (List.mem_range.2 (by omega))
  simp only [Bool.or_eq_true, Bool.and_eq_true, beq_iff_eq, List.all_eq_true] at this
  rcases this with h | ⟨⟨h, h'⟩, h''⟩
  · omega
  · exact ⟨h, h', h''⟩
theorem cap_not (b : UInt8) (h : capL.contains b = true) : b ≠ 36 ∧ b ≠ 39 ∧ b ≠ 33 ∧ b ≠ 58 ∧ digL.contains b = false := by
  simp [capL] at h
  rcases h with rfl | rfl | rfl | rfl | rfl | rfl | rfl | rfl | rfl | rfl | rfl | rfl | rfl | rfl | rfl | rfl | rfl | rfl | rfl | rfl | rfl | rfl | rfl | rfl | rfl | rfl <;> decide
theorem dig_not (b : UInt8) (h : digL.contains b = true) : b ≠ 36 ∧ b ≠ 39 ∧ b ≠ 33 ∧ b ≠ 58 ∧ capL.contains b = false := by
  simp [digL] at h
  rcases h with rfl | rfl | rfl | rfl | rfl | rfl | rfl | rfl | rfl | rfl <;> decide
/-- A right place's text, taken apart. -/
theorem place_parts (L D : List UInt8) (ac ar : Bool) (hL : ∀ b ∈ L, capL.contains b = true) (hD : ∀ b ∈ D, digL.contains b = true) (hL0 : L ≠ []) (hD0 : D ≠ []) :
    placeP (fixedL ac ++ L ++ fixedL ar ++ D) = ⟨L, D, [], ac, ar⟩ := by
  obtain ⟨a, L', rfl⟩ := List.exists_cons_of_ne_nil hL0
  obtain ⟨d, D', rfl⟩ := List.exists_cons_of_ne_nil hD0
  have ha := cap_not a (hL a (by simp))
  have hd := dig_not d (hD d (by simp))
  have p1 : Lib.hasPrefix (fixedL ac ++ (a :: L') ++ fixedL ar ++ (d :: D')) [36] = ac ∧ Lib.trimPrefix (fixedL ac ++ (a :: L') ++ fixedL ar ++ (d :: D')) [36] = (a :: L') ++ (fixedL ar ++ (d :: D')) := by
    cases ac
    · have := prefix_no 36 ((a :: L') ++ fixedL ar ++ (d :: D')) (fun b r e => by simp at e; rw [← e.1]; exact ha.1)
      simpa [fixedL] using this
    · have := prefix_yes 36 ((a :: L') ++ fixedL ar ++ (d :: D'))
      simpa [fixedL] using this
  have p2 := ahead_app (a :: L') (fixedL ar ++ (d :: D')) capL hL (fun b r e => by
    cases ar
    · simp [fixedL] at e; rw [← e.1]; exact hd.2.2.2.2
    · simp [fixedL] at e; rw [← e.1]; rfl)
  have p3 : Lib.hasPrefix (fixedL ar ++ (d :: D')) [36] = ar ∧ Lib.trimPrefix (fixedL ar ++ (d :: D')) [36] = d :: D' := by
    cases ar
    · have := prefix_no 36 (d :: D') (fun b r e => by simp at e; rw [← e.1]; exact hd.1)
      simpa [fixedL] using this
    · have := prefix_yes 36 (d :: D')
      simpa [fixedL] using this
  have p4 := ahead_app (d :: D') [] digL hD (fun b r e => by cases e)
  rw [List.append_nil] at p4
  unfold placeP
  rw [p1.1, p1.2, p2.1, p2.2, p3.1, p3.2, p4.1, p4.2]
theorem place_back (c r : Nat) (ac ar : Bool) (h1 : 1 ≤ c) (h2 : c ≤ 64) (h3 : 1 ≤ r) (h4 : r ≤ 512) : placeP (placeL c r ac ar) = ⟨lettersL c, Lib.decDigits r, [], ac, ar⟩ ∧ (placeP (placeL c r ac ar)).ok = true := by
  obtain ⟨l1, l2, l3⟩ := letters_back c h1 h2
  obtain ⟨d1, d2, d3⟩ := digits_back r h3 h4
  have e : placeL (c : Int) (r : Int) ac ar = fixedL ac ++ lettersL c ++ fixedL ar ++ Lib.decDigits r := by
    unfold placeL lettersS Lib.itoa
    rw [if_pos (by simp [colB]; omega), if_neg (by omega)]
    rfl
  rw [e, place_parts (lettersL c) (Lib.decDigits r) ac ar l2 d2 (fun h => by rw [h] at l3; exact absurd l3 (by decide)) (fun h => by rw [h] at d3; exact absurd d3 (by decide))]
  refine ⟨rfl, ?_⟩
  unfold Pl.ok
  simp only
  rw [l3, d3]
  rfl
/-- Signs that no place has. -/
theorem place_signs (c r : Nat) (ac ar : Bool) (h1 : 1 ≤ c) (h2 : c ≤ 64) (h3 : 1 ≤ r) (h4 : r ≤ 512) : ∀ b ∈ placeL (c : Int) (r : Int) ac ar, b ≠ 39 ∧ b ≠ 33 ∧ b ≠ 58 := by
  obtain ⟨l1, l2, l3⟩ := letters_back c h1 h2
  obtain ⟨d1, d2, d3⟩ := digits_back r h3 h4
  have e : placeL (c : Int) (r : Int) ac ar = fixedL ac ++ lettersL c ++ fixedL ar ++ Lib.decDigits r := by
    unfold placeL lettersS Lib.itoa
    rw [if_pos (by simp [colB]; omega), if_neg (by omega)]
    rfl
  rw [e]
  have hf : ∀ (x : Bool) b, b ∈ fixedL x → b ≠ 39 ∧ b ≠ 33 ∧ b ≠ 58 := fun x b hb => by
    cases x
    · simp [fixedL] at hb
    · simp [fixedL] at hb; subst hb; decide
  intro b hb
  simp only [List.mem_append] at hb
  rcases hb with ((hb | hb) | hb) | hb
  · exact hf ac b hb
  · have := cap_not b (l2 b hb); exact ⟨this.2.1, this.2.2.1, this.2.2.2.1⟩
  · exact hf ar b hb
  · have := dig_not b (d2 b hb); exact ⟨this.2.1, this.2.2.1, this.2.2.2.1⟩
theorem cut_first (u r : List UInt8) (c : UInt8) (h : ∀ b ∈ u, b ≠ c) : cutB (u ++ c :: r) c = (u, r, true) := by
  have hi : Lib.indexByte (u ++ c :: r) c = (u.length : Int) := by
    induction u with
    | nil => simp [Lib.indexByte]
    | cons a u ih =>
      have i1 := ih (fun b hb => h b (by simp [hb]))
      have h1 : (a == c) = false := by simpa using h a (by simp)
      show (if (a == c) = true then (0 : Int) else if Lib.indexByte (u ++ c :: r) c == -1 then -1 else Lib.indexByte (u ++ c :: r) c + 1) = _
      rw [h1, i1, if_neg (by simp), if_neg (by simp)]
      simp
  unfold cutB
  rw [hi, if_pos (by omega)]
  simp
theorem cut_none (u : List UInt8) (c : UInt8) (h : ∀ b ∈ u, b ≠ c) : cutB u c = (u, [], false) := by
  have hi : Lib.indexByte u c < 0 := by
    have hge := Lib.indexByte_ge u c
    by_cases h0 : Lib.indexByte u c < 0
    · exact h0
    · obtain ⟨i, hi⟩ : ∃ i : Nat, Lib.indexByte u c = i := ⟨(Lib.indexByte u c).toNat, by omega⟩
      exact absurd rfl (h c (List.mem_of_getElem? (Lib.indexByte_some hi).1))
  unfold cutB
  rw [if_neg (by omega)]
theorem cut_whole {l n b : List UInt8} {c : UInt8} (h : cutB l c = (n, b, true)) : l = n ++ c :: b := by
  unfold cutB at h
  split at h
  · rename_i h0
    obtain ⟨i, hi⟩ : ∃ i : Nat, Lib.indexByte l c = i := ⟨(Lib.indexByte l c).toNat, by omega⟩
    have h1 := (Lib.indexByte_some hi).1
    obtain ⟨hlt, hg⟩ := List.getElem?_eq_some_iff.1 h1
    rw [hi] at h
    simp only [Int.toNat_natCast, Prod.mk.injEq] at h
    rw [← h.1, ← h.2.1]
    conv => lhs; rw [← List.take_append_drop i l, List.drop_eq_getElem_cons hlt, hg]
  · simp at h
theorem cutQ_dbl : ∀ (s r : List UInt8), (∀ b r', r = b :: r' → b.toNat ≠ 39) → cutQ (dbl s ++ 39 :: r) = (s, 39 :: r)
  | [], r, hr => by
    show cutQ (39 :: r) = _
    exact cutQ_end rfl hr
  | a :: s, r, hr => by
    have ih := cutQ_dbl s r hr
    unfold dbl
    by_cases ha : a = 39
    · subst ha
      rw [if_pos rfl]
      show cutQ (39 :: 39 :: (dbl s ++ 39 :: r)) = _
      rw [cutQ_two rfl rfl, ih]
    · rw [if_neg ha]
      show cutQ (a :: (dbl s ++ 39 :: r)) = _
      rw [cutQ_other (fun e => ha (UInt8.toNat_inj.1 e)), ih]
theorem cutQ_whole : ∀ (n : Nat) (l : List UInt8), l.length ≤ n → l = dbl (cutQ l).1 ++ (cutQ l).2
  | _, [], _ => rfl
  | 0, _ :: _, h => by simp at h
  | n + 1, a :: r, h => by
    simp only [List.length_cons] at h
    by_cases ha : a.toNat = 39
    · obtain rfl : a = 39 := UInt8.toNat_inj.1 ha
      cases r with
      | nil => rw [cutQ_end rfl (fun b r' e => by cases e)]; rfl
      | cons b r' =>
        by_cases hb : b.toNat = 39
        · obtain rfl : b = 39 := UInt8.toNat_inj.1 hb
          have ih := cutQ_whole n r' (by simp at h; omega)
          rw [cutQ_two rfl rfl]
          simp only
          unfold dbl
          rw [if_pos rfl]
          simp only [List.cons_append]
          rw [← ih]
        · rw [cutQ_end rfl (fun c r2 e => by cases e; exact hb)]; rfl
    · have ih := cutQ_whole n r (by omega)
      rw [cutQ_other ha]
      simp only
      unfold dbl
      rw [if_neg (fun e => ha (by rw [e]; rfl))]
      simp only [List.cons_append]
      rw [← ih]
theorem alnum_not (b : UInt8) (h : alnumL.contains b = true) : b ≠ 39 ∧ b ≠ 33 ∧ b ≠ 58 := by
  refine ⟨?_, ?_, ?_⟩ <;> intro e <;> subst e <;> exact absurd h (by decide)
theorem alpha_alnum (b : UInt8) (h : alphaL.contains b = true) : alnumL.contains b = true := by
  have hs : ∀ x ∈ alphaL, alnumL.contains x = true := by decide
  exact hs b (by simpa using h)
theorem plain_signs {l : List UInt8} (h : plainB l = true) : ∀ b ∈ l, alnumL.contains b = true := by
  unfold plainB at h
  simp only [Bool.and_eq_true] at h
  have h2 : behindL (behindL l alphaL) alnumL = [] := by simpa using h.2
  intro b hb
  rw [← ahead_behind l alphaL] at hb
  rcases List.mem_append.1 hb with hb | hb
  · exact alpha_alnum b (ahead_mem hb)
  · rw [← ahead_behind (behindL l alphaL) alnumL, h2, List.append_nil] at hb
    exact ahead_mem hb
theorem name_signs {l : List UInt8} (h : nameS l = true) : ∀ b ∈ l, b ≠ 58 := by
  unfold nameS at h
  simp only [Bool.and_eq_true, List.all_eq_true] at h
  intro b hb e
  subst e
  exact absurd (h.1.1.2 58 hb) (by decide)
theorem dbl_mem : ∀ (l : List UInt8) (b : UInt8), b ∈ dbl l → b ∈ l
  | [], _, h => by simp [dbl] at h
  | a :: l, b, h => by
    unfold dbl at h
    split at h
    · rename_i ha
      simp only [List.mem_cons] at h ⊢
      rcases h with h | h | h
      · left; rw [h, ha]
      · left; rw [h, ha]
      · right; exact dbl_mem l b h
    · simp only [List.mem_cons] at h ⊢
      exact h.imp id (dbl_mem l b)
theorem name_ne {l : List UInt8} (h : nameS l = true) : l ≠ [] := by
  intro e
  rw [e] at h
  unfold nameS at h
  simp at h
/-- The sheet of a right reference's text. -/
theorem sheet_back (n p : List UInt8) (hn : n = [] ∨ nameS n = true) (hp : ∀ b ∈ p, b ≠ 39 ∧ b ≠ 33 ∧ b ≠ 58) :
    sheetC (if n = [] then p else quoteL n ++ [33] ++ p) = (n, p, true) := by
  by_cases h0 : n = []
  · rw [if_pos h0]
    subst h0
    have hq := prefix_no 39 p (fun b r e => (hp b (by rw [e]; simp)).1)
    unfold sheetC
    rw [hq.1, cut_none p 33 (fun b hb => (hp b hb).2.1)]
    rfl
  · rw [if_neg h0]
    have hn : nameS n = true := hn.resolve_left h0
    unfold quoteL
    cases hpl : plainB n
    · have e : (if (false : Bool) = true then n else 39 :: (dbl n ++ [39])) ++ [33] ++ p = 39 :: (dbl n ++ 39 :: 33 :: p) := by simp
      rw [e]
      have hq := prefix_yes 39 (dbl n ++ 39 :: 33 :: p)
      unfold sheetC
      rw [hq.1]
      simp only [if_true, List.drop_succ_cons, List.drop_zero]
      rw [cutQ_dbl n (33 :: p) (fun b r' e => by cases e; decide)]
      simp only
      rw [hn, hpl]
      simp [Lib.trimPrefix, Lib.hasPrefix]
    · have e : (if (true : Bool) = true then n else 39 :: (dbl n ++ [39])) ++ [33] ++ p = n ++ 33 :: p := by simp
      rw [e]
      have hs := plain_signs hpl
      have hq := prefix_no 39 (n ++ 33 :: p) (fun b r e => by
        obtain ⟨a, n', rfl⟩ := List.exists_cons_of_ne_nil h0
        simp at e
        rw [← e.1]
        exact (alnum_not a (hs a (by simp))).1)
      unfold sheetC
      rw [hq.1, cut_first n p 33 (fun b hb => (alnum_not b (hs b hb)).2.1)]
      simp only [Bool.false_eq_true, if_false, if_true, hn, hpl]
      rfl
/-- A text whose sheet is one, is made so. -/
theorem sheet_whole {l n p : List UInt8} (h : sheetC l = (n, p, true)) : (n = [] ∨ nameS n = true) ∧ l = if n = [] then p else quoteL n ++ [33] ++ p := by
  unfold sheetC at h
  cases hq : Lib.hasPrefix l [39]
  · rw [hq] at h
    simp only [Bool.false_eq_true, if_false] at h
    cases hf : (cutB l 33).2.2
    · rw [hf] at h
      simp only [Bool.false_eq_true, if_false, Prod.mk.injEq] at h
      exact ⟨.inl h.1.symm, by rw [if_pos h.1.symm]; exact h.2.1⟩
    · rw [hf] at h
      simp only [if_true, Prod.mk.injEq, Bool.and_eq_true] at h
      obtain ⟨e1, e2, e3, e4⟩ := h
      rw [e1] at e3 e4
      refine ⟨.inr e3, ?_⟩
      rw [if_neg (name_ne e3)]
      have hw : cutB l 33 = (n, p, true) := by rw [← e1, ← e2, ← hf]
      rw [cut_whole hw]
      unfold quoteL
      rw [e4]
      simp
  · rw [hq] at h
    simp only [if_true, Prod.mk.injEq, Bool.and_eq_true] at h
    obtain ⟨e1, e2, ⟨e3, e4⟩, e5⟩ := h
    rw [e1] at e4 e5
    refine ⟨.inr e4, ?_⟩
    rw [if_neg (name_ne e4)]
    have e6 := prefix_split l 39
    rw [hq] at e6
    simp only [if_true, List.cons_append, List.nil_append] at e6
    have e7 : l.drop 1 = Lib.trimPrefix l [39] := by conv => lhs; rw [e6]
                                                     simp
    have hw := cutQ_whole _ (l.drop 1) (Nat.le_refl _)
    rw [e1] at hw
    have e8 : (cutQ (l.drop 1)).2 = 39 :: 33 :: p := by
      unfold Lib.trimPrefix at e2
      rw [e3] at e2
      simp only [if_true, List.length_cons, List.length_nil] at e2
      unfold Lib.hasPrefix at e3
      generalize (cutQ (l.drop 1)).2 = q at e2 e3
      match q, e2, e3 with
      | [], _, e3 => simp at e3
      | [a], _, e3 => simp at e3
      | a :: b :: q', e2, e3 =>
        simp at e3 e2
        rw [← e3.1, ← e3.2, e2]
    rw [e8] at hw
    have e5' : plainB n = false := by simpa using e5
    unfold quoteL
    rw [e5', e6, ← e7, hw]
    simp
end Go.Proofs.YtnblbakjfpfipaaGreatDoor
