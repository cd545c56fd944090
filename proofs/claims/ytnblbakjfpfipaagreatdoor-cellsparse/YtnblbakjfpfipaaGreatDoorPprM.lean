import Derived.Test.YtnblbakjfpfipaaGreatDoorWpg
import Derived.Test.YtnblbakjfpfipaaGreatDoorWpq
/- Texts of references, there and back. -/
namespace Go.Proofs.YtnblbakjfpfipaaGreatDoor
open Go.RowKit

theorem ahead_app (u v cs : List UInt8) (hu : ∀ b ∈ u, cs.contains b = true) (hv : ∀ b r, v = b :: r → cs.contains b = false) : aheadL (u ++ v) cs = u ∧ behindL (u ++ v) cs = v := by
  unfold aheadL behindL
  induction u with
  | nil =>
    cases v with
    | nil => exact ⟨rfl, rfl⟩
    | cons b r =>
      have := hv b r rfl
      simp only [List.nil_append, List.takeWhile_cons, List.dropWhile_cons, this, Bool.false_eq_true, if_false]
      exact ⟨trivial, trivial⟩
  | cons a u ih =>
    have h1 := hu a (by simp)
    obtain ⟨i1, i2⟩ := ih (fun b hb => hu b (by simp [hb]))
    simp only [List.cons_append, List.takeWhile_cons, List.dropWhile_cons, h1, if_true]
    exact ⟨by rw [i1], i2⟩
theorem prefix_split (l : List UInt8) (c : UInt8) : l = (if Lib.hasPrefix l [c] then [c] else []) ++ Lib.trimPrefix l [c] := by
  unfold Lib.trimPrefix Lib.hasPrefix
  cases l with
  | nil => rfl
  | cons a r =>
    by_cases h : c = a
    · subst h; simp
    · simp [h]
theorem prefix_yes (c : UInt8) (r : List UInt8) : Lib.hasPrefix (c :: r) [c] = true ∧ Lib.trimPrefix (c :: r) [c] = r := by
  unfold Lib.trimPrefix Lib.hasPrefix
  simp
theorem prefix_no (c : UInt8) (l : List UInt8) (h : ∀ b r, l = b :: r → b ≠ c) : Lib.hasPrefix l [c] = false ∧ Lib.trimPrefix l [c] = l := by
  have : Lib.hasPrefix l [c] = false := by
    unfold Lib.hasPrefix
    cases l with
    | nil => rfl
    | cons a r =>
      have := h a r rfl
      have h2 : (c == a) = false := by simpa using (fun e : c = a => this e.symm)
      simp [List.isPrefixOf, h2]
  exact ⟨this, by unfold Lib.trimPrefix; rw [this]; rfl⟩
/-- What a text without a sheet is made of, it is. -/
theorem place_whole (l : List UInt8) : l = fixedL (placeP l).ac ++ (placeP l).letters ++ fixedL (placeP l).ar ++ (placeP l).digits ++ (placeP l).rest := by
  unfold placeP
  simp only
  have e1 := prefix_split l 36
  have e2 := ahead_behind (Lib.trimPrefix l [36]) capL
  have e3 := prefix_split (behindL (Lib.trimPrefix l [36]) capL) 36
  have e4 := ahead_behind (Lib.trimPrefix (behindL (Lib.trimPrefix l [36]) capL) [36]) digL
  unfold fixedL
  conv => lhs; rw [e1, ← e2]
  conv => lhs; rw [e3, ← e4]
  simp only [List.append_assoc]
set_option maxRecDepth 100000 in
theorem letters_all : (List.range 65).all (fun c => c == 0 || ((colOf (lettersL c) == some c) && (lettersL c).all (fun b => capL.contains b) && lettersOk (lettersL c))) = true := by kernel_rfl
theorem letters_back (c : Nat) (h1 : 1 ≤ c) (h2 : c ≤ 64) : colOf (lettersL c) = some c ∧ (∀ b ∈ lettersL c, capL.contains b = true) ∧ lettersOk (lettersL c) = true := by
  have := List.all_eq_true.1 letters_all c (List.mem_range.2 (by omega))
  simp only [Bool.or_eq_true, Bool.and_eq_true, beq_iff_eq, List.all_eq_true] at this
  rcases this with h | ⟨⟨h, h'⟩, h''⟩
  · omega
  · exact ⟨h, h', h''⟩
set_option maxRecDepth 100000 in
theorem digits_all : (List.range 513).all (fun r => r == 0 || ((rowN (Lib.decDigits r) == r) && (Lib.decDigits r).all (fun b => digL.contains b) && digitsOk (Lib.decDigits r))) = true := by kernel_rfl
theorem digits_back (r : Nat) (h1 : 1 ≤ r) (h2 : r ≤ 512) : rowN (Lib.decDigits r) = r ∧ (∀ b ∈ Lib.decDigits r, digL.contains b = true) ∧ digitsOk (Lib.decDigits r) = true := by
  have := List.all_eq_true.1 digits_all r (List.mem_range.2 (by omega))
  simp only [Bool.or_eq_true, Bool.and_eq_true, beq_iff_eq, List.all_eq_true] at this
  rcases this with h | ⟨⟨h, h'⟩, h''⟩
  · omega
  · exact ⟨h, h', h''⟩
theorem cap_not (b : UInt8) (h : capL.contains b = true) : b ≠ 36 ∧ b ≠ 39 ∧ b ≠ 33 ∧ b ≠ 58 ∧ digL.contains b = false := by
  simp [capL] at h
  rcases h with rfl | rfl | rfl | rfl | rfl | rfl | rfl | rfl | rfl | rfl | rfl | rfl | rfl | rfl | rfl | rfl | rfl | rfl | rfl | rfl | rfl | rfl | rfl | rfl | rfl | rfl <;> decide
theorem dig_not (b : UInt8) (h : digL.contains b = true) : b ≠ 36 ∧ b ≠ 39 ∧ b ≠ 33 ∧ b ≠ 58 ∧ capL.contains b = false := by
  simp [digL] at h
  rcases h with rfl | rfl | rfl | rfl | rfl | rfl | rfl | rfl | rfl | rfl <;> decide
/-- A right place's text, taken apart. -/
theorem place_parts (L D : List UInt8) (ac ar : Bool) (hL : ∀ b ∈ L, capL.contains b = true) (hD : ∀ b ∈ D, digL.contains b = true) (hL0 : L ≠ []) (hD0 : D ≠ []) :
    placeP (fixedL ac ++ L ++ fixedL ar ++ D) = ⟨L, D, [], ac, ar⟩ := by
  obtain ⟨a, L', rfl⟩ := List.exists_cons_of_ne_nil hL0
  obtain ⟨d, D', rfl⟩ := List.exists_cons_of_ne_nil hD0
  have ha := cap_not a (hL a (by simp))
  have hd := dig_not d (hD d (by simp))
  have p1 : Lib.hasPrefix (fixedL ac ++ (a :: L') ++ fixedL ar ++ (d :: D')) [36] = ac ∧ Lib.trimPrefix (fixedL ac ++ (a :: L') ++ fixedL ar ++ (d :: D')) [36] = (a :: L') ++ (fixedL ar ++ (d :: D')) := by
    cases ac
    · have := prefix_no 36 ((a :: L') ++ fixedL ar ++ (d :: D')) (fun b r e => by simp at e; rw [← e.1]; exact ha.1)
      simpa [fixedL] using this
    · have := prefix_yes 36 ((a :: L') ++ fixedL ar ++ (d :: D'))
      simpa [fixedL] using this
  have p2 := ahead_app (a :: L') (fixedL ar ++ (d :: D')) capL hL (fun b r e => by
    cases ar
    · simp [fixedL] at e; rw [← e.1]; exact hd.2.2.2.2
    · simp [fixedL] at e; rw [← e.1]; rfl)
  have p3 : Lib.hasPrefix (fixedL ar ++ (d :: D')) [36] = ar ∧ Lib.trimPrefix (fixedL ar ++ (d :: D')) [36] = d :: D' := by
    cases ar
    · have := prefix_no 36 (d :: D') (fun b r e => by simp at e; rw [← e.1]; exact hd.1)
      simpa [fixedL] using this
    · have := prefix_yes 36 (d :: D')
      simpa [fixedL] using this
  have p4 := ahead_app (d :: D') [] digL hD (fun b r e => by cases e)
  rw [List.append_nil] at p4
  unfold placeP
  rw [p1.1, p1.2, p2.1, p2.2, p3.1, p3.2, p4.1, p4.2]
theorem place_back (c r : Nat) (ac ar : Bool) (h1 : 1 ≤ c) (h2 : c ≤ 64) (h3 : 1 ≤ r) (h4 : r ≤ 512) : placeP (placeL c r ac ar) = ⟨lettersL c, Lib.decDigits r, [], ac, ar⟩ ∧ (placeP (placeL c r ac ar)).ok = true := by
  obtain ⟨l1, l2, l3⟩ := letters_back c h1 h2
  obtain ⟨d1, d2, d3⟩ := digits_back r h3 h4
  have e : placeL (c : Int) (r : Int) ac ar = fixedL ac ++ lettersL c ++ fixedL ar ++ Lib.decDigits r := by
    unfold placeL lettersS Lib.itoa
    rw [if_pos (by simp [colB]; omega), if_neg (by omega)]
    rfl
  rw [e, place_parts (lettersL c) (Lib.decDigits r) ac ar l2 d2 (fun h => by rw [h] at l3; exact absurd l3 (by decide)) (fun h => by rw [h] at d3; exact absurd d3 (by decide))]
  refine ⟨rfl, ?_⟩
  unfold Pl.ok
  simp only
  rw [l3, d3]
  rfl
/-- Signs that no place has. -/
theorem place_signs (c r : Nat) (ac ar : Bool) (h1 : 1 ≤ c) (h2 : c ≤ 64) (h3 : 1 ≤ r) (h4 : r ≤ 512) : ∀ b ∈ placeL (c : Int) (r : Int) ac ar, b ≠ 39 ∧ b ≠ 33 ∧ b ≠ 58 := by
  obtain ⟨l1, l2, l3⟩ := letters_back c h1 h2
  obtain ⟨d1, d2, d3⟩ := digits_back r h3 h4
  have e : placeL (c : Int) (r : Int) ac ar = fixedL ac ++ lettersL c ++ fixedL ar ++ Lib.decDigits r := by
    unfold placeL lettersS Lib.itoa
    rw [if_pos (by simp [colB]; omega), if_neg (by omega)]
    rfl
  rw [e]
  have hf : ∀ (x : Bool) b, b ∈ fixedL x → b ≠ 39 ∧ b ≠ 33 ∧ b ≠ 58 := fun x b hb => by
    cases x
    · simp [fixedL] at hb
    · simp [fixedL] at hb; subst hb; decide
  intro b hb
  simp only [List.mem_append] at hb
  rcases hb with ((hb | hb) | hb) | hb
  · exact hf ac b hb
  · have := cap_not b (l2 b hb); exact ⟨this.2.1, this.2.2.1, this.2.2.2.1⟩
  · exact hf ar b hb
  · have := dig_not b (d2 b hb); exact ⟨this.2.1, this.2.2.1, this.2.2.2.1⟩
theorem cut_first (u r : List UInt8) (c : UInt8) (h : ∀ b ∈ u, b ≠ c) : cutB (u ++ c :: r) c = (u, r, true) := by
  have hi : Lib.indexByte (u ++ c :: r) c = (u.length : Int) := by
    induction u with
    | nil => simp [Lib.indexByte]
    | cons a u ih =>
      have i1 := ih (fun b hb => h b (by simp [hb]))
      have h1 : (a == c) = false := by simpa using h a (by simp)
      show (if (a == c) = true then (0 : Int) else if Lib.indexByte (u ++ c :: r) c == -1 then -1 else Lib.indexByte (u ++ c :: r) c + 1) = _
      rw [h1, i1, if_neg (by simp), if_neg (by simp)]
      simp
  unfold cutB
  rw [hi, if_pos (by omega)]
  simp
theorem cut_none (u : List UInt8) (c : UInt8) (h : ∀ b ∈ u, b ≠ c) : cutB u c = (u, [], false) := by
  have hi : Lib.indexByte u c < 0 := by
    have hge := Lib.indexByte_ge u c
    by_cases h0 : Lib.indexByte u c < 0
    · exact h0
    · obtain ⟨i, hi⟩ : ∃ i : Nat, Lib.indexByte u c = i := ⟨(Lib.indexByte u c).toNat, by omega⟩
      exact absurd rfl (h c (List.mem_of_getElem? (Lib.indexByte_some hi).1))
  unfold cutB
  rw [if_neg (by omega)]
theorem cut_whole {l n b : List UInt8} {c : UInt8} (h : cutB l c = (n, b, true)) : l = n ++ c :: b := by
  unfold cutB at h
  split at h
  · rename_i h0
    obtain ⟨i, hi⟩ : ∃ i : Nat, Lib.indexByte l c = i := ⟨(Lib.indexByte l c).toNat, by omega⟩
    have h1 := (Lib.indexByte_some hi).1
    obtain ⟨hlt, hg⟩ := List.getElem?_eq_some_iff.1 h1
    rw [hi] at h
    simp only [Int.toNat_natCast, Prod.mk.injEq] at h
    rw [← h.1, ← h.2.1]
    conv => lhs; rw [← List.take_append_drop i l, List.drop_eq_getElem_cons hlt, hg]
  · simp at h
theorem cutQ_dbl : ∀ (s r : List UInt8), (∀ b r', r = b :: r' → b.toNat ≠ 39) → cutQ (dbl s ++ 39 :: r) = (s, 39 :: r)
  | [], r, hr => by
    show cutQ (39 :: r) = _
    exact cutQ_end rfl hr
  | a :: s, r, hr => by
    have ih := cutQ_dbl s r hr
    unfold dbl
    by_cases ha : a = 39
    · subst ha
      rw [if_pos rfl]
      show cutQ (39 :: 39 :: (dbl s ++ 39 :: r)) = _
      rw [cutQ_two rfl rfl, ih]
    · rw [if_neg ha]
      show cutQ (a :: (dbl s ++ 39 :: r)) = _
      rw [cutQ_other (fun e => ha (UInt8.toNat_inj.1 e)), ih]
theorem cutQ_whole : ∀ (n : Nat) (l : List UInt8), l.length ≤ n → l = dbl (cutQ l).1 ++ (cutQ l).2
  | _, [], _ => rfl
  | 0, _ :: _, h => by simp at h
  | n + 1, a :: r, h => by
    simp only [List.length_cons] at h
    by_cases ha : a.toNat = 39
    · obtain rfl : a = 39 := UInt8.toNat_inj.1 ha
      cases r with
      | nil => rw [cutQ_end rfl (fun b r' e => by cases e)]; rfl
      | cons b r' =>
        by_cases hb : b.toNat = 39
        · obtain rfl : b = 39 := UInt8.toNat_inj.1 hb
          have ih := cutQ_whole n r' (by simp at h; omega)
          rw [cutQ_two rfl rfl]
          simp only
          unfold dbl
          rw [if_pos rfl]
          simp only [List.cons_append]
          rw [← ih]
        · rw [cutQ_end rfl (fun c r2 e => by cases e; exact hb)]; rfl
    · have ih := cutQ_whole n r (by omega)
      rw [cutQ_other ha]
      simp only
      unfold dbl
      rw [if_neg (fun e => ha (by rw [e]; rfl))]
      simp only [List.cons_append]
      rw [← ih]
theorem alnum_not (b : UInt8) (h : alnumL.contains b = true) : b ≠ 39 ∧ b ≠ 33 ∧ b ≠ 58 := by
  refine ⟨?_, ?_, ?_⟩ <;> intro e <;> subst e <;> exact absurd h (by decide)
theorem alpha_alnum (b : UInt8) (h : alphaL.contains b = true) : alnumL.contains b = true := by
  have hs : ∀ x ∈ alphaL, alnumL.contains x = true := by decide
  exact hs b (by simpa using h)
theorem plain_signs {l : List UInt8} (h : plainB l = true) : ∀ b ∈ l, alnumL.contains b = true := by
  unfold plainB at h
  simp only [Bool.and_eq_true] at h
  have h2 : behindL (behindL l alphaL) alnumL = [] := by simpa using h.2
  intro b hb
  rw [← ahead_behind l alphaL] at hb
  rcases List.mem_append.1 hb with hb | hb
  · exact alpha_alnum b (ahead_mem hb)
  · rw [← ahead_behind (behindL l alphaL) alnumL, h2, List.append_nil] at hb
    exact ahead_mem hb
theorem name_signs {l : List UInt8} (h : nameS l = true) : ∀ b ∈ l, b ≠ 58 := by
  unfold nameS at h
  simp only [Bool.and_eq_true, List.all_eq_true] at h
  intro b hb e
  subst e
  exact absurd (h.1.1.2 58 hb) (by decide)
theorem dbl_mem : ∀ (l : List UInt8) (b : UInt8), b ∈ dbl l → b ∈ l
  | [], _, h => by simp [dbl] at h
  | a :: l, b, h => by
    unfold dbl at h
    split at h
    · rename_i ha
      simp only [List.mem_cons] at h ⊢
      rcases h with h | h | h
      · left; rw [h, ha]
      · left; rw [h, ha]
      · right; exact dbl_mem l b h
    · simp only [List.mem_cons] at h ⊢
      exact h.imp id (dbl_mem l b)
theorem name_ne {l : List UInt8} (h : nameS l = true) : l ≠ [] := by
  intro e
  rw [e] at h
  unfold nameS at h
  simp at h
/-- The sheet of a right reference's text. -/
theorem sheet_back (n p : List UInt8) (hn : n = [] ∨ nameS n = true) (hp : ∀ b ∈ p, b ≠ 39 ∧ b ≠ 33 ∧ b ≠ 58) :
    sheetC (if n = [] then p else quoteL n ++ [33] ++ p) = (n, p, true) := by
  by_cases h0 : n = []
  · rw [if_pos h0]
    subst h0
    have hq := prefix_no 39 p (fun b r e => (hp b (by rw [e]; simp)).1)
    unfold sheetC
    rw [hq.1, cut_none p 33 (fun b hb => (hp b hb).2.1)]
    rfl
  · rw [if_neg h0]
    have hn : nameS n = true := hn.resolve_left h0
    unfold quoteL
    cases hpl : plainB n
    · have e : (if (false : Bool) = true then n else 39 :: (dbl n ++ [39])) ++ [33] ++ p = 39 :: (dbl n ++ 39 :: 33 :: p) := by simp
      rw [e]
      have hq := prefix_yes 39 (dbl n ++ 39 :: 33 :: p)
      unfold sheetC
      rw [hq.1]
      simp only [if_true, List.drop_succ_cons, List.drop_zero]
      rw [cutQ_dbl n (33 :: p) (fun b r' e => by cases e; decide)]
      simp only
      rw [hn, hpl]
      simp [Lib.trimPrefix, Lib.hasPrefix]
    · have e : (if (true : Bool) = true then n else 39 :: (dbl n ++ [39])) ++ [33] ++ p = n ++ 33 :: p := by simp
      rw [e]
      have hs := plain_signs hpl
      have hq := prefix_no 39 (n ++ 33 :: p) (fun b r e => by
        obtain ⟨a, n', rfl⟩ := List.exists_cons_of_ne_nil h0
        simp at e
        rw [← e.1]
        exact (alnum_not a (hs a (by simp))).1)
      unfold sheetC
      rw [hq.1, cut_first n p 33 (fun b hb => (alnum_not b (hs b hb)).2.1)]
      simp only [Bool.false_eq_true, if_false, if_true, hn, hpl]
      rfl
/-- A text whose sheet is one, is made so. -/
theorem sheet_whole {l n p : List UInt8} (h : sheetC l = (n, p, true)) : (n = [] ∨ nameS n = true) ∧ l = if n = [] then p else quoteL n ++ [33] ++ p := by
  unfold sheetC at h
  cases hq : Lib.hasPrefix l [39]
  · rw [hq] at h
    simp only [Bool.false_eq_true, if_false] at h
    cases hf : (cutB l 33).2.2
    · rw [hf] at h
      simp only [Bool.false_eq_true, if_false, Prod.mk.injEq] at h
      exact ⟨.inl h.1.symm, by rw [if_pos h.1.symm]; exact h.2.1⟩
    · rw [hf] at h
      simp only [if_true, Prod.mk.injEq, Bool.and_eq_true] at h
      obtain ⟨e1, e2, e3, e4⟩ := h
      rw [e1] at e3 e4
      refine ⟨.inr e3, ?_⟩
      rw [if_neg (name_ne e3)]
      have hw : cutB l 33 = (n, p, true) := by rw [← e1, ← e2, ← hf]
      rw [cut_whole hw]
      unfold quoteL
      rw [e4]
      simp
  · rw [hq] at h
    simp only [if_true, Prod.mk.injEq, Bool.and_eq_true] at h
    obtain ⟨e1, e2, ⟨e3, e4⟩, e5⟩ := h
    rw [e1] at e4 e5
    refine ⟨.inr e4, ?_⟩
    rw [if_neg (name_ne e4)]
    have e6 := prefix_split l 39
    rw [hq] at e6
    simp only [if_true, List.cons_append, List.nil_append] at e6
    have e7 : l.drop 1 = Lib.trimPrefix l [39] := by conv => lhs; rw [e6]
                                                     simp
    have hw := cutQ_whole _ (l.drop 1) (Nat.le_refl _)
    rw [e1] at hw
    have e8 : (cutQ (l.drop 1)).2 = 39 :: 33 :: p := by
      unfold Lib.trimPrefix at e2
      rw [e3] at e2
      simp only [if_true, List.length_cons, List.length_nil] at e2
      unfold Lib.hasPrefix at e3
      generalize (cutQ (l.drop 1)).2 = q at e2 e3
      match q, e2, e3 with
      | [], _, e3 => simp at e3
      | [a], _, e3 => simp at e3
      | a :: b :: q', e2, e3 =>
        simp at e3 e2
        rw [← e3.1, ← e3.2, e2]
    rw [e8] at hw
    have e5' : plainB n = false := by simpa using e5
    unfold quoteL
    rw [e5', e6, ← e7, hw]
    simp
end Go.Proofs.YtnblbakjfpfipaaGreatDoor
/- References, there and back. -/
namespace Go.Proofs.YtnblbakjfpfipaaGreatDoor
open Go.RowKit

theorem bs_eq {x : ByteArray} : bs x.data.toList = x := rfl
theorem printL_eq {x : Rf} (h : rightB x = true) : printL x = if x.s.data.toList = [] then placeL x.c x.r x.ac x.ar else quoteL x.s.data.toList ++ [33] ++ placeL x.c x.r x.ac x.ar := by
  unfold printL
  rw [if_pos h]
theorem right_nat {x : Rf} (h : rightB x = true) : ∃ c r : Nat, x.c = c ∧ x.r = r ∧ 1 ≤ c ∧ c ≤ 64 ∧ 1 ≤ r ∧ r ≤ 512 := by
  have hb := rightB_bounds h
  exact ⟨x.c.toNat, x.r.toNat, by omega, by omega, by omega, by omega, by omega, by omega⟩
theorem found_back (s : ByteArray) (c r : Nat) (ac ar : Bool) (h1 : 1 ≤ c) (h2 : c ≤ 64) (h3 : 1 ≤ r) (h4 : r ≤ 512) : foundR s (placeP (placeL c r ac ar)) = some ⟨s, c, r, ac, ar⟩ := by
  rw [(place_back c r ac ar h1 h2 h3 h4).1]
  unfold foundR
  simp only
  rw [(letters_back c h1 h2).1, (digits_back r h3 h4).1]
  rw [if_pos (by simp [rowB]; omega)]
  rfl
theorem print_sheet {x : Rf} (h : rightB x = true) : sheetC (printL x) = (x.s.data.toList, placeL x.c x.r x.ac x.ar, true) := by
  obtain ⟨c, r, ec, er, h1, h2, h3, h4⟩ := right_nat h
  rw [printL_eq h]
  refine sheet_back _ _ (rightB_name h) ?_
  rw [ec, er]
  exact place_signs c r x.ac x.ar h1 h2 h3 h4
/-- A right reference that is written is read as it was. -/
theorem parse_print {x : Rf} (h : rightB x = true) : readOk (printL x) = true ∧ parseR (printL x) = (x, 0) := by
  obtain ⟨c, r, ec, er, h1, h2, h3, h4⟩ := right_nat h
  have hs := print_sheet h
  have hr : readOk (printL x) = true := by
    unfold readOk
    rw [hs]
    simp only
    rw [ec, er, (place_back c r x.ac x.ar h1 h2 h3 h4).2]
    rfl
  refine ⟨hr, ?_⟩
  unfold parseR
  rw [if_pos hr, hs]
  simp only
  rw [bs_eq, ec, er, found_back x.s c r x.ac x.ar h1 h2 h3 h4]
  obtain ⟨s, c', r', ac, ar⟩ := x
  simp only at ec er ⊢
  rw [ec, er]
theorem print_signs {x : Rf} (h : rightB x = true) : ∀ b ∈ printL x, b ≠ 58 := by
  obtain ⟨c, r, ec, er, h1, h2, h3, h4⟩ := right_nat h
  have hp : ∀ b ∈ placeL x.c x.r x.ac x.ar, b ≠ 58 := by
    rw [ec, er]
    exact fun b hb => (place_signs c r x.ac x.ar h1 h2 h3 h4 b hb).2.2
  rw [printL_eq h]
  split
  · exact hp
  · rename_i h0
    have hn := (rightB_name h).resolve_left h0
    intro b hb
    simp only [List.mem_append, List.mem_singleton] at hb
    rcases hb with (hb | hb) | hb
    · unfold quoteL at hb
      split at hb
      · exact name_signs hn b hb
      · simp only [List.mem_cons, List.mem_append, List.not_mem_nil, or_false] at hb
        rcases hb with rfl | hb | rfl
        · decide
        · exact name_signs hn b (dbl_mem _ b hb)
        · decide
    · subst hb; decide
    · exact hp b hb
theorem withSheet_same {a b : Rf} (h : b.s = a.s) : withSheet a b = b := by
  unfold withSheet
  split
  · obtain ⟨s, c, r, ac, ar⟩ := b
    simp only at h ⊢
    rw [h]
  · rfl
/-- A right range that is written is read as it was. -/
theorem parse_range {a b : Rf} (ha : rightB a = true) (hb : rightB b = true) (he : b.s = a.s) : parseRangeR (printRangeL a b) = (a, b, 0) := by
  obtain ⟨c, r, ec, er, h1, h2, h3, h4⟩ := right_nat hb
  obtain ⟨c2, r2, ec2, er2, g1, g2, g3, g4⟩ := right_nat ha
  have ep : printRangeL a b = printL a ++ 58 :: placeL b.c b.r b.ac b.ar := by
    unfold printRangeL
    rw [withSheet_same he, ha, hb, he, if_pos (by simp)]
    simp
  have hc := cut_first (printL a) (placeL b.c b.r b.ac b.ar) 58 (print_signs ha)
  have hok : (placeP (placeL b.c b.r b.ac b.ar)).ok = true := by rw [ec, er]; exact (place_back c r b.ac b.ar h1 h2 h3 h4).2
  unfold parseRangeR
  rw [ep, hc]
  simp only
  rw [(parse_print ha).1, hok, print_sheet ha]
  simp only [Bool.and_self, if_true]
  rw [bs_eq, ec2, er2, found_back a.s c2 r2 a.ac a.ar g1 g2 g3 g4, ec, er, found_back a.s c r b.ac b.ar h1 h2 h3 h4]
  obtain ⟨s, c', r', ac, ar⟩ := a
  obtain ⟨s', c'', r'', ac', ar'⟩ := b
  simp only at *
  rw [ec, er, ec2, er2, he]

theorem rowN_snoc (D : List UInt8) (d : UInt8) : rowN (D ++ [d]) = rowN D * 10 + (d.toNat - 48) := by
  unfold rowN
  rw [List.foldl_append]
  rfl
theorem rowN_ge : ∀ (D : List UInt8) (a : Nat), a ≤ D.foldl (fun a b => a * 10 + (b.toNat - 48)) a
  | [], a => Nat.le_refl _
  | d :: D, a => by
    have := rowN_ge D (a * 10 + (d.toNat - 48))
    simp only [List.foldl_cons]
    omega
theorem rowN_pos (D : List UInt8) (h0 : D ≠ []) (hd : ∀ b ∈ D, 48 ≤ b.toNat ∧ b.toNat ≤ 57) (hh : D.head? ≠ some 48) : 1 ≤ rowN D := by
  cases D with
  | nil => exact absurd rfl h0
  | cons d D =>
    have h1 := hd d (by simp)
    have h2 : d.toNat ≠ 48 := fun e => hh (by rw [show d = 48 from UInt8.toNat_inj.1 e]; rfl)
    have := rowN_ge D (0 * 10 + (d.toNat - 48))
    unfold rowN
    simp only [List.foldl_cons]
    omega
theorem digits_whole : ∀ (n : Nat) (D : List UInt8), D.length = n → D ≠ [] → (∀ b ∈ D, 48 ≤ b.toNat ∧ b.toNat ≤ 57) → D.head? ≠ some 48 → Lib.decDigits (rowN D) = D
  | 0, D, hl, h0, _, _ => absurd (List.length_eq_zero_iff.1 hl) h0
  | n + 1, D, hl, h0, hd, hh => by
    obtain ⟨E, d, rfl⟩ : ∃ E d, D = E ++ [d] := ⟨D.dropLast, D.getLast h0, (List.dropLast_concat_getLast h0).symm⟩
    have hdd := hd d (by simp)
    have he : UInt8.ofNat (48 + (d.toNat - 48)) = d := by
      apply UInt8.toNat_inj.1
      rw [UInt8.toNat_ofNat']
      omega
    rw [rowN_snoc]
    by_cases hE : E = []
    · subst hE
      unfold Lib.decDigits
      rw [show rowN [] = 0 from rfl, dif_pos (by omega)]
      simp only [Nat.zero_mul, Nat.zero_add, List.nil_append]
      rw [he]
    · have hhE : E.head? ≠ some 48 := by
        cases E with
        | nil => exact absurd rfl hE
        | cons a E => simpa using hh
      have hdE : ∀ b ∈ E, 48 ≤ b.toNat ∧ b.toNat ≤ 57 := fun b hb => hd b (by simp [hb])
      have hp := rowN_pos E hE hdE hhE
      have ih := digits_whole n E (by simp at hl; omega) hE hdE hhE
      rw [Lib.decDigits, dif_neg (by omega), show (rowN E * 10 + (d.toNat - 48)) / 10 = rowN E by omega, show (rowN E * 10 + (d.toNat - 48)) % 10 = d.toNat - 48 by omega, ih, he]
set_option maxRecDepth 100000 in
theorem one_all : (List.range 256).all (fun n => match colOf [UInt8.ofNat n] with | none => true | some m => lettersL m == [UInt8.ofNat n]) = true := by kernel_rfl
set_option maxRecDepth 100000 in
theorem two_all : [65, 66].all (fun a => (List.range 256).all (fun n => match colOf [a, UInt8.ofNat n] with | none => true | some m => lettersL m == [a, UInt8.ofNat n])) = true := by kernel_rfl
theorem letters_whole {l : List UInt8} {m : Nat} (h : colOf l = some m) : lettersL m = l := by
  match l, h with
  | [], h => cases h
  | [a], h =>
    have := List.all_eq_true.1 one_all a.toNat (List.mem_range.2 a.toNat_lt)
    rw [show UInt8.ofNat a.toNat = a from UInt8.toNat_inj.1 (by simp), h] at this
    simpa using this
  | [a, b], h =>
    have hab : a = 65 ∨ a = 66 := by
      unfold colOf colN at h
      simp only [List.cons_ne_nil, if_false, List.foldl_cons, List.foldl_nil] at h
      unfold colStep at h
      simp only [Option.bind_some] at h
      split at h
      · rename_i h1
        simp only [Option.bind_some] at h
        split at h
        · rename_i h2
          simp [isCap] at h1 h2
          have : a.toNat = 65 ∨ a.toNat = 66 := by omega
          exact this.imp (fun e => UInt8.toNat_inj.1 e) (fun e => UInt8.toNat_inj.1 e)
        · cases h
      · cases h
    have := List.all_eq_true.1 two_all a (by rcases hab with rfl | rfl <;> simp)
    have := List.all_eq_true.1 this b.toNat (List.mem_range.2 b.toNat_lt)
    rw [show UInt8.ofNat b.toNat = b from UInt8.toNat_inj.1 (by simp), h] at this
    simpa using this
  | a :: b :: c :: r, h =>
    exfalso
    unfold colOf colN at h
    simp only [List.cons_ne_nil, if_false, List.foldl_cons] at h
    have key : colStep (colStep (colStep (some 0) a) b) c = none := by
      unfold colStep
      simp only [Option.bind_some]
      split
      · simp only [Option.bind_some]
        split
        · simp only [Option.bind_some]
          rw [if_neg (by simp; omega)]
        · rfl
      · rfl
    rw [key, colN_none] at h
    cases h
/-- What is read is right, and is written so. -/
theorem print_parse {l : List UInt8} {x : Rf} (h : parseR l = (x, 0)) : rightB x = true ∧ printL x = l := by
  unfold parseR at h
  split at h
  · rename_i hr
    cases hf : foundR (bs (sheetC l).1) (placeP (sheetC l).2.1) with
    | none => rw [hf] at h; simp at h
    | some y =>
      rw [hf] at h
      simp only [Prod.mk.injEq, and_true] at h
      subst h
      unfold readOk at hr
      rw [Bool.and_eq_true] at hr
      have hsw := sheet_whole (l := l) (n := (sheetC l).1) (p := (sheetC l).2.1) (by rw [← hr.1])
      have hw := place_whole (sheetC l).2.1
      have hdg : ∀ b ∈ (placeP (sheetC l).2.1).digits, 48 ≤ b.toNat ∧ b.toNat ≤ 57 := fun b hb => dig_bounds (ahead_mem (l := Lib.trimPrefix (behindL (Lib.trimPrefix (sheetC l).2.1 [36]) capL) [36]) (cs := digL) hb)
      have hok := hr.2
      generalize (sheetC l).1 = n at *
      generalize (sheetC l).2.1 = p at *
      generalize placeP p = q at *
      obtain ⟨L, D, R, ac, ar⟩ := q
      unfold foundR at hf
      simp only at hf hw hdg
      split at hf
      · rename_i hc
        rw [Bool.and_eq_true] at hc
        obtain ⟨m, hm⟩ := Option.isSome_iff_exists.1 hc.1
        have hml := colOf_le hm
        cases hf
        unfold Pl.ok at hok
        simp only [Bool.and_eq_true] at hok
        have hR : R = [] := by simpa using hok.2
        have hD : D ≠ [] ∧ D.head? ≠ some 48 := by
          have := hok.1.2
          unfold digitsOk at this
          simp at this
          exact ⟨this.1.1, this.2⟩
        have hrb : 1 ≤ rowN D ∧ rowN D ≤ 512 := by
          have := hc.2
          simp [rowB] at this
          omega
        have hpl : placeL ((m : Nat) : Int) ((rowN D : Nat) : Int) ac ar = p := by
          unfold placeL lettersS Lib.itoa
          rw [if_pos (by simp [colB]; omega), if_neg (by omega), hw, hR]
          simp only [Int.toNat_natCast, List.append_nil]
          rw [letters_whole hm, digits_whole _ D rfl hD.1 hdg hD.2]
        have hright : rightB ⟨bs n, ((colOf L).getD 0 : Nat), (rowN D : Nat), ac, ar⟩ = true := by
          unfold rightB
          rw [hm]
          simp only [Option.getD_some, Bool.and_eq_true, Bool.or_eq_true]
          refine ⟨⟨by simp [colB]; omega, by simp [rowB]; omega⟩, ?_⟩
          rcases hsw.1 with h | h
          · left; rw [h, bs_toList]; rfl
          · right; exact h
        refine ⟨hright, ?_⟩
        rw [printL_eq hright]
        simp only [hm, Option.getD_some]
        rw [hpl]
        exact hsw.2.symm
      · cases hf
  · simp at h
end Go.Proofs.YtnblbakjfpfipaaGreatDoor
/- A range cut at its sheet first, then at the colon, is the range cut at the colon first. -/
namespace Go.Proofs.YtnblbakjfpfipaaGreatDoor
open Go.RowKit

theorem cut_pre (u r : List UInt8) (c : UInt8) (h : ∀ b ∈ u, b ≠ c) : cutB (u ++ r) c = (u ++ (cutB r c).1, (cutB r c).2.1, (cutB r c).2.2) := by
  by_cases hc : c ∈ r
  · obtain ⟨s, t, e, hs⟩ := List.append_of_mem hc |> fun ⟨s, t, e⟩ => (show ∃ s t, r = s ++ c :: t ∧ c ∉ s from List.eq_append_cons_of_mem hc)
    have hs' : ∀ b ∈ s, b ≠ c := fun b hb e2 => hs (e2 ▸ hb)
    rw [e, cut_first s t c hs', ← List.append_assoc, cut_first (u ++ s) t c (fun b hb => (List.mem_append.1 hb).elim (h b) (hs' b))]
  · have hr : ∀ b ∈ r, b ≠ c := fun b hb e => hc (e ▸ hb)
    rw [cut_none r c hr, cut_none (u ++ r) c (fun b hb => (List.mem_append.1 hb).elim (h b) (hr b))]
/-- The text ahead of the cut is free of the sign. -/
theorem cut_free (l : List UInt8) (c : UInt8) : ∀ b ∈ (cutB l c).1, b ≠ c := by
  by_cases hc : c ∈ l
  · obtain ⟨s, t, e, hs⟩ := List.eq_append_cons_of_mem hc
    have hs' : ∀ b ∈ s, b ≠ c := fun b hb e2 => hs (e2 ▸ hb)
    rw [e, cut_first s t c hs']
    exact hs'
  · have hr : ∀ b ∈ l, b ≠ c := fun b hb e => hc (e ▸ hb)
    rw [cut_none l c hr]
    exact hr
theorem cut_mem (l : List UInt8) (c : UInt8) : ∃ t, l = (cutB l c).1 ++ t := by
  by_cases hc : c ∈ l
  · obtain ⟨s, t, e, hs⟩ := List.eq_append_cons_of_mem hc
    have hs' : ∀ b ∈ s, b ≠ c := fun b hb e2 => hs (e2 ▸ hb)
    refine ⟨c :: t, ?_⟩
    conv => rhs; rw [e, cut_first s t c hs']
    exact e
  · have hr : ∀ b ∈ l, b ≠ c := fun b hb e => hc (e ▸ hb)
    exact ⟨[], by rw [cut_none l c hr]; simp⟩
theorem pre_head (x : UInt8) (a b : List UInt8) : Lib.hasPrefix (x :: a) [39] = Lib.hasPrefix (x :: b) [39] := by
  unfold Lib.hasPrefix
  simp [List.isPrefixOf]
/-- Behind a sheet's name anything may stand. -/
theorem sheet_named (n p : List UInt8) (hn : nameS n = true) : sheetC (quoteL n ++ [33] ++ p) = (n, p, true) := by
  have h0 := name_ne hn
  unfold quoteL
  cases hpl : plainB n
  · have e : (if (false : Bool) = true then n else 39 :: (dbl n ++ [39])) ++ [33] ++ p = 39 :: (dbl n ++ 39 :: 33 :: p) := by simp
    rw [e]
    have hq := prefix_yes 39 (dbl n ++ 39 :: 33 :: p)
    unfold sheetC
    rw [hq.1]
    simp only [if_true, List.drop_succ_cons, List.drop_zero]
    rw [cutQ_dbl n (33 :: p) (fun b r' e => by cases e; decide)]
    simp only
    rw [hn, hpl]
    simp [Lib.trimPrefix, Lib.hasPrefix]
  · have e : (if (true : Bool) = true then n else 39 :: (dbl n ++ [39])) ++ [33] ++ p = n ++ 33 :: p := by simp
    rw [e]
    have hs := plain_signs hpl
    have hq := prefix_no 39 (n ++ 33 :: p) (fun b r e => by
      obtain ⟨a, n', rfl⟩ := List.exists_cons_of_ne_nil h0
      simp at e
      rw [← e.1]
      exact (alnum_not a (hs a (by simp))).1)
    unfold sheetC
    rw [hq.1, cut_first n p 33 (fun b hb => (alnum_not b (hs b hb)).2.1)]
    simp only [Bool.false_eq_true, if_false, if_true, hn, hpl]
    rfl
theorem sheet_none (p : List UInt8) (h1 : Lib.hasPrefix p [39] = false) (h2 : ∀ b ∈ p, b ≠ 33) : sheetC p = ([], p, true) := by
  unfold sheetC
  rw [h1, cut_none p 33 h2]
  rfl
theorem sheet_bare {l p : List UInt8} (h : sheetC l = ([], p, true)) : l = p ∧ Lib.hasPrefix l [39] = false ∧ ∀ b ∈ l, b ≠ 33 := by
  have hw := (sheet_whole h).2
  rw [if_pos rfl] at hw
  refine ⟨hw, ?_⟩
  unfold sheetC at h
  cases hq : Lib.hasPrefix l [39]
  · rw [hq] at h
    simp only [Bool.false_eq_true, if_false] at h
    cases hf : (cutB l 33).2.2
    · refine ⟨rfl, fun b hb e => ?_⟩
      subst e
      obtain ⟨s, t, e, hs⟩ := List.eq_append_cons_of_mem hb
      rw [e, cut_first s t 33 (fun b hb e2 => hs (e2 ▸ hb))] at hf
      cases hf
    · rw [hf] at h
      simp only [if_true, Prod.mk.injEq, Bool.and_eq_true] at h
      exact absurd h.1 (name_ne h.2.2.1)
  · rw [hq] at h
    simp only [if_true, Prod.mk.injEq, Bool.and_eq_true] at h
    exact absurd h.1 (name_ne h.2.2.1.2)
theorem quote_signs {n : List UInt8} (hn : nameS n = true) : ∀ b ∈ quoteL n ++ [33], b ≠ 58 := by
  intro b hb
  unfold quoteL at hb
  split at hb
  · rcases List.mem_append.1 hb with hb | hb
    · exact name_signs hn b hb
    · simp at hb; subst hb; decide
  · simp only [List.mem_cons, List.mem_append, List.not_mem_nil, or_false, List.cons_append] at hb
    rcases hb with rfl | (hb | rfl) | rfl
    · decide
    · exact name_signs hn b (dbl_mem _ b hb)
    · decide
    · decide
theorem ok_signs {l : List UInt8} (h : (placeP l).ok = true) : l ≠ [] ∧ ∀ b ∈ l, b ≠ 39 ∧ b ≠ 33 := by
  have hw := place_whole l
  have hL : ∀ b ∈ (placeP l).letters, capL.contains b = true := fun b hb => ahead_mem hb
  have hD : ∀ b ∈ (placeP l).digits, digL.contains b = true := fun b hb => ahead_mem hb
  unfold Pl.ok lettersOk at h
  simp only [Bool.and_eq_true] at h
  have hr : (placeP l).rest = [] := by simpa using h.2
  have hl : (placeP l).letters ≠ [] := by simpa using h.1.1.1
  generalize placeP l = q at *
  obtain ⟨L, D, R, ac, ar⟩ := q
  simp only at *
  subst hr
  have f39 : ∀ (x : Bool), ∀ b ∈ fixedL x, b ≠ 39 ∧ b ≠ 33 := by decide
  refine ⟨fun e => ?_, fun b hb => ?_⟩
  · rw [e] at hw
    have := congrArg List.length hw
    have : 0 < L.length := List.length_pos_iff.2 hl
    simp at *
    omega
  · rw [hw] at hb
    simp only [List.mem_append, List.not_mem_nil, or_false] at hb
    rcases hb with ((hb | hb) | hb) | hb
    · exact f39 _ b hb
    · have := hL b hb
      constructor <;> intro e <;> subst e <;> exact absurd this (by decide)
    · exact f39 _ b hb
    · have := hD b hb
      constructor <;> intro e <;> subst e <;> exact absurd this (by decide)
/-- Where the whole has a sheet, the text ahead of the colon has it too. -/
theorem range_there {l n p : List UInt8} (h : sheetC l = (n, p, true)) : sheetC (cutB l 58).1 = (n, (cutB p 58).1, true) ∧ (cutB l 58).2.1 = (cutB p 58).2.1 := by
  by_cases h0 : n = []
  · subst h0
    obtain ⟨e, h1, h2⟩ := sheet_bare h
    subst e
    refine ⟨?_, rfl⟩
    obtain ⟨t, et⟩ := cut_mem l 58
    refine sheet_none _ ?_ (fun b hb => h2 b (by rw [et]; exact List.mem_append.2 (.inl hb)))
    generalize (cutB l 58).1 = a at *
    cases a with
    | nil => rfl
    | cons x a =>
      rw [et] at h1
      exact (pre_head x a (a ++ t)).trans h1
  · obtain ⟨hn, e⟩ := sheet_whole h
    rw [if_neg h0] at e
    have hn := hn.resolve_left h0
    have ec := cut_pre (quoteL n ++ [33]) p 58 (quote_signs hn)
    rw [← e] at ec
    rw [ec]
    exact ⟨sheet_named n _ hn, rfl⟩
/-- And where the text ahead of the colon has one, and a place stands behind the colon, so has the whole. -/
theorem range_back {l n a : List UInt8} (h : sheetC (cutB l 58).1 = (n, a, true)) (ha : (placeP a).ok = true) (hb : (placeP (cutB l 58).2.1).ok = true) : (sheetC l).2.2 = true := by
  have hB := ok_signs hb
  have hf : (cutB l 58).2.2 = true := by
    unfold cutB at hB ⊢
    split
    · rfl
    · rename_i hx
      rw [if_neg hx] at hB
      exact absurd rfl hB.1
  have hw : l = (cutB l 58).1 ++ 58 :: (cutB l 58).2.1 := cut_whole (by rw [← hf])
  generalize (cutB l 58).1 = A at *
  generalize (cutB l 58).2.1 = B at *
  by_cases h0 : n = []
  · subst h0
    obtain ⟨e, h1, h2⟩ := sheet_bare h
    subst e
    have hA := ok_signs ha
    rw [hw, sheet_none]
    · cases A with
      | nil => exact absurd rfl hA.1
      | cons x A => exact (pre_head x (A ++ 58 :: B) A).trans h1
    · intro b hb
      simp only [List.mem_append, List.mem_cons] at hb
      rcases hb with hb | rfl | hb
      · exact h2 b hb
      · decide
      · exact (hB.2 b hb).2
  · obtain ⟨hn, e⟩ := sheet_whole h
    rw [if_neg h0] at e
    have hn := hn.resolve_left h0
    have : l = quoteL n ++ [33] ++ (a ++ 58 :: B) := by rw [hw, e]; simp
    rw [this, sheet_named n _ hn]
/-- A range, the sheet cut first. -/
def rangeD (l : List UInt8) : Rf × Rf × Int :=
  if (sheetC l).2.2 && (placeP (cutB (sheetC l).2.1 58).1).ok && (placeP (cutB (sheetC l).2.1 58).2.1).ok then
    (match foundR (bs (sheetC l).1) (placeP (cutB (sheetC l).2.1 58).1), foundR (bs (sheetC l).1) (placeP (cutB (sheetC l).2.1 58).2.1) with
      | some a, some b => (a, b, 0)
      | _, _ => (Rf.zero, Rf.zero, 41))
  else (Rf.zero, Rf.zero, 40)
theorem range_same (l : List UInt8) : parseRangeR l = rangeD l := by
  unfold parseRangeR rangeD readOk
  cases hs : (sheetC l).2.2
  · have : ((sheetC (cutB l 58).1).2.2 && (placeP (sheetC (cutB l 58).1).2.1).ok && (placeP (cutB l 58).2.1).ok) = false := by
      cases h1 : (sheetC (cutB l 58).1).2.2
      · rfl
      · cases h2 : (placeP (sheetC (cutB l 58).1).2.1).ok
        · rfl
        · cases h3 : (placeP (cutB l 58).2.1).ok
          · rfl
          · rw [range_back (by rw [← h1]) h2 h3] at hs
            cases hs
    rw [this]
    rfl
  · obtain ⟨e1, e2⟩ := range_there (l := l) (n := (sheetC l).1) (p := (sheetC l).2.1) (by rw [← hs])
    rw [e1, e2]
    rfl
end Go.Proofs.YtnblbakjfpfipaaGreatDoor
