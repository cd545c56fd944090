/- References, there and back. -/
import Derived.Test.YtnblbakjfpfipaaGreatDoorPpr
namespace Go.Proofs.YtnblbakjfpfipaaGreatDoor
open Go.RowKit

theorem bs_eq {x : ByteArray} : bs x.data.toList = x := rfl
theorem printL_eq {x : Rf} (h : rightB x = true) : printL x = if x.s.data.toList = [] then placeL x.c x.r x.ac x.ar else quoteL x.s.data.toList ++ [33] ++ placeL x.c x.r x.ac x.ar := by
  unfold printL
  rw [if_pos h]
theorem right_nat {x : Rf} (h : rightB x = true) : ∃ c r : Nat, x.c = c ∧ x.r = r ∧ 1 ≤ c ∧ c ≤ 64 ∧ 1 ≤ r ∧ r ≤ 512 := by
  have hb := rightB_bounds h
  exact ⟨x.c.toNat, x.r.toNat, by omega, by omega, by omega, by omega, by omega, by omega⟩
theorem found_back (s : ByteArray) (c r : Nat) (ac ar : Bool) (h1 : 1 ≤ c) (h2 : c ≤ 64) (h3 : 1 ≤ r) (h4 : r ≤ 512) : foundR s (placeP (placeL c r ac ar)) = some ⟨s, c, r, ac, ar⟩ := by
  rw [(place_back c r ac ar h1 h2 h3 h4).1]
  unfold foundR
  simp only
  rw [(letters_back c h1 h2).1, (digits_back r h3 h4).1]
  rw [if_pos (by simp [rowB]; omega)]
  rfl
theorem print_sheet {x : Rf} (h : rightB x = true) : sheetC (printL x) = (x.s.data.toList, placeL x.c x.r x.ac x.ar, true) := by
  obtain ⟨c, r, ec, er, h1, h2, h3, h4⟩ := right_nat h
  rw [printL_eq h]
  refine sheet_back _ _ (rightB_name h) ?_
  rw [ec, er]
  exact place_signs c r x.ac x.ar h1 h2 h3 h4
/-- A right reference that is written is read as it was. -/
theorem parse_print {x : Rf} (h : rightB x = true) : readOk (printL x) = true ∧ parseR (printL x) = (x, 0) := by
  obtain ⟨c, r, ec, er, h1, h2, h3, h4⟩ := right_nat h
  have hs := print_sheet h
  have hr : readOk (printL x) = true := by
    unfold readOk
    rw [hs]
    simp only
    rw [ec, er, (place_back c r x.ac x.ar h1 h2 h3 h4).2]
    rfl
  refine ⟨hr, ?_⟩
  unfold parseR
  rw [if_pos hr, hs]
  simp only
  rw [bs_eq, ec, er, found_back x.s c r x.ac x.ar h1 h2 h3 h4]
  obtain ⟨s, c', r', ac, ar⟩ := x
  simp only at ec er ⊢
  rw [ec, er]
theorem print_signs {x : Rf} (h : rightB x = true) : ∀ b ∈ printL x, b ≠ 58 := by
  obtain ⟨c, r, ec, er, h1, h2, h3, h4⟩ := right_nat h
  have hp : ∀ b ∈ placeL x.c x.r x.ac x.ar, b ≠ 58 := by
    rw [ec, er]
    exact fun b hb => (place_signs c r x.ac x.ar h1 h2 h3 h4 b hb).2.2
  rw [printL_eq h]
  split
  · exact hp
  · rename_i h0
    have hn := (rightB_name h).resolve_left h0
    intro b hb
    simp only [List.mem_append, List.mem_singleton] at hb
    rcases hb with (hb | hb) | hb
    · unfold quoteL at hb
      split at hb
      · exact name_signs hn b hb
      · simp only [List.mem_cons, List.mem_append, List.not_mem_nil, or_false] at hb
        rcases hb with rfl | hb | rfl
        · decide
        · exact name_signs hn b (dbl_mem _ b hb)
        · decide
    · subst hb; decide
    · exact hp b hb
theorem withSheet_same {a b : Rf} (h : b.s = a.s) : withSheet a b = b := by
  unfold withSheet
  split
  · obtain ⟨s, c, r, ac, ar⟩ := b
    simp only at h ⊢
    rw [h]
  · rfl
/-- A right range that is written is read as it was. -/
theorem parse_range {a b : Rf} (ha : rightB a = true) (hb : rightB b = true) (he : b.s = a.s) : parseRangeR (printRangeL a b) = (a, b, 0) := by
  obtain ⟨c, r, ec, er, h1, h2, h3, h4⟩ := right_nat hb
  obtain ⟨c2, r2, ec2, er2, g1, g2, g3, g4⟩ := right_nat ha
  have ep : printRangeL a b = printL a ++ 58 :: placeL b.c b.r b.ac b.ar := by
    unfold printRangeL
    rw [withSheet_same he, ha, hb, he, if_pos (by simp)]
    simp
  have hc := cut_first (printL a) (placeL b.c b.r b.ac b.ar) 58 (print_signs ha)
  have hok : (placeP (placeL b.c b.r b.ac b.ar)).ok = true := by rw [ec, er]; exact (place_back c r b.ac b.ar h1 h2 h3 h4).2
  unfold parseRangeR
  rw [ep, hc]
  simp only
  rw [(parse_print ha).1, hok, print_sheet ha]
  simp only [Bool.and_self, if_true]
  rw [bs_eq, ec2, er2, found_back a.s c2 r2 a.ac a.ar g1 g2 g3 g4, ec, er, found_back a.s c r b.ac b.ar h1 h2 h3 h4]
  obtain ⟨s, c', r', ac, ar⟩ := a
  obtain ⟨s', c'', r'', ac', ar'⟩ := b
  simp only at *
  rw [ec, er, ec2, er2, he]

theorem rowN_snoc (D : List UInt8) (d : UInt8) : rowN (D ++ [d]) = rowN D * 10 + (d.toNat - 48) := by
  unfold rowN
  rw [List.foldl_append]
  rfl
theorem rowN_ge : ∀ (D : List UInt8) (a : Nat), a ≤ D.foldl (fun a b => a * 10 + (b.toNat - 48)) a
  | [], a => Nat.le_refl _
  | d :: D, a => by
    have := rowN_ge D (a * 10 + (d.toNat - 48))
    simp only [List.foldl_cons]
    omega
theorem rowN_pos (D : List UInt8) (h0 : D ≠ []) (hd : ∀ b ∈ D, 48 ≤ b.toNat ∧ b.toNat ≤ 57) (hh : D.head? ≠ some 48) : 1 ≤ rowN D := by
  cases D with
  | nil => exact absurd rfl h0
  | cons d D =>
    have h1 := hd d (by simp)
    have h2 : d.toNat ≠ 48 := fun e => hh (by rw [show d = 48 from UInt8.toNat_inj.1 e]; rfl)
    have := rowN_ge D (0 * 10 + (d.toNat - 48))
    unfold rowN
    simp only [List.foldl_cons]
    omega
theorem digits_whole : ∀ (n : Nat) (D : List UInt8), D.length = n → D ≠ [] → (∀ b ∈ D, 48 ≤ b.toNat ∧ b.toNat ≤ 57) → D.head? ≠ some 48 → Lib.decDigits (rowN D) = D
  | 0, D, hl, h0, _, _ => absurd (List.length_eq_zero_iff.1 hl) h0
  | n + 1, D, hl, h0, hd, hh => by
    obtain ⟨E, d, rfl⟩ : ∃ E d, D = E ++ [d] := ⟨D.dropLast, D.getLast h0, (List.dropLast_concat_getLast h0).symm⟩
    have hdd := hd d (by simp)
    have he : UInt8.ofNat (48 + (d.toNat - 48)) = d := by
      apply UInt8.toNat_inj.1
      rw [UInt8.toNat_ofNat']
      omega
    rw [rowN_snoc]
    by_cases hE : E = []
    · subst hE
      unfold Lib.decDigits
      rw [show rowN [] = 0 from rfl, dif_pos (by omega)]
      simp only [Nat.zero_mul, Nat.zero_add, List.nil_append]
      rw [he]
    · have hhE : E.head? ≠ some 48 := by
        cases E with
        | nil => exact absurd rfl hE
        | cons a E => simpa using hh
      have hdE : ∀ b ∈ E, 48 ≤ b.toNat ∧ b.toNat ≤ 57 := fun b hb => hd b (by simp [hb])
      have hp := rowN_pos E hE hdE hhE
      have ih := digits_whole n E (by simp at hl; omega) hE hdE hhE
      rw [Lib.decDigits, dif_neg (by omega), show (rowN E * 10 + (d.toNat - 48)) / 10 = rowN E by omega, show (rowN E * 10 + (d.toNat - 48)) % 10 = d.toNat - 48 by omega, ih, he]
set_option maxRecDepth 100000 in
theorem one_all : (List.range 256).all (fun n => match colOf [UInt8.ofNat n] with | none => true | some m => lettersL m == [UInt8.ofNat n]) = true := by kernel_rfl
set_option maxRecDepth 100000 in
theorem two_all : [65, 66].all (fun a => (List.range 256).all (fun n => match colOf [a, UInt8.ofNat n] with | none => true | some m => lettersL m == [a, UInt8.ofNat n])) = true := by kernel_rfl
theorem letters_whole {l : List UInt8} {m : Nat} (h : colOf l = some m) : lettersL m = l := by
  match l, h with
  | [], h => cases h
  | [a], h =>
    have := List.all_eq_true.1 one_all a.toNat (List.mem_range.2 a.toNat_lt)
    rw [show UInt8.ofNat a.toNat = a from UInt8.toNat_inj.1 (by simp), h] at this
    simpa using this
  | [a, b], h =>
    have hab : a = 65 ∨ a = 66 := by
      unfold colOf colN at h
      simp only [List.cons_ne_nil, if_false, List.foldl_cons, List.foldl_nil] at h
      unfold colStep at h
      simp only [Option.bind_some] at h
      split at h
      · rename_i h1
        simp only [Option.bind_some] at h
        split at h
        · rename_i h2
          simp [isCap] at h1 h2
          have : a.toNat = 65 ∨ a.toNat = 66 := by omega
          exact this.imp (fun e => UInt8.toNat_inj.1 e) (fun e => UInt8.toNat_inj.1 e)
        · cases h
      · cases h
    have := List.all_eq_true.1 two_all a (by rcases hab with rfl | rfl <;> simp)
    have := List.all_eq_true.1 this b.toNat (List.mem_range.2 b.toNat_lt)
    rw [show UInt8.ofNat b.toNat = b from UInt8.toNat_inj.1 (by simp), h] at this
    simpa using this
  | a :: b :: c :: r, h =>
    exfalso
    unfold colOf colN at h
    simp only [List.cons_ne_nil, if_false, List.foldl_cons] at h
    have key : colStep (colStep (colStep (some 0) a) b) c = none := by
      unfold colStep
      simp only [Option.bind_some]
      split
      · simp only [Option.bind_some]
        split
        · simp only [Option.bind_some]
          rw [if_neg (by simp; omega)]
        · rfl
      · rfl
    rw [key, colN_none] at h
    cases h
/-- What is read is right, and is written so. -/
theorem print_parse {l : List UInt8} {x : Rf} (h : parseR l = (x, 0)) : rightB x = true ∧ printL x = l := by
  unfold parseR at h
  split at h
  · rename_i hr
    cases hf : foundR (bs (sheetC l).1) (placeP (sheetC l).2.1) with
    | none => rw [hf] at h; simp at h
    | some y =>
      rw [hf] at h
      simp only [Prod.mk.injEq, and_true] at h
      subst h
      unfold readOk at hr
      rw [Bool.and_eq_true] at hr
      have hsw := sheet_whole (l := l) (n := (sheetC l).1) (p := (sheetC l).2.1) (by rw [← hr.1])
      have hw := place_whole (sheetC l).2.1
      have hdg : ∀ b ∈ (placeP (sheetC l).2.1).digits, 48 ≤ b.toNat ∧ b.toNat ≤ 57 := fun b hb => dig_bounds (ahead_mem (l := Lib.trimPrefix (behindL (Lib.trimPrefix (sheetC l).2.1 [36]) capL) [36]) (cs := digL) hb)
      have hok := hr.2
      generalize (sheetC l).1 = n at *
      generalize (sheetC l).2.1 = p at *
      generalize placeP p = q at *
      obtain ⟨L, D, R, ac, ar⟩ := q
      unfold foundR at hf
      simp only at hf hw hdg
      split at hf
      · rename_i hc
        rw [Bool.and_eq_true] at hc
        obtain ⟨m, hm⟩ := Option.isSome_iff_exists.1 hc.1
        have hml := colOf_le hm
        cases hf
        unfold Pl.ok at hok
        simp only [Bool.and_eq_true] at hok
        have hR : R = [] := by simpa using hok.2
        have hD : D ≠ [] ∧ D.head? ≠ some 48 := by
          have := hok.1.2
          unfold digitsOk at this
          simp at this
          exact ⟨this.1.1, this.2⟩
        have hrb : 1 ≤ rowN D ∧ rowN D ≤ 512 := by
          have := hc.2
          simp [rowB] at this
          omega
        have hpl : placeL ((m : Nat) : Int) ((rowN D : Nat) : Int) ac ar = p := by
          unfold placeL lettersS Lib.itoa
          rw [if_pos (by simp [colB]; omega), if_neg (by omega), hw, hR]
          simp only [Int.toNat_natCast, List.append_nil]
          rw [letters_whole hm, digits_whole _ D rfl hD.1 hdg hD.2]
        have hright : rightB ⟨bs n, ((colOf L).getD 0 : Nat), (rowN D : Nat), ac, ar⟩ = true := by
          unfold rightB
          rw [hm]
          simp only [Option.getD_some, Bool.and_eq_true, Bool.or_eq_true]
          refine ⟨⟨by simp [colB]; omega, by simp [rowB]; omega⟩, ?_⟩
          rcases hsw.1 with h | h
          · left; rw [h, bs_toList]; rfl
          · right; exact h
        refine ⟨hright, ?_⟩
        rw [printL_eq hright]
        simp only [hm, Option.getD_some]
        rw [hpl]
        exact hsw.2.symm
      · cases hf
  · simp at h
end Go.Proofs.YtnblbakjfpfipaaGreatDoor
