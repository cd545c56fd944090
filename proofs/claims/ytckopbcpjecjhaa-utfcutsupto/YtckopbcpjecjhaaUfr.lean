/- Texts and their characters: Runes, Valid, Text over lists; back and forth. -/
import Derived.Test.YtckopbcpjecjhaaUft
namespace Go.Proofs.Ytckopbcpjecjhaa

/-- The characters of bytes (at most f of them). -/
def runesF : Nat → List Nat → List Nat
  | 0, _ => []
  | f + 1, l => if l = [] then [] else (decL l).1 :: runesF f (l.drop (decL l).2)
/-- Are bytes a text? -/
def validF : Nat → List Nat → Bool
  | 0, _ => true
  | f + 1, l => if l = [] then true else if decL l = (65533, 1) then false else validF f (l.drop (decL l).2)
def runesL (l : List Nat) : List Nat := runesF l.length l
def validL (l : List Nat) : Bool := validF l.length l
/-- A number, or what stands for one that is no character. -/
def chrZ (n : Int) : Nat := if charZ n then n.toNat else 65533
def textL (ns : List Int) : List Nat := ns.flatMap fun n => wrN (chrZ n)

theorem chrZ_char (n : Int) : charZ (chrZ n : Nat) := by
  unfold chrZ
  split
  · rename_i h
    rw [Int.toNat_of_nonneg h.1]
    exact h
  · exact ⟨by omega, by omega, by omega⟩
theorem chrZ_id {n : Nat} (h : charZ n) : chrZ n = n := by
  unfold chrZ
  rw [if_pos h, Int.toNat_natCast]
theorem wrN_ne (n : Nat) : wrN n ≠ [] := by
  intro h
  have := congrArg List.length h
  rw [wrN_len] at this
  repeat' split at this
  all_goals simp at this
theorem bys_text (ns : List Int) : Bys (textL ns) := by
  intro x hx
  unfold textL at hx
  obtain ⟨n, _, hn⟩ := List.mem_flatMap.1 hx
  exact wrN_byte (by have := (chrZ_char n).2.1; omega) x hn
theorem dec_eq : ∀ {l : List Nat}, l ≠ [] → 0 < l.length := fun h => List.length_pos_iff.2 h

/-- More fuel than there are bytes changes nothing. -/
theorem runesF_more : ∀ (f g : Nat) (l : List Nat), l.length ≤ f → l.length ≤ g → runesF f l = runesF g l
  | 0, g, l, hf, _ => by
    obtain rfl : l = [] := List.eq_nil_of_length_eq_zero (by omega)
    cases g <;> simp [runesF]
  | f + 1, 0, l, _, hg => by
    obtain rfl : l = [] := List.eq_nil_of_length_eq_zero (by omega)
    simp [runesF]
  | f + 1, g + 1, l, hf, hg => by
    unfold runesF
    split
    · rfl
    · have := (dec_size l).1
      rw [runesF_more f g (l.drop (decL l).2) (by rw [List.length_drop]; omega) (by rw [List.length_drop]; omega)]
theorem validF_more : ∀ (f g : Nat) (l : List Nat), l.length ≤ f → l.length ≤ g → validF f l = validF g l
  | 0, g, l, hf, _ => by
    obtain rfl : l = [] := List.eq_nil_of_length_eq_zero (by omega)
    cases g <;> simp [validF]
  | f + 1, 0, l, _, hg => by
    obtain rfl : l = [] := List.eq_nil_of_length_eq_zero (by omega)
    simp [validF]
  | f + 1, g + 1, l, hf, hg => by
    unfold validF
    split
    · rfl
    · split
      · rfl
      · have := (dec_size l).1
        rw [validF_more f g (l.drop (decL l).2) (by rw [List.length_drop]; omega) (by rw [List.length_drop]; omega)]
theorem runesL_step {l : List Nat} (h : l ≠ []) : runesL l = (decL l).1 :: runesL (l.drop (decL l).2) := by
  have h0 := dec_eq h
  have h1 := (dec_size l).1
  obtain ⟨f, hf⟩ : ∃ f, l.length = f + 1 := ⟨l.length - 1, by omega⟩
  unfold runesL
  rw [hf, runesF, if_neg h, runesF_more f _ _ (by rw [List.length_drop]; omega) (Nat.le_refl _)]
theorem validL_step {l : List Nat} (h : l ≠ []) (h1 : decL l ≠ (65533, 1)) : validL l = validL (l.drop (decL l).2) := by
  have h0 := dec_eq h
  have h2 := (dec_size l).1
  obtain ⟨f, hf⟩ : ∃ f, l.length = f + 1 := ⟨l.length - 1, by omega⟩
  unfold validL
  rw [hf, validF, if_neg h, if_neg h1, validF_more f _ _ (by rw [List.length_drop]; omega) (Nat.le_refl _)]
theorem validL_bad {l : List Nat} (h : l ≠ []) (h1 : decL l = (65533, 1)) : validL l = false := by
  have h0 := dec_eq h
  obtain ⟨f, hf⟩ : ∃ f, l.length = f + 1 := ⟨l.length - 1, by omega⟩
  unfold validL
  rw [hf, validF, if_neg h, if_pos h1]

/-- What is written is read. -/
theorem runes_text (ns : List Int) : runesL (textL ns) = ns.map chrZ := by
  induction ns with
  | nil => rfl
  | cons n r ih =>
    have e : textL (n :: r) = wrN (chrZ n) ++ textL r := by simp [textL]
    have hd := dec_wr (chrZ n) (chrZ_char n) (textL r)
    rw [e, runesL_step (by simp [wrN_ne]), hd]
    simp [ih]
theorem valid_text (ns : List Int) : validL (textL ns) = true := by
  induction ns with
  | nil => rfl
  | cons n r ih =>
    have e : textL (n :: r) = wrN (chrZ n) ++ textL r := by simp [textL]
    have hd := dec_wr (chrZ n) (chrZ_char n) (textL r)
    have h1 : (wrN (chrZ n)).length = 1 → chrZ n < 128 := by
      rw [wrN_len]
      repeat' split
      all_goals simp
      assumption
    rw [e, validL_step (by simp [wrN_ne]) (by rw [hd]; intro h; simp only [Prod.mk.injEq] at h; have := h1 h.2; omega), hd]
    simp [ih]
/-- What is a text is written as it was. -/
theorem text_runes : ∀ (k : Nat) (l : List Nat), l.length ≤ k → Bys l → validL l = true → textL ((runesL l).map Int.ofNat) = l
  | 0, l, hk, _, _ => by
    obtain rfl : l = [] := List.eq_nil_of_length_eq_zero (by omega)
    rfl
  | k + 1, l, hk, hb, hv => by
    by_cases h : l = []
    · subst h; rfl
    by_cases h1 : decL l = (65533, 1)
    · rw [validL_bad h h1] at hv; cases hv
    obtain ⟨hc, r, hl, hw⟩ := dec_ok hb h h1
    have hd : l.drop (decL l).2 = r := by
      rw [← hw]
      conv => lhs; arg 2; rw [hl]
      simp
    rw [validL_step h h1, hd] at hv
    have hr : r.length ≤ k := by
      have h9 := (dec_size l).1
      have := congrArg List.length hl
      rw [List.length_append, hw] at this
      omega
    have ih := text_runes k r hr (fun x hx => hb x (by rw [hl]; simp [hx])) hv
    rw [runesL_step h, hd]
    show wrN (chrZ ((decL l).1 : Nat)) ++ textL ((runesL r).map Int.ofNat) = l
    rw [chrZ_id hc, ih, ← hl]
end Go.Proofs.Ytckopbcpjecjhaa
