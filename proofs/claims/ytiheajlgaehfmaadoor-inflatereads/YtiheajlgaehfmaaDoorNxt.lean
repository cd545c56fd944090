import Derived.Test.YtiheajlgaehfmaaDoorPreM
import Derived.Test.YtiheajlgaehfmaaDoorPreM
/- What a decoder answers, as two plain recursions: by counts (the program's way), by codes (the document's way); they answer the same. -/
namespace Go.Proofs.YtiheajlgaehfmaaDoor
open Go.RowKit

/-! ### the symbols in the order of their codes -/
def symsTo (zs : List Int) : Nat → List Nat
  | 0 => []
  | k + 1 => symsTo zs k ++ (ofF zs ((k : Int) + 1) zs.length).map (fun x => x.1)
theorem ofF_count (zs : List Int) (m : Nat) (k : Nat) (hk : k ≤ zs.length) : (ofF zs m k).length = cntB zs m k := by
  induction k with
  | zero => simp [ofF, cntB, cnt]
  | succ k ih =>
    have hlt : k < zs.length := by omega
    rw [cntB_succ zs m k hlt]
    by_cases e : zs[k]?.getD 0 = (m : Int)
    · rw [ofF_yes zs m k hlt e, if_pos e, List.length_append, ih (by omega)]
      rfl
    · rw [ofF_no zs m k e, if_neg e, ih (by omega)]
      rfl
theorem ofF_place (zs : List Int) (m : Nat) (i k : Nat) (hk : k ≤ zs.length) (hik : i < k) (e : zs[i]?.getD 0 = (m : Int)) : ((ofF zs m k).map (fun x => x.1))[cntB zs m i]? = some i := by
  induction k with
  | zero => omega
  | succ k ih =>
    have hlt : k < zs.length := by omega
    by_cases hi : i = k
    · subst hi
      rw [ofF_yes zs m i hlt e, List.map_append, List.getElem?_append_right (by rw [List.length_map, ofF_count zs m i (by omega)]; exact Nat.le_refl _), List.length_map, ofF_count zs m i (by omega), Nat.sub_self]
      rfl
    · have h := ih (by omega) (by omega)
      have hl : cntB zs m i < ((ofF zs m k).map (fun x => x.1)).length := (List.getElem?_eq_some_iff.1 h).1
      by_cases e' : zs[k]?.getD 0 = (m : Int)
      · rw [ofF_yes zs m k hlt e', List.map_append, List.getElem?_append_left hl]
        exact h
      · rw [ofF_no zs m k e']
        exact h
theorem ofF_mem (zs : List Int) (m : Int) (k : Nat) (x : Fin zs.length) (hx : x ∈ ofF zs m k) : zs[x.1]?.getD 0 = m := by
  induction k with
  | zero => simp [ofF] at hx
  | succ k ih =>
    rw [ofF, List.mem_append] at hx
    rcases hx with hx | hx
    · exact ih hx
    · split at hx
      · split at hx
        · simp only [List.mem_singleton] at hx
          subst hx
          assumption
        · simp at hx
      · simp at hx
theorem symsTo_length (zs : List Int) (k : Nat) : (symsTo zs k).length = nsum zs k := by
  induction k with
  | zero => rfl
  | succ k ih =>
    have := ofF_count zs (k + 1) zs.length (Nat.le_refl _)
    rw [cntB_all] at this
    rw [symsTo, List.length_append, List.length_map, ih, nsum]
    have e : ((k : Int) + 1) = ((k + 1 : Nat) : Int) := by simp
    rw [e, this]
theorem symsTo_at (zs : List Int) (k i : Nat) {v : Nat} (h : (symsTo zs k)[i]? = some v) {m : Nat} (hm : k ≤ m) : (symsTo zs m)[i]? = some v := by
  induction hm with
  | refl => exact h
  | step _ ih =>
    rw [symsTo, List.getElem?_append_left (List.getElem?_eq_some_iff.1 ih).1]
    exact ih
/-- The symbol number p of those with codes of k + 1 bits. -/
theorem symsTo_sym (zs : List Int) (i k : Nat) (hi : i < zs.length) (e : zs[i]?.getD 0 = ((k + 1 : Nat) : Int)) (hk : k < 15) : (symsTo zs 15)[nsum zs k + cntB zs (k + 1) i]? = some i := by
  refine symsTo_at zs (k + 1) _ ?_ (by omega)
  have e2 : ((k : Int) + 1) = ((k + 1 : Nat) : Int) := by simp
  rw [symsTo, e2, List.getElem?_append_right (by rw [symsTo_length]; omega), symsTo_length, Nat.add_sub_cancel_left]
  exact ofF_place zs (k + 1) i zs.length (Nat.le_refl _) hi e
/-- To each place among the symbols of one length there is a symbol. -/
theorem sym_of_place (zs : List Int) (m p : Nat) (hp : p < cnt zs m) : ∃ i, i < zs.length ∧ zs[i]?.getD 0 = (m : Int) ∧ cntB zs m i = p := by
  have key : ∀ n, n ≤ zs.length → p < cntB zs m n → ∃ i, i < n ∧ zs[i]?.getD 0 = (m : Int) ∧ cntB zs m i = p := by
    intro n
    induction n with
    | zero => intro _ h; simp [cntB, cnt] at h
    | succ n ih =>
      intro hn h
      by_cases hp' : p < cntB zs m n
      · obtain ⟨i, h1, h2⟩ := ih (by omega) hp'
        exact ⟨i, by omega, h2⟩
      · rw [cntB_succ zs m n (by omega)] at h
        by_cases e : zs[n]?.getD 0 = (m : Int)
        · rw [if_pos e] at h
          exact ⟨n, by omega, e, by omega⟩
        · rw [if_neg e] at h
          omega
  obtain ⟨i, h1, h2⟩ := key zs.length (Nat.le_refl _) (by rw [cntB_all]; exact hp)
  exact ⟨i, h1, h2⟩

/-! ### the program's way -/
/-- The answer: the symbol, the error, how many bits were taken. 99: never. -/
def nx (zs : List Int) (bit : Nat → Nat) (avail : Nat) : Nat → Nat → Nat → Nat × Int × Nat
  | 0, _, _ => (0, 99, 0)
  | f + 1, k, place =>
    if nsum zs k = nsum zs 15 then (0, 11, 0)
    else if k < avail then
      (if place + bit k < cnt zs (k + 1) then ((symsTo zs 15)[nsum zs k + (place + bit k)]?.getD 0, 0, k + 1)
       else nx zs bit avail f (k + 1) (2 * (place + bit k - cnt zs (k + 1))))
    else (0, 10, 0)

/-! ### the document's way -/
def codeAt (zs : List Int) (i : Nat) : Nat := (codesOf zs)[i]?.getD 0
def lenAt (zs : List Int) (i : Nat) : Int := zs[i]?.getD 0
def beginsAt (zs : List Int) (n code i : Nat) : Bool := decide ((n : Int) ≤ lenAt zs i) && decide (codeAt zs i / 2 ^ (lenAt zs i - n + 1).toNat = code)
def begins (zs : List Int) (n code k : Nat) : Bool := (List.range k).any (beginsAt zs n code)
def isSym (zs : List Int) (n code i : Nat) : Bool := decide (lenAt zs i = (n : Int)) && decide (codeAt zs i = code)
def rn (zs : List Int) (bit : Nat → Nat) (avail : Nat) : Nat → Nat → Nat → Nat × Int × Nat
  | 0, _, _ => (0, 11, 0)
  | f + 1, k, code =>
    if begins zs (k + 1) code zs.length then
      (if k < avail then
        (match (List.range zs.length).find? (isSym zs (k + 1) (2 * code + bit k)) with
         | some i => (i, 0, k + 1)
         | none => rn zs bit avail f (k + 1) (2 * code + bit k))
       else (0, 10, 0))
    else (0, 11, 0)

/-! ### they are the same -/
/-- The first number that no code of at most k bits has. -/
def nextNo (zs : List Int) (k : Nat) : Nat := (cstate zs k).2
structure Good (zs : List Int) : Prop where
  len : zs.length ≤ 320
  rng : inRange zs
  right : rightB zs = true
theorem Good.room {zs : List Int} (h : Good zs) : room zs 15 ≤ 32768 := room_right zs h.right
theorem Good.nextNo_room {zs : List Int} (h : Good zs) (k : Nat) (hk : k ≤ 15) : nextNo zs k * 2 ^ (15 - k) = YtiheajlgaehfmaaDoor.room zs k := (cstate_spec zs h.len h.room k hk).1
theorem nextNo_zero (zs : List Int) : nextNo zs 0 = 0 := rfl
theorem Good.nextNo_succ {zs : List Int} (h : Good zs) (k : Nat) (hk : k < 15) : nextNo zs (k + 1) = 2 * nextNo zs k + cnt zs (k + 1) := by
  have h1 := h.nextNo_room k (by omega)
  have h2 := h.nextNo_room (k + 1) (by omega)
  rw [YtiheajlgaehfmaaDoor.room, ← h1, show 15 - k = (14 - k) + 1 by omega, show 15 - (k + 1) = 14 - k by omega, Nat.pow_succ] at h2
  have hp : 0 < (2 : Nat) ^ (14 - k) := Nat.pow_pos (by omega)
  refine Nat.eq_of_mul_eq_mul_right hp ?_
  rw [h2, Nat.add_mul, Nat.mul_comm (2 ^ (14 - k)) 2, ← Nat.mul_assoc, Nat.mul_comm (nextNo zs k) 2]
theorem Good.code {zs : List Int} (h : Good zs) (i k : Nat) (hi : i < zs.length) (e : lenAt zs i = ((k + 1 : Nat) : Int)) (hk : k < 15) : codeAt zs i = 2 * nextNo zs k + cntB zs (k + 1) i := by
  have := (cstate_spec zs h.len h.room 15 (Nat.le_refl _)).2 i (k + 1) hi e (by omega) (by omega)
  rw [codeAt, codesOf, this]
  rfl
theorem nsum_mono (zs : List Int) {a b : Nat} (h : a ≤ b) : nsum zs a ≤ nsum zs b := by
  induction h with
  | refl => exact Nat.le_refl _
  | step _ ih => rw [nsum]; omega
theorem cnt_pos (zs : List Int) (m i : Nat) (hi : i < zs.length) (e : lenAt zs i = (m : Int)) : cntB zs m i < cnt zs m := by
  rw [← cntB_all]
  exact cntB_lt zs m i zs.length hi e hi
theorem lenAt_rng {zs : List Int} (h : inRange zs) (i : Nat) : 0 ≤ lenAt zs i ∧ lenAt zs i ≤ 15 := by
  by_cases hi : i < zs.length
  · have := h zs[i] (List.getElem_mem hi)
    rw [lenAt, List.getElem?_eq_getElem hi]
    exact this
  · rw [lenAt, List.getElem?_eq_none (by omega)]
    exact ⟨by simp, by simp⟩
theorem begins_iff (zs : List Int) (n code : Nat) : begins zs n code zs.length = true ↔ ∃ i, i < zs.length ∧ (n : Int) ≤ lenAt zs i ∧ codeAt zs i / 2 ^ (lenAt zs i - n + 1).toNat = code := by
  simp [begins, beginsAt, List.any_eq_true]
/-- Full codes: behind k bits that are no code some code goes on. -/
theorem Good.goes {zs : List Int} (h : Good zs) (hf : YtiheajlgaehfmaaDoor.room zs 15 = 32768) : ∀ d k : Nat, k + d = 15 → ∀ c, nextNo zs k ≤ c → c < 2 ^ k → ∃ i, i < zs.length ∧ ((k + 1 : Nat) : Int) ≤ lenAt zs i ∧ codeAt zs i / 2 ^ (lenAt zs i - (k + 1 : Nat) + 1).toNat = c := by
  intro d
  induction d with
  | zero =>
    intro k hk c h1 h2
    obtain rfl : k = 15 := by omega
    have := h.nextNo_room 15 (Nat.le_refl _)
    rw [hf] at this
    simp at this
    omega
  | succ d ih =>
    intro k hk c h1 h2
    have hn := h.nextNo_succ k (by omega)
    by_cases hc : 2 * c < nextNo zs (k + 1)
    · obtain ⟨i, hi, e, hp⟩ := sym_of_place zs (k + 1) (2 * c - 2 * nextNo zs k) (by omega)
      refine ⟨i, hi, by rw [lenAt, e]; exact Int.le_refl _, ?_⟩
      have hco := h.code i k hi e (by omega)
      rw [lenAt, e, hco, hp]
      have e1 : (((k + 1 : Nat) : Int) - ((k + 1 : Nat) : Int) + 1).toNat = 1 := by omega
      rw [e1]
      omega
    · obtain ⟨i, hi, e, hp⟩ := ih (k + 1) (by omega) (2 * c) (by omega) (by rw [Nat.pow_succ]; omega)
      refine ⟨i, hi, by omega, ?_⟩
      obtain ⟨L, hL⟩ : ∃ L : Nat, lenAt zs i = (L : Int) := ⟨(lenAt zs i).toNat, by have := (lenAt_rng h.rng i).1; omega⟩
      rw [hL] at e hp ⊢
      have e1 : ((L : Int) - ((k + 1 + 1 : Nat) : Int) + 1).toNat = L - (k + 1) := by omega
      have e2 : ((L : Int) - ((k + 1 : Nat) : Int) + 1).toNat = (L - (k + 1)) + 1 := by omega
      rw [e1] at hp
      rw [e2, Nat.pow_succ, ← Nat.div_div_eq_div_mul, hp]
      omega
/-- Whether a code goes on: by counts, and by codes. -/
theorem Good.begins_same {zs : List Int} (h : Good zs) (k c : Nat) (hk : k < 15) (h1 : nextNo zs k ≤ c) (h2 : c < 2 ^ k) (hs : YtiheajlgaehfmaaDoor.room zs 15 = 32768 ∨ k ≤ 1) : begins zs (k + 1) c zs.length = !decide (nsum zs k = nsum zs 15) := by
  by_cases hn : nsum zs k = nsum zs 15
  · rw [decide_eq_true hn]
    cases hb : begins zs (k + 1) c zs.length with
    | false => rfl
    | true =>
      exfalso
      obtain ⟨i, hi, e, _⟩ := (begins_iff _ _ _).1 hb
      obtain ⟨L, hL⟩ : ∃ L : Nat, lenAt zs i = (L + 1 : Nat) := ⟨(lenAt zs i).toNat - 1, by omega⟩
      have h3 := cnt_pos zs (L + 1) i hi hL
      have h4 := (lenAt_rng h.rng i).2
      rw [hL] at h4 e
      have h5 := nsum_mono zs (show k ≤ L by omega)
      have h6 := nsum_mono zs (show L + 1 ≤ 15 by omega)
      rw [nsum] at h6
      omega
  · rw [decide_eq_false hn]
    refine (begins_iff _ _ _).2 ?_
    have hr := h.right
    rw [right_same] at hr
    simp only [Bool.or_eq_true, Bool.and_eq_true, decide_eq_true_eq] at hr
    rcases hr with (hr | hr) | hr
    · exact h.goes hr (15 - k) k (by omega) c h1 h2
    · have := nsum_mono zs (show k ≤ 15 by omega)
      omega
    · have hk0 : nsum zs k = 0 := by have := nsum_mono zs (show k ≤ 15 by omega); omega
      have hc1 : cnt zs 1 ≠ 0 := fun e => by
        have := room_small zs 15 (Nat.le_refl _) e (by omega)
        omega
      obtain rfl : k = 0 := by
        rcases Nat.eq_zero_or_pos k with h0 | h0
        · exact h0
        · have := nsum_le zs 0 k h0
          simp only [Nat.zero_add] at this
          omega
      obtain ⟨i, hi, e, hp⟩ := sym_of_place zs 1 0 (by omega)
      have hco := h.code i 0 hi (by rw [lenAt, e]) (by omega)
      refine ⟨i, hi, by rw [lenAt, e]; simp, ?_⟩
      rw [lenAt, e, hco, nextNo_zero]
      simp only [Nat.zero_add] at hp ⊢
      rw [hp]
      simp at h2 ⊢
      omega
theorem Good.find_yes {zs : List Int} (h : Good zs) (k c p : Nat) (hk : k < 15) (hc : c = 2 * nextNo zs k + p) (hp : p < cnt zs (k + 1)) : ∃ i, (List.range zs.length).find? (isSym zs (k + 1) c) = some i ∧ (symsTo zs 15)[nsum zs k + p]? = some i := by
  obtain ⟨i, hi, e, hq⟩ := sym_of_place zs (k + 1) p hp
  have hco := h.code i k hi e hk
  have hsome : ((List.range zs.length).find? (isSym zs (k + 1) c)).isSome = true := by
    rw [List.find?_isSome]
    exact ⟨i, by simpa using hi, by simp only [isSym, Bool.and_eq_true, decide_eq_true_eq]; exact ⟨e, by rw [hco, hq, hc]⟩⟩
  obtain ⟨j, hj⟩ := Option.isSome_iff_exists.1 hsome
  have hj1 := List.find?_some hj
  have hj2 := List.mem_of_find?_eq_some hj
  simp only [isSym, Bool.and_eq_true, decide_eq_true_eq] at hj1
  simp only [List.mem_range] at hj2
  have hcj := h.code j k hj2 hj1.1 hk
  have hpj : cntB zs (k + 1) j = p := by omega
  refine ⟨j, hj, ?_⟩
  have := symsTo_sym zs j k hj2 hj1.1 hk
  rwa [hpj] at this
theorem Good.find_no {zs : List Int} (h : Good zs) (k c : Nat) (hk : k < 15) (hc : 2 * nextNo zs k + cnt zs (k + 1) ≤ c) : (List.range zs.length).find? (isSym zs (k + 1) c) = none := by
  rw [List.find?_eq_none]
  intro i hi hs
  simp only [isSym, Bool.and_eq_true, decide_eq_true_eq] at hs
  simp only [List.mem_range] at hi
  have hco := h.code i k hi hs.1 hk
  have := cnt_pos zs (k + 1) i hi hs.1
  omega
theorem Good.same_go {zs : List Int} (h : Good zs) (bit : Nat → Nat) (hb : ∀ k, bit k < 2) (avail : Nat) : ∀ f k code place : Nat, k + f = 15 → nextNo zs k ≤ code → code < 2 ^ k → place = 2 * (code - nextNo zs k) → (YtiheajlgaehfmaaDoor.room zs 15 = 32768 ∨ k ≤ 1) →
    nx zs bit avail f k place = rn zs bit avail f k code := by
  intro f
  induction f with
  | zero =>
    intro k code place hk h1 h2 h3 h4
    obtain rfl : k = 15 := by omega
    have := h.nextNo_room 15 (Nat.le_refl _)
    rcases h4 with h4 | h4
    · rw [h4] at this
      simp at this
      omega
    · omega
  | succ f ih =>
    intro k code place hk h1 h2 h3 h4
    have hbg := h.begins_same k code (by omega) h1 h2 h4
    have hn := h.nextNo_succ k (by omega)
    have hbk := hb k
    rw [nx, rn, hbg]
    by_cases hs : nsum zs k = nsum zs 15
    · rw [if_pos hs, decide_eq_true hs]
      rfl
    · rw [if_neg hs, decide_eq_false hs]
      simp only [Bool.not_false, if_true]
      by_cases ha : k < avail
      · rw [if_pos ha, if_pos ha]
        by_cases hp : place + bit k < cnt zs (k + 1)
        · rw [if_pos hp]
          obtain ⟨i, hi, hsy⟩ := h.find_yes k (2 * code + bit k) (place + bit k) (by omega) (by omega) hp
          rw [hi, hsy]
          rfl
        · rw [if_neg hp, h.find_no k (2 * code + bit k) (by omega) (by omega)]
          refine ih (k + 1) _ _ (by omega) (by omega) (by rw [Nat.pow_succ]; omega) (by omega) ?_
          rcases h4 with h4 | h4
          · exact .inl h4
          · have hr := h.right
            rw [right_same] at hr
            simp only [Bool.or_eq_true, Bool.and_eq_true, decide_eq_true_eq] at hr
            rcases hr with (hr | hr) | hr
            · exact .inl hr
            · have := nsum_mono zs (show k ≤ 15 by omega)
              omega
            · refine .inr ?_
              have hk0 : nsum zs k = 0 := by have := nsum_mono zs (show k ≤ 15 by omega); omega
              have hc1 : cnt zs 1 ≠ 0 := fun e => by
                have := room_small zs 15 (Nat.le_refl _) e (by omega)
                omega
              rcases Nat.eq_zero_or_pos k with h0 | h0
              · omega
              · have := nsum_le zs 0 k h0
                simp only [Nat.zero_add] at this
                omega
      · rw [if_neg ha, if_neg ha]
/-- The two ways answer the same. -/
theorem Good.same {zs : List Int} (h : Good zs) (bit : Nat → Nat) (hb : ∀ k, bit k < 2) (avail : Nat) : nx zs bit avail 15 0 0 = rn zs bit avail 15 0 0 :=
  h.same_go bit hb avail 15 0 0 0 rfl (by rw [nextNo_zero]; exact Nat.le_refl _) (by simp) (by simp) (.inr (by omega))
theorem rn_err (zs : List Int) (bit : Nat → Nat) (avail : Nat) : ∀ f k code, (rn zs bit avail f k code).2.1 = 0 ∨ (rn zs bit avail f k code).2.1 = 10 ∨ (rn zs bit avail f k code).2.1 = 11 := by
  intro f
  induction f with
  | zero => intro k code; exact .inr (.inr rfl)
  | succ f ih =>
    intro k code
    rw [rn]
    split
    · split
      · split
        · exact .inl rfl
        · exact ih _ _
      · exact .inr (.inl rfl)
    · exact .inr (.inr rfl)
theorem Good.nx_ne {zs : List Int} (h : Good zs) (bit : Nat → Nat) (hb : ∀ k, bit k < 2) (avail : Nat) : (nx zs bit avail 15 0 0).2.1 ≠ 99 := by
  rw [h.same bit hb avail]
  have := rn_err zs bit avail 15 0 0
  omega
/-- What is found: no more bits are taken than there are. -/
theorem rn_taken (zs : List Int) (bit : Nat → Nat) (avail : Nat) : ∀ f k code, ((rn zs bit avail f k code).2.1 = 0 → (rn zs bit avail f k code).2.2 ≤ avail ∧ (rn zs bit avail f k code).2.2 ≤ k + f) ∧ ((rn zs bit avail f k code).2.1 ≠ 0 → (rn zs bit avail f k code).1 = 0 ∧ (rn zs bit avail f k code).2.2 = 0) := by
  intro f
  induction f with
  | zero => intro k code; exact ⟨fun h => by simp [rn] at h, fun _ => ⟨rfl, rfl⟩⟩
  | succ f ih =>
    intro k code
    rw [rn]
    split
    · split
      · split
        · exact ⟨fun _ => ⟨by simp only; omega, by simp only; omega⟩, fun h => by simp at h⟩
        · have := ih (k + 1) (2 * code + bit k)
          exact ⟨fun h => ⟨(this.1 h).1, by have := (this.1 h).2; omega⟩, this.2⟩
      · exact ⟨fun h => by simp at h, fun _ => ⟨rfl, rfl⟩⟩
    · exact ⟨fun h => by simp at h, fun _ => ⟨rfl, rfl⟩⟩

/-! ### bits that spell a code are read as its symbol -/
theorem codeAt_some {zs : List Int} (i : Nat) (hi : i < zs.length) : (codesOf zs)[i]? = some (codeAt zs i) := by
  have hl : i < (codesOf zs).length := by rw [codesOf, cstate_length]; exact hi
  rw [codeAt, List.getElem?_eq_getElem hl]
  rfl
theorem Good.reads {zs : List Int} (h : Good zs) (s n : Nat) (hs : s < zs.length) (hn : lenAt zs s = (n : Int)) (h1 : 1 ≤ n) (bit : Nat → Nat) (avail : Nat) (ha : n ≤ avail)
    (hbit : ∀ k, k < n → 2 * (codeAt zs s / 2 ^ (n - k)) + bit k = codeAt zs s / 2 ^ (n - (k + 1))) : ∀ f k : Nat, k + f = 15 → k < n → rn zs bit avail f k (codeAt zs s / 2 ^ (n - k)) = (s, 0, n) := by
  have hn15 : n ≤ 15 := by have := (lenAt_rng h.rng s).2; omega
  intro f
  induction f with
  | zero => intro k hk hkn; omega
  | succ f ih =>
    intro k hk hkn
    have hbg : begins zs (k + 1) (codeAt zs s / 2 ^ (n - k)) zs.length = true := by
      refine (begins_iff _ _ _).2 ⟨s, hs, by rw [hn]; omega, ?_⟩
      rw [hn, show ((n : Int) - ((k + 1 : Nat) : Int) + 1).toNat = n - k by omega]
    rw [rn, hbg]
    simp only [if_true]
    rw [if_pos (show k < avail by omega), hbit k hkn]
    by_cases hk1 : k + 1 = n
    · subst hk1
      rw [show k + 1 - (k + 1) = 0 by omega, Nat.pow_zero, Nat.div_one]
      have hsome : ((List.range zs.length).find? (isSym zs (k + 1) (codeAt zs s))).isSome = true := by
        rw [List.find?_isSome]
        exact ⟨s, by simpa using hs, by simp only [isSym, Bool.and_eq_true, decide_eq_true_eq]; exact ⟨hn, trivial⟩⟩
      obtain ⟨j, hj⟩ := Option.isSome_iff_exists.1 hsome
      have hj1 := List.find?_some hj
      have hj2 := List.mem_of_find?_eq_some hj
      simp only [isSym, Bool.and_eq_true, decide_eq_true_eq] at hj1
      simp only [List.mem_range] at hj2
      rw [hj]
      by_cases e : j = s
      · rw [e]
      · exfalso
        have := prefix_free zs h.len h.room j s (k + 1) (k + 1) _ _ hj2 hs hj1.1 hn e h1 (Nat.le_refl _) hn15 (codeAt_some j hj2) (codeAt_some s hs)
        rw [Nat.sub_self, Nat.pow_zero, Nat.div_one] at this
        exact this hj1.2.symm
    · have hnone : (List.range zs.length).find? (isSym zs (k + 1) (codeAt zs s / 2 ^ (n - (k + 1)))) = none := by
        rw [List.find?_eq_none]
        intro i hi hi2
        simp only [isSym, Bool.and_eq_true, decide_eq_true_eq] at hi2
        simp only [List.mem_range] at hi
        have hne : i ≠ s := fun e => by rw [e, hn] at hi2; omega
        exact prefix_free zs h.len h.room i s (k + 1) n _ _ hi hs hi2.1 hn hne (by omega) (by omega) hn15 (codeAt_some i hi) (codeAt_some s hs) hi2.2.symm
      rw [hnone]
      exact ih (k + 1) (by omega) (by omega)
theorem Good.code_lt {zs : List Int} (h : Good zs) (s n : Nat) (hs : s < zs.length) (hn : lenAt zs s = (n : Int)) (h1 : 1 ≤ n) : codeAt zs s < 2 ^ n := by
  have hn15 : n ≤ 15 := by have := (lenAt_rng h.rng s).2; omega
  obtain ⟨k, rfl⟩ : ∃ k, n = k + 1 := ⟨n - 1, by omega⟩
  have hco := h.code s k hs hn (by omega)
  have hp := cnt_pos zs (k + 1) s hs hn
  have hnn := h.nextNo_succ k (by omega)
  have hr := h.nextNo_room (k + 1) (by omega)
  have hm := room_mono zs hn15
  have hrm := h.room
  have hle : nextNo zs (k + 1) ≤ 2 ^ (k + 1) := by
    have e : (2 : Nat) ^ (k + 1) * 2 ^ (15 - (k + 1)) = 32768 := by rw [← Nat.pow_add, show k + 1 + (15 - (k + 1)) = 15 by omega]
    refine Nat.le_of_mul_le_mul_right (c := 2 ^ (15 - (k + 1))) ?_ (Nat.pow_pos (by omega))
    rw [e, hr]
    omega
  omega
/-- A decoder reads the symbol whose code the bits spell, the highest bit first. -/
theorem Good.nx_reads {zs : List Int} (h : Good zs) (s n : Nat) (hs : s < zs.length) (hn : lenAt zs s = (n : Int)) (h1 : 1 ≤ n) (bit : Nat → Nat) (hb : ∀ k, bit k < 2) (avail : Nat) (ha : n ≤ avail)
    (hbit : ∀ k, k < n → bit k = codeAt zs s / 2 ^ (n - 1 - k) % 2) : nx zs bit avail 15 0 0 = (s, 0, n) := by
  have hc := h.code_lt s n hs hn h1
  rw [h.same bit hb avail]
  have := h.reads s n hs hn h1 bit avail ha (fun k hk => by
    rw [hbit k hk, show n - (k + 1) = n - 1 - k by omega, show n - k = (n - 1 - k) + 1 by omega, Nat.pow_succ, ← Nat.div_div_eq_div_mul]
    omega) 15 0 rfl (by omega)
  rwa [Nat.sub_zero, Nat.div_eq_of_lt hc] at this
end Go.Proofs.YtiheajlgaehfmaaDoor
