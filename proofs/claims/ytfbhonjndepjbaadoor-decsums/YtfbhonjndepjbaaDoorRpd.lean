import Derived.Test.YtfbhonjndepjbaaDoorRog
/- Pure: lists of digits as numbers. -/
namespace Go.Proofs.YtfbhonjndepjbaaDoor

def DgL (ds : List Int) : Prop := ∀ d ∈ ds, 0 ≤ d ∧ d ≤ 9
theorem DgL.get {ds : List Int} (h : DgL ds) (i : Nat) : 0 ≤ ds[i]?.getD 0 ∧ ds[i]?.getD 0 ≤ 9 := by
  by_cases hi : i < ds.length
  · rw [List.getElem?_eq_getElem hi]; exact h _ (List.getElem_mem hi)
  · rw [List.getElem?_eq_none (by omega)]; exact ⟨by decide, by decide⟩
theorem dval_nonneg {ds : List Int} (h : DgL ds) : 0 ≤ dval ds := by
  induction ds with
  | nil => exact Int.le_refl _
  | cons d r ih =>
    have h1 := h d (by simp)
    have h2 := ih (fun x hx => h x (by simp [hx]))
    show 0 ≤ d + 10 * dval r
    omega
theorem dval_append (a b : List Int) : dval (a ++ b) = dval a + 10 ^ a.length * dval b := by
  induction a with
  | nil => simp [dval]
  | cons d r ih =>
    show d + 10 * dval (r ++ b) = d + 10 * dval r + _
    rw [ih, List.length_cons, Int.pow_succ, Int.mul_add, ← Int.mul_assoc, Int.mul_comm 10 (10 ^ r.length)]
    omega
theorem dval_zeros {ds : List Int} (h : ∀ d ∈ ds, d = 0) : dval ds = 0 := by
  induction ds with
  | nil => rfl
  | cons d r ih =>
    show d + 10 * dval r = 0
    rw [h d (by simp), ih (fun x hx => h x (by simp [hx]))]; rfl
theorem digs_dg (n : Nat) : DgL (digs n) := by
  induction n using Nat.strongRecOn with
  | ind n ih =>
    by_cases h : n = 0
    · subst h; rw [digs_zero]; intro d hd; simp at hd
    · rw [digs_pos n h]
      intro d hd
      rcases List.mem_cons.1 hd with rfl | hd
      · omega
      · exact ih (n / 10) (by omega) d hd
/-- Digits of which the last is no nought are a number's. -/
theorem digs_of : ∀ {es : List Int}, DgL es → (es = [] ∨ es.getLast? ≠ some 0) → es = digs (dval es).toNat
  | [], _, _ => by rw [show (dval []).toNat = 0 from rfl, digs_zero]
  | d :: r, h, hl => by
    have h1 := h d (by simp)
    have hr : DgL r := fun x hx => h x (by simp [hx])
    have hl2 : (d :: r).getLast? ≠ some 0 := by rcases hl with hl | hl; cases hl; exact hl
    have hlr : r = [] ∨ r.getLast? ≠ some 0 := by
      cases r with
      | nil => exact .inl rfl
      | cons a s => exact .inr (by simpa [List.getLast?_cons_cons] using hl2)
    have ih := digs_of hr hlr
    have hn := dval_nonneg hr
    have hv : dval (d :: r) = d + 10 * dval r := rfl
    have hpos : dval (d :: r) ≠ 0 := by
      rw [hv]
      intro hz
      have hd0 : d = 0 := by omega
      have hr0 : dval r = 0 := by omega
      rw [hr0, show (0 : Int).toNat = 0 from rfl, digs_zero] at ih
      subst ih
      exact hl2 (by simp [hd0])
    rw [digs_pos _ (by rw [hv] at hpos ⊢; omega)]
    have e1 : (((dval (d :: r)).toNat % 10 : Nat) : Int) = d := by rw [hv]; omega
    have e2 : (dval (d :: r)).toNat / 10 = (dval r).toNat := by rw [hv]; omega
    rw [e1, e2, ← ih]
/-- What a row of digits is without noughts at its end. -/
theorem trim_digs {ds : List Int} (h : DgL ds) (n : Nat) (hn : n ≤ ds.length) (hz : ∀ j, n ≤ j → ds[j]?.getD 0 = 0) (hl : n = 0 ∨ ds[n - 1]?.getD 0 ≠ 0) : ds.take n = digs (dval ds).toNat ∧ dval (ds.take n) = dval ds := by
  have e : dval ds = dval (ds.take n) := by
    conv => lhs; rw [← List.take_append_drop n ds, dval_append]
    rw [dval_zeros (ds := ds.drop n), Int.mul_zero, Int.add_zero]
    intro d hd
    obtain ⟨i, hi, rfl⟩ := List.getElem_of_mem hd
    rw [List.length_drop] at hi
    have := hz (n + i) (by omega)
    rw [List.getElem?_eq_getElem (by omega)] at this
    rw [List.getElem_drop]; exact this
  refine ⟨?_, e.symm⟩
  rw [e]
  refine digs_of (fun d hd => h d (List.mem_of_mem_take hd)) ?_
  rcases hl with rfl | hl
  · exact .inl (by simp)
  · by_cases h0 : n = 0
    · subst h0; exact .inl (by simp)
    · right
      have hlt : n - 1 < ds.length := by omega
      rw [List.getLast?_eq_getElem?, List.length_take, Nat.min_eq_left hn, List.getElem?_take_of_lt (by omega), List.getElem?_eq_getElem hlt]
      rw [List.getElem?_eq_getElem hlt] at hl
      intro hc
      exact hl (by simpa using hc)
#print axioms trim_digs
end Go.Proofs.YtfbhonjndepjbaaDoor
