import Derived.Test.YtfbhonjndepjbaaDoorRmo
/- Pure: sums and differences of rows of digits, place by place. -/
namespace Go.Proofs.YtfbhonjndepjbaaDoor

theorem dval_take (l : List Int) (k : Nat) : dval (l.take (k + 1)) = dval (l.take k) + 10 ^ k * l[k]?.getD 0 := by
  by_cases h : k < l.length
  · rw [List.take_add_one, dval_append, List.length_take, Nat.min_eq_left (by omega), List.getElem?_eq_getElem h]
    simp [dval]
  · rw [List.take_of_length_le (by omega), List.take_of_length_le (by omega), List.getElem?_eq_none (by omega)]
    simp
theorem dval_lt {ds : List Int} (h : DgL ds) : dval ds < 10 ^ ds.length := by
  induction ds with
  | nil => simp [dval]
  | cons d r ih =>
    have h1 := h d (by simp)
    have h2 := ih (fun x hx => h x (by simp [hx]))
    show d + 10 * dval r < 10 ^ (r.length + 1)
    rw [Int.pow_succ]
    omega
theorem pow10_pos (k : Nat) : (0 : Int) < 10 ^ k := Int.pow_pos (by omega)
theorem dval_snoc (ds : List Int) (d : Int) : dval (ds ++ [d]) = dval ds + 10 ^ ds.length * d := by rw [dval_append]; simp [dval]
/-- One place of a sum. -/
theorem sum_place {da db ds : List Int} {k : Nat} {c d c' : Int} (hl : ds.length = k) (h : dval ds + 10 ^ k * c = dval (da.take k) + dval (db.take k)) (hn : da[k]?.getD 0 + db[k]?.getD 0 + c = 10 * c' + d) :
    dval (ds ++ [d]) + 10 ^ (k + 1) * c' = dval (da.take (k + 1)) + dval (db.take (k + 1)) := by
  rw [dval_take, dval_take, dval_snoc, hl, Int.pow_succ]
  have e : (10 : Int) ^ k * (da[k]?.getD 0 + db[k]?.getD 0 + c) = 10 ^ k * (10 * c' + d) := by rw [hn]
  rw [Int.mul_add, Int.mul_add, Int.mul_add] at e
  rw [Int.mul_assoc]
  omega
theorem less_place {da db ds : List Int} {k : Nat} {c d c' : Int} (hl : ds.length = k) (h : dval ds - 10 ^ k * c = dval (da.take k) - dval (db.take k)) (hn : da[k]?.getD 0 - db[k]?.getD 0 - c = d - 10 * c') :
    dval (ds ++ [d]) - 10 ^ (k + 1) * c' = dval (da.take (k + 1)) - dval (db.take (k + 1)) := by
  rw [dval_take, dval_take, dval_snoc, hl, Int.pow_succ]
  have e : (10 : Int) ^ k * (da[k]?.getD 0 - db[k]?.getD 0 - c) = 10 ^ k * (d - 10 * c') := by rw [hn]
  rw [Int.mul_sub, Int.mul_sub, Int.mul_sub] at e
  rw [Int.mul_assoc]
  omega
theorem sum_end {da db ds : List Int} {k : Nat} {c : Int} (ha : DgL da) (hb : DgL db) (hd : DgL ds) (hk : k = max da.length db.length + 1) (hc : 0 ≤ c) (h : dval ds + 10 ^ k * c = dval (da.take k) + dval (db.take k)) : dval ds = dval da + dval db := by
  rw [List.take_of_length_le (by omega), List.take_of_length_le (by omega)] at h
  have h1 := dval_lt ha
  have h2 := dval_lt hb
  have h3 := dval_nonneg hd
  have p1 : (10 : Int) ^ da.length ≤ 10 ^ (max da.length db.length) := by
    have := Nat.pow_le_pow_right (show 0 < 10 by decide) (Nat.le_max_left da.length db.length)
    exact_mod_cast this
  have p2 : (10 : Int) ^ db.length ≤ 10 ^ (max da.length db.length) := by
    have := Nat.pow_le_pow_right (show 0 < 10 by decide) (Nat.le_max_right da.length db.length)
    exact_mod_cast this
  rw [hk, Int.pow_succ] at h
  have hp := pow10_pos (max da.length db.length)
  generalize (10 : Int) ^ (max da.length db.length) = P at *
  by_cases h0 : c = 0
  · subst h0; simp at h; omega
  · exfalso
    have : P * 10 * 1 ≤ P * 10 * c := Int.mul_le_mul_of_nonneg_left (by omega) (by omega)
    omega
theorem less_end {da db ds : List Int} {c : Int} (ha : DgL da) (hb : DgL db) (hd : DgL ds) (hl : ds.length = da.length) (hle : dval db ≤ dval da) (hc : 0 ≤ c) (h : dval ds - 10 ^ da.length * c = dval (da.take da.length) - dval (db.take da.length)) : dval ds = dval da - dval db := by
  rw [List.take_length] at h
  have h1 := dval_lt ha
  have h4 := dval_lt hd
  rw [hl] at h4
  have e : dval db = dval (db.take da.length) + 10 ^ (db.take da.length).length * dval (db.drop da.length) := by
    rw [← dval_append, List.take_append_drop]
  have h5 := dval_nonneg (fun d hd' => hb d (List.mem_of_mem_drop hd') : DgL (db.drop da.length))
  have h6 := dval_nonneg (fun d hd' => hb d (List.mem_of_mem_take hd') : DgL (db.take da.length))
  have hp := pow10_pos da.length
  have e2 : dval db = dval (db.take da.length) := by
    by_cases hlen : db.length ≤ da.length
    · rw [List.take_of_length_le hlen]
    · rw [List.length_take, Nat.min_eq_left (by omega)] at e
      by_cases h0 : dval (db.drop da.length) = 0
      · rw [h0] at e; omega
      · exfalso
        have : (10 : Int) ^ da.length * 1 ≤ 10 ^ da.length * dval (db.drop da.length) := Int.mul_le_mul_of_nonneg_left (by omega) (by omega)
        omega
  rw [← e2] at h
  generalize (10 : Int) ^ da.length = P at *
  by_cases h0 : c = 0
  · subst h0; simp at h; omega
  · exfalso
    have : P * 1 ≤ P * c := Int.mul_le_mul_of_nonneg_left (by omega) (by omega)
    omega
#print axioms less_end
end Go.Proofs.YtfbhonjndepjbaaDoor
