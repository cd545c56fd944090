import Derived.Test.YtfbhonjndepjbaaDoorRtmM
/- Pure: sums and differences of rows of digits, place by place. -/
namespace Go.Proofs.YtfbhonjndepjbaaDoor

theorem dval_take (l : List Int) (k : Nat) : dval (l.take (k + 1)) = dval (l.take k) + 10 ^ k * l[k]?.getD 0 := by
  by_cases h : k < l.length
  · rw [List.take_add_one, dval_append, List.length_take, Nat.min_eq_left (by omega), List.getElem?_eq_getElem h]
    simp [dval]
  · rw [List.take_of_length_le (by omega), List.take_of_length_le (by omega), List.getElem?_eq_none (by omega)]
    simp
theorem dval_lt {ds : List Int} (h : DgL ds) : dval ds < 10 ^ ds.length := by
  induction ds with
  | nil => simp [dval]
  | cons d r ih =>
    have h1 := h d (by simp)
    have h2 := ih (fun x hx => h x (by simp [hx]))
    show d + 10 * dval r < 10 ^ (r.length + 1)
    rw [Int.pow_succ]
    omega
theorem pow10_pos (k : Nat) : (0 : Int) < 10 ^ k := Int.pow_pos (by omega)
theorem dval_snoc (ds : List Int) (d : Int) : dval (ds ++ [d]) = dval ds + 10 ^ ds.length * d := by rw [dval_append]; simp [dval]
/-- One place of a sum. -/
theorem sum_place {da db ds : List Int} {k : Nat} {c d c' : Int} (hl : ds.length = k) (h : dval ds + 10 ^ k * c = dval (da.take k) + dval (db.take k)) (hn : da[k]?.getD 0 + db[k]?.getD 0 + c = 10 * c' + d) :
    dval (ds ++ [d]) + 10 ^ (k + 1) * c' = dval (da.take (k + 1)) + dval (db.take (k + 1)) := by
  rw [dval_take, dval_take, dval_snoc, hl, Int.pow_succ]
  have e : (10 : Int) ^ k * (da[k]?.getD 0 + db[k]?.getD 0 + c) = 10 ^ k * (10 * c' + d) := by rw [hn]
  rw [Int.mul_add, Int.mul_add, Int.mul_add] at e
  rw [Int.mul_assoc]
  omega
theorem less_place {da db ds : List Int} {k : Nat} {c d c' : Int} (hl : ds.length = k) (h : dval ds - 10 ^ k * c = dval (da.take k) - dval (db.take k)) (hn : da[k]?.getD 0 - db[k]?.getD 0 - c = d - 10 * c') :
    dval (ds ++ [d]) - 10 ^ (k + 1) * c' = dval (da.take (k + 1)) - dval (db.take (k + 1)) := by
  rw [dval_take, dval_take, dval_snoc, hl, Int.pow_succ]
  have e : (10 : Int) ^ k * (da[k]?.getD 0 - db[k]?.getD 0 - c) = 10 ^ k * (d - 10 * c') := by rw [hn]
  rw [Int.mul_sub, Int.mul_sub, Int.mul_sub] at e
  rw [Int.mul_assoc]
  omega
theorem sum_end {da db ds : List Int} {k : Nat} {c : Int} (ha : DgL da) (hb : DgL db) (hd : DgL ds) (hk : k = max da.length db.length + 1) (hc : 0 ≤ c) (h : dval ds + 10 ^ k * c = dval (da.take k) + dval (db.take k)) : dval ds = dval da + dval db := by
  rw [List.take_of_length_le (by omega), List.take_of_length_le (by omega)] at h
  have h1 := dval_lt ha
  have h2 := dval_lt hb
  have h3 := dval_nonneg hd
  have p1 : (10 : Int) ^ da.length ≤ 10 ^ (max da.length db.length) := by
    have := Nat.pow_le_pow_right (show 0 < 10 by decide) (Nat.le_max_left da.length db.length)
    exact_mod_cast this
  have p2 : (10 : Int) ^ db.length ≤ 10 ^ (max da.length db.length) := by
    have := Nat.pow_le_pow_right (show 0 < 10 by decide) (Nat.le_max_right da.length db.length)
    exact_mod_cast this
  rw [hk, Int.pow_succ] at h
  have hp := pow10_pos (max da.length db.length)
  generalize (10 : Int) ^ (max da.length db.length) = P at *
  by_cases h0 : c = 0
  · subst h0; simp at h; omega
  · exfalso
    have : P * 10 * 1 ≤ P * 10 * c := Int.mul_le_mul_of_nonneg_left (by omega) (by omega)
    omega
theorem less_end {da db ds : List Int} {c : Int} (ha : DgL da) (hb : DgL db) (hd : DgL ds) (hl : ds.length = da.length) (hle : dval db ≤ dval da) (hc : 0 ≤ c) (h : dval ds - 10 ^ da.length * c = dval (da.take da.length) - dval (db.take da.length)) : dval ds = dval da - dval db := by
  rw [List.take_length] at h
  have h1 := dval_lt ha
  have h4 := dval_lt hd
  rw [hl] at h4
  have e : dval db = dval (db.take da.length) + 10 ^ (db.take da.length).length * dval (db.drop da.length) := by
    rw [← dval_append, List.take_append_drop]
  have h5 := dval_nonneg (fun d hd' => hb d (List.mem_of_mem_drop hd') : DgL (db.drop da.length))
  have h6 := dval_nonneg (fun d hd' => hb d (List.mem_of_mem_take hd') : DgL (db.take da.length))
  have hp := pow10_pos da.length
  have e2 : dval db = dval (db.take da.length) := by
    by_cases hlen : db.length ≤ da.length
    · rw [List.take_of_length_le hlen]
    · rw [List.length_take, Nat.min_eq_left (by omega)] at e
      by_cases h0 : dval (db.drop da.length) = 0
      · rw [h0] at e; omega
      · exfalso
        have : (10 : Int) ^ da.length * 1 ≤ 10 ^ da.length * dval (db.drop da.length) := Int.mul_le_mul_of_nonneg_left (by omega) (by omega)
        omega
  rw [← e2] at h
  generalize (10 : Int) ^ da.length = P at *
  by_cases h0 : c = 0
  · subst h0; simp at h; omega
  · exfalso
    have : P * 1 ≤ P * c := Int.mul_le_mul_of_nonneg_left (by omega) (by omega)
    omega
#print axioms less_end
end Go.Proofs.YtfbhonjndepjbaaDoor
/- sum: of two rows of digits. -/
namespace Go.Proofs.YtfbhonjndepjbaaDoor
open Go.RowKit

set_option maxRecDepth 100000 in
set_option maxHeartbeats 2000000 in
theorem sum_digs (na nb : Bool) (sa sb : Value) (da db : List Int) (w : World) (hA : DgAt w sa da) (hB : DgAt w sb db) (ga : DgL da) (gb : DgL db) (la : da.length ≤ 900) (lb : db.length ≤ 900) :
    Calls Tryd.prog 80 #[bv na sa, bv nb sb] w fun r w' => ∃ sv ds, r = .returned sv ∧ DgAt w' sv ds ∧ DgL ds ∧ dval ds = dval da + dval db ∧ ds.length ≤ max da.length db.length + 1 ∧ Below w.heap.size w w' := by
  obtain ⟨i0, hi, hzz⟩ := Option.map_eq_some_iff.1 Tryd.info3
  simp only [Prod.mk.injEq] at hzz
  obtain ⟨hz0, hz1, hz2⟩ := hzz
  obtain ⟨_, a1, c1, rfl, _, _⟩ := id hA
  obtain ⟨_, a2, c2, rfl, _, _⟩ := id hB
  have HA : Hid (DgAt w (.slice a1 da.length c1) da) := hA
  have HB : Hid (DgAt w (.slice a2 db.length c2) db) := hB
  have HGA : Hid (DgL da) := ga
  have HGB : Hid (DgL db) := gb
  have HAT : ∀ W (i : Nat), DgAt W (.slice a1 da.length c1) da → Hid (Calls Tryd.prog 76 #[.agg #[.bool na, .slice a1 da.length c1], .int .i64 (i : Int)] W fun r w' => r = .returned (.int .i64 (da[i]?.getD 0)) ∧ Below W.heap.size W w') := fun W i h => by
    have := at_any na a1 c1 da (i : Int) W h.1
    rw [if_pos (by omega), Int.toNat_natCast] at this
    exact this
  have HBT : ∀ W (i : Nat), DgAt W (.slice a2 db.length c2) db → Hid (Calls Tryd.prog 76 #[.agg #[.bool nb, .slice a2 db.length c2], .int .i64 (i : Int)] W fun r w' => r = .returned (.int .i64 (db[i]?.getD 0)) ∧ Below W.heap.size W w') := fun W i h => by
    have := at_any nb a2 c2 db (i : Int) W h.1
    rw [if_pos (by omega), Int.toNat_natCast] at this
    exact this
  unfold bv
  clear hA hB ga gb
  go_enter Tryd.func80, Tryd.ntmps80
  go_wp2_with fail
  have r1 := (Row.new w 45 #[.bool na, .slice a1 da.length c1]).alloc (.cells #[.bool nb, .slice a2 db.length c2] 45)
  have r2 := Row.new1 w (.cells #[.bool na, .slice a1 da.length c1] 45) 45 #[.bool nb, .slice a2 db.length c2]
  have hB0 := ((Below.refl _ w).alloc (Nat.le_refl _) (.cells #[.bool na, .slice a1 da.length c1] 45)).alloc (by simp) (.cells #[.bool nb, .slice a2 db.length c2] 45)
  obtain ⟨M, hM⟩ : ∃ M, max da.length db.length + 1 = M := ⟨_, rfl⟩
  have HM : Hid (M = max da.length db.length + 1) := hM.symm
  have hM2 : M ≤ 901 := by omega
  have hM3 : ∀ k : Nat, k < M ↔ (k ≤ da.length ∨ k ≤ db.length) := fun k => by omega
  have HM3 : Hid (∀ k : Nat, k < M ↔ (k ≤ da.length ∨ k ≤ db.length)) := hM3
  clear hM hM3
  go_wp2
  go_loopw [5, 6, 7] (fun v5 v6 v7 wr => ∃ (k : Nat) (c : Int) (ds : List Int), k ≤ M ∧ v7 = .int .i64 (k : Int) ∧ v6 = .int .i64 c ∧ OwnD w.heap.size wr v5 ds ∧ Hid (ds.length = k ∧ 0 ≤ c ∧ c ≤ 1 ∧ DgL ds ∧ dval ds + 10 ^ k * c = dval (da.take k) + dval (db.take k)) ∧ Row wr w.heap.size 45 #[.bool na, .slice a1 da.length c1] ∧ Row wr (w.heap.size + 1) 45 #[.bool nb, .slice a2 db.length c2] ∧ Below w.heap.size w wr) (fun _ _ v7 _ => M - (intOf v7).toNat)
  case atStart => exact ⟨0, 0, [], Nat.zero_le _, rfl, rfl, World.ownsRow_nil _ _ _ _, ⟨rfl, Int.le_refl _, by omega, fun d hd => by simp at hd, by simp [dval]⟩, r1, r2, hB0⟩
  case round =>
    obtain ⟨k, c, ds, hk, rfl, rfl, hO, HI, q1, q2, hB1⟩ := hrel
    clear r1 r2 hB0
    obtain ⟨d0, d1⟩ := q1.duo
    obtain ⟨e0, e1⟩ := q2.duo
    obtain ⟨gu, cu, rfl⟩ := hO.form
    have hcb := HI.out.2.1
    have hcb2 := HI.out.2.2.1
    have hdl : ds.length ≤ 901 := by rw [HI.out.1]; omega
    have hk9 : (k : Int) ≤ 901 := by omega
    by_cases hkM : k < M
    · have HK : Hid (k < M) := hkM
      have hor : (decide ((k : Int) ≤ (da.length : Int)) = true ∧ decide (k ≤ da.length) = true) ∨ ((decide ((k : Int) ≤ (da.length : Int)) = false ∧ decide (k ≤ da.length) = false) ∧ decide ((k : Int) ≤ (db.length : Int)) = true ∧ decide (k ≤ db.length) = true) := by
        have := (HM3.out k).1 hkM
        by_cases h : k ≤ da.length
        · exact .inl ⟨decide_eq_true (by omega), decide_eq_true (by omega)⟩
        · exact .inr ⟨⟨decide_eq_false (by omega), decide_eq_false (by omega)⟩, decide_eq_true (by omega), decide_eq_true (by omega)⟩
      obtain ⟨x, ha⟩ : ∃ x, da[k]?.getD 0 = x := ⟨_, rfl⟩
      obtain ⟨y, hb⟩ : ∃ y, db[k]?.getD 0 = y := ⟨_, rfl⟩
      have hbx := HGA.out.get k
      have hby := HGB.out.get k
      rw [ha] at hbx
      rw [hb] at hby
      have bx1 := hbx.1
      have bx2 := hbx.2
      have by1 := hby.1
      have by2 := hby.2
      obtain ⟨n, hn⟩ : ∃ n, x + y + c = n := ⟨_, rfl⟩
      have hn0 : 0 ≤ n := by omega
      have hn1 : n ≤ 19 := by omega
      obtain ⟨d, hd⟩ : ∃ d, n.tmod 10 = d := ⟨_, rfl⟩
      obtain ⟨c', hc'⟩ : ∃ c', n.tdiv 10 = c' := ⟨_, rfl⟩
      have hd9 : 0 ≤ d ∧ d ≤ 9 ∧ 0 ≤ c' ∧ c' ≤ 1 ∧ n = 10 * c' + d := by
        rw [← hd, ← hc', Int.tmod_eq_emod_of_nonneg hn0, Int.tdiv_eq_ediv_of_nonneg hn0]; omega
      have HI2 : Hid ((ds ++ [d]).length = k + 1 ∧ 0 ≤ c' ∧ c' ≤ 1 ∧ DgL (ds ++ [d]) ∧ dval (ds ++ [d]) + 10 ^ (k + 1) * c' = dval (da.take (k + 1)) + dval (db.take (k + 1))) := by
        obtain ⟨i1, i2, i3, i4, i5⟩ := HI.out
        refine ⟨by simp [i1], hd9.2.2.1, hd9.2.2.2.1, fun z hz => ?_, sum_place i1 i5 (by rw [ha, hb, hn]; exact hd9.2.2.2.2)⟩
        rcases List.mem_append.1 hz with hz | hz
        · exact i4 z hz
        · rw [List.mem_singleton.1 hz]; exact ⟨hd9.1, hd9.2.1⟩
      have bc1 := hd9.2.2.1
      have bc2 := hd9.2.2.2.1
      have bd1 := hd9.1
      have bd2 := hd9.2.1
      clear hd9 HI hbx hby hcb hcb2
      rcases hor with ⟨g1, g1n⟩ | ⟨⟨g1, g1n⟩, g2, g2n⟩
      · go_wp2_with fail
        have hS : Below wr.heap.size wr wr.drew := (Below.refl _ wr).drew
        refine wp_region_M (fun wx : World => Below wr.heap.size wr wx) (fun j => decide (j < 10)) 10 rfl (by kernel_rfl) ?_
        refine wpM_held 0 (v := .agg #[.bool na, .slice a1 da.length c1]) rfl (by kernel_rfl) (by kernel_rfl) rfl (fun _ _ _ h => h) rfl (by intro wx hx; obtain ⟨x0, x1⟩ := (q1.below hx q1.lt).duo; go_simp <;> rfl) hS ?_
        refine wpM_held 1 (v := .int .i64 (k : Int)) rfl (by kernel_rfl) (by kernel_rfl) rfl (fun _ _ _ h => h) rfl (by intro wx hx; go_simp <;> rfl) hS ?_
        refine wpM_held 3 (v := .agg #[.bool nb, .slice a2 db.length c2]) rfl (by kernel_rfl) (by kernel_rfl) rfl (fun _ _ _ h => h) rfl (by intro wx hx; obtain ⟨x0, x1⟩ := (q2.below hx q2.lt).duo; go_simp <;> rfl) hS ?_
        refine wpM_held 4 (v := .int .i64 (k : Int)) rfl (by kernel_rfl) (by kernel_rfl) rfl (fun _ _ _ h => h) rfl (by intro wx hx; go_simp <;> rfl) hS ?_
        refine wpM_held 7 (v := .int .i64 c) rfl (by kernel_rfl) (by kernel_rfl) rfl (fun _ _ _ h => h) rfl (by intro wx hx; go_simp <;> rfl) hS ?_
        refine wpM_one 2 rfl (by kernel_rfl) rfl ?_
        go_wp2_with fail
        refine Calls.mono (HAT _ k (HA.out.below (hB1.trans (hS.mono hB1.size)))).out ?_
        rintro _ wa ⟨rfl, ba⟩
        have hS1 : Below wr.heap.size wr wa := hS.trans (ba.mono hS.size)
        clear ba
        rw [ha]
        go_wp2_with fail
        refine ⟨fun _ => hS1, ?_⟩
        refine wpM_one 5 rfl (by kernel_rfl) rfl ?_
        go_wp2_with fail
        refine Calls.mono (HBT _ k (HB.out.below (hB1.trans (hS1.mono hB1.size)))).out ?_
        rintro _ wb ⟨rfl, bb⟩
        have hS2 : Below wr.heap.size wr wb := hS1.trans (bb.mono hS1.size)
        clear bb hS1 hS
        rw [hb]
        go_wp2_with fail
        refine ⟨fun _ => hS2, ?_⟩
        refine wpM_one 6 rfl (by kernel_rfl) rfl ?_
        go_wp2_with fail
        refine ⟨fun _ => hS2, ?_⟩
        refine wpM_one 8 rfl (by kernel_rfl) rfl ?_
        go_wp2_with fail
        refine ⟨fun _ => hS2, ?_⟩
        refine wpM_one 9 rfl (by kernel_rfl) rfl ?_
        go_wp2_with fail
        refine ⟨fun _ => hS2, ?_⟩
        refine wpM_done (by kernel_rfl) ?_
        have q1 := q1.below hS2 q1.lt
        have q2 := q2.below hS2 q2.lt
        have hB2 := hB1.trans (hS2.mono hB1.size)
        have hO2 := hO.below hS2
        clear hS2 hO hB1
        have hbs := hB2.size
        have HNW : Hid _ := new_one wb d
        have hO3 : (wb.alloc (.cells #[.int .i64 d] 3)).ownsRow w.heap.size 3 1 (.slice gu ds.length cu) ds.length (ds.map (Value.int .i64)) := World.ownsRow.alloc hO2 _
        have p1 := q1.alloc (.cells #[.int .i64 d] 3)
        have p2 := q2.alloc (.cells #[.int .i64 d] 3)
        have hB3 := hB2.alloc hbs (.cells #[.int .i64 d] 3)
        clear hO2 hB2 q1 q2
        go_wp2_with (at_builtin; refine wpList_append_own2 _ rfl (.tmp 32) (.tmp 35) 43 rfl w.heap.size 3 i0 (.int .i64 0) 1 8 Tryd.underlying43 hi hz0 hz1 hz2 rfl (by decide) _ _ _ rfl hO3 ⟨wb.heap.size, 0, none⟩ 1 1 [.int .i64 d] rfl rfl HNW.out (by simp [Value.oneCell']) (by unfold maxLen; omega) (by omega) (by simp; omega) ?_)
        intro v1 x1 hown1 hgrow1 hblk1
        have t1 := row_grownO p1 hO3 hgrow1 (by decide)
        have t2 := row_grownO p2 hO3 hgrow1 (by decide)
        have hB4 := below_grownO hB3 (by simp; omega) hO3 hgrow1
        have hO4 := OwnD.snoc hown1
        clear hown1 hgrow1 hblk1 p1 p2 hB3 hO3 HNW
        go_wp2
        go_roundw
        case rel => exact ⟨k + 1, c', ds ++ [d], HK.out, by go_num, rfl, hO4, HI2, t1, t2, hB4⟩
        case measure => have := HK.out; simp [intOf]; omega
      · go_wp2_with fail
        have hS : Below wr.heap.size wr wr.drew := (Below.refl _ wr).drew
        refine wp_region_M (fun wx : World => Below wr.heap.size wr wx) (fun j => decide (j < 10)) 10 rfl (by kernel_rfl) ?_
        refine wpM_held 0 (v := .agg #[.bool na, .slice a1 da.length c1]) rfl (by kernel_rfl) (by kernel_rfl) rfl (fun _ _ _ h => h) rfl (by intro wx hx; obtain ⟨x0, x1⟩ := (q1.below hx q1.lt).duo; go_simp <;> rfl) hS ?_
        refine wpM_held 1 (v := .int .i64 (k : Int)) rfl (by kernel_rfl) (by kernel_rfl) rfl (fun _ _ _ h => h) rfl (by intro wx hx; go_simp <;> rfl) hS ?_
        refine wpM_held 3 (v := .agg #[.bool nb, .slice a2 db.length c2]) rfl (by kernel_rfl) (by kernel_rfl) rfl (fun _ _ _ h => h) rfl (by intro wx hx; obtain ⟨x0, x1⟩ := (q2.below hx q2.lt).duo; go_simp <;> rfl) hS ?_
        refine wpM_held 4 (v := .int .i64 (k : Int)) rfl (by kernel_rfl) (by kernel_rfl) rfl (fun _ _ _ h => h) rfl (by intro wx hx; go_simp <;> rfl) hS ?_
        refine wpM_held 7 (v := .int .i64 c) rfl (by kernel_rfl) (by kernel_rfl) rfl (fun _ _ _ h => h) rfl (by intro wx hx; go_simp <;> rfl) hS ?_
        refine wpM_one 2 rfl (by kernel_rfl) rfl ?_
        go_wp2_with fail
        refine Calls.mono (HAT _ k (HA.out.below (hB1.trans (hS.mono hB1.size)))).out ?_
        rintro _ wa ⟨rfl, ba⟩
        have hS1 : Below wr.heap.size wr wa := hS.trans (ba.mono hS.size)
        clear ba
        rw [ha]
        go_wp2_with fail
        refine ⟨fun _ => hS1, ?_⟩
        refine wpM_one 5 rfl (by kernel_rfl) rfl ?_
        go_wp2_with fail
        refine Calls.mono (HBT _ k (HB.out.below (hB1.trans (hS1.mono hB1.size)))).out ?_
        rintro _ wb ⟨rfl, bb⟩
        have hS2 : Below wr.heap.size wr wb := hS1.trans (bb.mono hS1.size)
        clear bb hS1 hS
        rw [hb]
        go_wp2_with fail
        refine ⟨fun _ => hS2, ?_⟩
        refine wpM_one 6 rfl (by kernel_rfl) rfl ?_
        go_wp2_with fail
        refine ⟨fun _ => hS2, ?_⟩
        refine wpM_one 8 rfl (by kernel_rfl) rfl ?_
        go_wp2_with fail
        refine ⟨fun _ => hS2, ?_⟩
        refine wpM_one 9 rfl (by kernel_rfl) rfl ?_
        go_wp2_with fail
        refine ⟨fun _ => hS2, ?_⟩
        refine wpM_done (by kernel_rfl) ?_
        have q1 := q1.below hS2 q1.lt
        have q2 := q2.below hS2 q2.lt
        have hB2 := hB1.trans (hS2.mono hB1.size)
        have hO2 := hO.below hS2
        clear hS2 hO hB1
        have hbs := hB2.size
        have HNW : Hid _ := new_one wb d
        have hO3 : (wb.alloc (.cells #[.int .i64 d] 3)).ownsRow w.heap.size 3 1 (.slice gu ds.length cu) ds.length (ds.map (Value.int .i64)) := World.ownsRow.alloc hO2 _
        have p1 := q1.alloc (.cells #[.int .i64 d] 3)
        have p2 := q2.alloc (.cells #[.int .i64 d] 3)
        have hB3 := hB2.alloc hbs (.cells #[.int .i64 d] 3)
        clear hO2 hB2 q1 q2
        go_wp2_with (at_builtin; refine wpList_append_own2 _ rfl (.tmp 32) (.tmp 35) 43 rfl w.heap.size 3 i0 (.int .i64 0) 1 8 Tryd.underlying43 hi hz0 hz1 hz2 rfl (by decide) _ _ _ rfl hO3 ⟨wb.heap.size, 0, none⟩ 1 1 [.int .i64 d] rfl rfl HNW.out (by simp [Value.oneCell']) (by unfold maxLen; omega) (by omega) (by simp; omega) ?_)
        intro v1 x1 hown1 hgrow1 hblk1
        have t1 := row_grownO p1 hO3 hgrow1 (by decide)
        have t2 := row_grownO p2 hO3 hgrow1 (by decide)
        have hB4 := below_grownO hB3 (by simp; omega) hO3 hgrow1
        have hO4 := OwnD.snoc hown1
        clear hown1 hgrow1 hblk1 p1 p2 hB3 hO3 HNW
        go_wp2
        go_roundw
        case rel => exact ⟨k + 1, c', ds ++ [d], HK.out, by go_num, rfl, hO4, HI2, t1, t2, hB4⟩
        case measure => have := HK.out; simp [intOf]; omega
    · have hke : k = M := by omega
      have g1 : decide ((k : Int) ≤ (da.length : Int)) = false := decide_eq_false (by have := (HM3.out k).2; omega)
      have g2 : decide ((k : Int) ≤ (db.length : Int)) = false := decide_eq_false (by have := (HM3.out k).2; omega)
      have g3 : decide (k ≤ da.length) = false := decide_eq_false (by have := (HM3.out k).2; omega)
      have g4 : decide (k ≤ db.length) = false := decide_eq_false (by have := (HM3.out k).2; omega)
      obtain ⟨i1, i2, i3, i4, i5⟩ := HI.out
      have hres := sum_end HGA.out HGB.out i4 (hke.trans HM.out) i2 i5
      have HR : Hid (DgAt wr (.slice gu ds.length cu) ds ∧ DgL ds ∧ dval ds = dval da + dval db ∧ ds.length ≤ max da.length db.length + 1) := ⟨hO.dg, i4, hres, by rw [i1, hke, HM.out]; exact Nat.le_refl _⟩
      clear i1 i2 i3 i4 i5 hres hke hkM HI HM HM3
      go_wp2
      go_ret
      exact ⟨_, ds, rfl, HR.out.1, HR.out.2.1, HR.out.2.2.1, HR.out.2.2.2, hB1⟩
end Go.Proofs.YtfbhonjndepjbaaDoor
/- less: one row of digits less another. -/
namespace Go.Proofs.YtfbhonjndepjbaaDoor
open Go.RowKit

set_option maxRecDepth 100000 in
set_option maxHeartbeats 2000000 in
theorem less_digs (na nb : Bool) (sa sb : Value) (da db : List Int) (w : World) (hA : DgAt w sa da) (hB : DgAt w sb db) (ga : DgL da) (gb : DgL db) (la : da.length ≤ 900) (_lb : db.length ≤ 900) (hle : dval db ≤ dval da) :
    Calls Tryd.prog 81 #[bv na sa, bv nb sb] w fun r w' => ∃ sv ds, r = .returned sv ∧ DgAt w' sv ds ∧ DgL ds ∧ dval ds = dval da - dval db ∧ ds.length ≤ max da.length db.length + 1 ∧ Below w.heap.size w w' := by
  obtain ⟨i0, hi, hzz⟩ := Option.map_eq_some_iff.1 Tryd.info3
  simp only [Prod.mk.injEq] at hzz
  obtain ⟨hz0, hz1, hz2⟩ := hzz
  obtain ⟨_, a1, c1, rfl, _, _⟩ := id hA
  obtain ⟨_, a2, c2, rfl, _, _⟩ := id hB
  have HA : Hid (DgAt w (.slice a1 da.length c1) da) := hA
  have HB : Hid (DgAt w (.slice a2 db.length c2) db) := hB
  have HGA : Hid (DgL da) := ga
  have HGB : Hid (DgL db) := gb
  have HAT : ∀ W (i : Nat), DgAt W (.slice a1 da.length c1) da → Hid (Calls Tryd.prog 76 #[.agg #[.bool na, .slice a1 da.length c1], .int .i64 (i : Int)] W fun r w' => r = .returned (.int .i64 (da[i]?.getD 0)) ∧ Below W.heap.size W w') := fun W i h => by
    have := at_any na a1 c1 da (i : Int) W h.1
    rw [if_pos (by omega), Int.toNat_natCast] at this
    exact this
  have HBT : ∀ W (i : Nat), DgAt W (.slice a2 db.length c2) db → Hid (Calls Tryd.prog 76 #[.agg #[.bool nb, .slice a2 db.length c2], .int .i64 (i : Int)] W fun r w' => r = .returned (.int .i64 (db[i]?.getD 0)) ∧ Below W.heap.size W w') := fun W i h => by
    have := at_any nb a2 c2 db (i : Int) W h.1
    rw [if_pos (by omega), Int.toNat_natCast] at this
    exact this
  unfold bv
  clear hA hB ga gb
  go_enter Tryd.func81, Tryd.ntmps81
  go_wp2_with fail
  have r1 := (Row.new w 45 #[.bool na, .slice a1 da.length c1]).alloc (.cells #[.bool nb, .slice a2 db.length c2] 45)
  have r2 := Row.new1 w (.cells #[.bool na, .slice a1 da.length c1] 45) 45 #[.bool nb, .slice a2 db.length c2]
  have hB0 := ((Below.refl _ w).alloc (Nat.le_refl _) (.cells #[.bool na, .slice a1 da.length c1] 45)).alloc (by simp) (.cells #[.bool nb, .slice a2 db.length c2] 45)
  have HLE : Hid (dval db ≤ dval da) := hle
  clear hle
  go_wp2
  go_loopw [5, 6, 7] (fun v5 v6 v7 wr => ∃ (k : Nat) (c : Int) (ds : List Int), k ≤ da.length ∧ v7 = .int .i64 (k : Int) ∧ v6 = .int .i64 c ∧ OwnD w.heap.size wr v5 ds ∧ Hid (ds.length = k ∧ 0 ≤ c ∧ c ≤ 1 ∧ DgL ds ∧ dval ds - 10 ^ k * c = dval (da.take k) - dval (db.take k)) ∧ Row wr w.heap.size 45 #[.bool na, .slice a1 da.length c1] ∧ Row wr (w.heap.size + 1) 45 #[.bool nb, .slice a2 db.length c2] ∧ Below w.heap.size w wr) (fun _ _ v7 _ => da.length - (intOf v7).toNat)
  case atStart => exact ⟨0, 0, [], Nat.zero_le _, rfl, rfl, World.ownsRow_nil _ _ _ _, ⟨rfl, Int.le_refl _, by omega, fun d hd => by simp at hd, by simp [dval]⟩, r1, r2, hB0⟩
  case round =>
    obtain ⟨k, c, ds, hk, rfl, rfl, hO, HI, q1, q2, hB1⟩ := hrel
    clear r1 r2 hB0
    obtain ⟨d0, d1⟩ := q1.duo
    obtain ⟨e0, e1⟩ := q2.duo
    obtain ⟨gu, cu, rfl⟩ := hO.form
    have hcb := HI.out.2.1
    have hcb2 := HI.out.2.2.1
    have hdl : ds.length ≤ 901 := by rw [HI.out.1]; omega
    have hk9 : (k : Int) ≤ 901 := by omega
    by_cases hkM : k < da.length
    · have HK : Hid (k < da.length) := hkM
      have g0 : (k : Int) < (da.length : Int) := by omega
      obtain ⟨x, ha⟩ : ∃ x, da[k]?.getD 0 = x := ⟨_, rfl⟩
      obtain ⟨y, hb⟩ : ∃ y, db[k]?.getD 0 = y := ⟨_, rfl⟩
      have hbx := HGA.out.get k
      have hby := HGB.out.get k
      rw [ha] at hbx
      rw [hb] at hby
      have bx1 := hbx.1
      have bx2 := hbx.2
      have by1 := hby.1
      have by2 := hby.2
      obtain ⟨n, hn⟩ : ∃ n, x - y - c = n := ⟨_, rfl⟩
      have hn0 : -10 ≤ n := by omega
      have hn1 : n ≤ 9 := by omega
      have key : ∀ d c' : Int, 0 ≤ d → d ≤ 9 → 0 ≤ c' → c' ≤ 1 → n = d - 10 * c' → Hid ((ds ++ [d]).length = k + 1 ∧ 0 ≤ c' ∧ c' ≤ 1 ∧ DgL (ds ++ [d]) ∧ dval (ds ++ [d]) - 10 ^ (k + 1) * c' = dval (da.take (k + 1)) - dval (db.take (k + 1))) := by
        intro d c' h1 h2 h3 h4 h5
        obtain ⟨i1, i2, i3, i4, i5⟩ := HI.out
        refine ⟨by simp [i1], h3, h4, fun z hz => ?_, less_place i1 i5 (by rw [ha, hb, hn]; exact h5)⟩
        rcases List.mem_append.1 hz with hz | hz
        · exact i4 z hz
        · rw [List.mem_singleton.1 hz]; exact ⟨h1, h2⟩
      by_cases hneg : n < 0
      · have HI2 := key (n + 10) 1 (by omega) (by omega) (by omega) (by omega) (by omega)
        clear key HI hbx hby hcb hcb2
        go_wp2_with fail
        have hS : Below wr.heap.size wr wr.drew := (Below.refl _ wr).drew
        refine wp_region_M (fun wx : World => Below wr.heap.size wr wx) (fun j => decide (j < 10)) 10 rfl (by kernel_rfl) ?_
        refine wpM_held 0 (v := .agg #[.bool na, .slice a1 da.length c1]) rfl (by kernel_rfl) (by kernel_rfl) rfl (fun _ _ _ h => h) rfl (by intro wx hx; obtain ⟨x0, x1⟩ := (q1.below hx q1.lt).duo; go_simp <;> rfl) hS ?_
        refine wpM_held 1 (v := .int .i64 (k : Int)) rfl (by kernel_rfl) (by kernel_rfl) rfl (fun _ _ _ h => h) rfl (by intro wx hx; go_simp <;> rfl) hS ?_
        refine wpM_held 3 (v := .agg #[.bool nb, .slice a2 db.length c2]) rfl (by kernel_rfl) (by kernel_rfl) rfl (fun _ _ _ h => h) rfl (by intro wx hx; obtain ⟨x0, x1⟩ := (q2.below hx q2.lt).duo; go_simp <;> rfl) hS ?_
        refine wpM_held 4 (v := .int .i64 (k : Int)) rfl (by kernel_rfl) (by kernel_rfl) rfl (fun _ _ _ h => h) rfl (by intro wx hx; go_simp <;> rfl) hS ?_
        refine wpM_held 7 (v := .int .i64 c) rfl (by kernel_rfl) (by kernel_rfl) rfl (fun _ _ _ h => h) rfl (by intro wx hx; go_simp <;> rfl) hS ?_
        refine wpM_one 2 rfl (by kernel_rfl) rfl ?_
        go_wp2_with fail
        refine Calls.mono (HAT _ k (HA.out.below (hB1.trans (hS.mono hB1.size)))).out ?_
        rintro _ wa ⟨rfl, ba⟩
        have hS1 : Below wr.heap.size wr wa := hS.trans (ba.mono hS.size)
        clear ba
        rw [ha]
        go_wp2_with fail
        refine ⟨fun _ => hS1, ?_⟩
        refine wpM_one 5 rfl (by kernel_rfl) rfl ?_
        go_wp2_with fail
        refine Calls.mono (HBT _ k (HB.out.below (hB1.trans (hS1.mono hB1.size)))).out ?_
        rintro _ wb ⟨rfl, bb⟩
        have hS2 : Below wr.heap.size wr wb := hS1.trans (bb.mono hS1.size)
        clear bb hS1 hS
        rw [hb]
        go_wp2_with fail
        refine ⟨fun _ => hS2, ?_⟩
        refine wpM_one 6 rfl (by kernel_rfl) rfl ?_
        go_wp2_with fail
        refine ⟨fun _ => hS2, ?_⟩
        refine wpM_one 8 rfl (by kernel_rfl) rfl ?_
        go_wp2_with fail
        refine ⟨fun _ => hS2, ?_⟩
        refine wpM_one 9 rfl (by kernel_rfl) rfl ?_
        go_wp2_with fail
        refine ⟨fun _ => hS2, ?_⟩
        refine wpM_done (by kernel_rfl) ?_
        have q1 := q1.below hS2 q1.lt
        have q2 := q2.below hS2 q2.lt
        have hB2 := hB1.trans (hS2.mono hB1.size)
        have hO2 := hO.below hS2
        clear hS2 hO hB1
        have hbs := hB2.size
        have HNW : Hid _ := new_one wb (n + 10)
        have hO3 : (wb.alloc (.cells #[.int .i64 (n + 10)] 3)).ownsRow w.heap.size 3 1 (.slice gu ds.length cu) ds.length (ds.map (Value.int .i64)) := World.ownsRow.alloc hO2 _
        have p1 := q1.alloc (.cells #[.int .i64 (n + 10)] 3)
        have p2 := q2.alloc (.cells #[.int .i64 (n + 10)] 3)
        have hB3 := hB2.alloc hbs (.cells #[.int .i64 (n + 10)] 3)
        clear hO2 hB2 q1 q2
        go_wp2_with (at_builtin; refine wpList_append_own2 _ rfl (.tmp 29) (.tmp 31) 43 rfl w.heap.size 3 i0 (.int .i64 0) 1 8 Tryd.underlying43 hi hz0 hz1 hz2 rfl (by decide) _ _ _ rfl hO3 ⟨wb.heap.size, 0, none⟩ 1 1 [.int .i64 (n + 10)] rfl rfl HNW.out (by simp [Value.oneCell']) (by unfold maxLen; omega) (by omega) (by simp; omega) ?_)
        intro v1 x1 hown1 hgrow1 hblk1
        have t1 := row_grownO p1 hO3 hgrow1 (by decide)
        have t2 := row_grownO p2 hO3 hgrow1 (by decide)
        have hB4 := below_grownO hB3 (by simp; omega) hO3 hgrow1
        have hO4 := OwnD.snoc hown1
        clear hown1 hgrow1 hblk1 p1 p2 hB3 hO3 HNW
        go_wp2
        go_roundw
        case rel => exact ⟨k + 1, 1, ds ++ [n + 10], HK.out, by go_num, rfl, hO4, HI2, t1, t2, hB4⟩
        case measure => have := HK.out; simp [intOf]; omega
      · have HI2 := key n 0 (by omega) (by omega) (by omega) (by omega) (by omega)
        clear key HI hbx hby hcb hcb2
        go_wp2_with fail
        have hS : Below wr.heap.size wr wr.drew := (Below.refl _ wr).drew
        refine wp_region_M (fun wx : World => Below wr.heap.size wr wx) (fun j => decide (j < 10)) 10 rfl (by kernel_rfl) ?_
        refine wpM_held 0 (v := .agg #[.bool na, .slice a1 da.length c1]) rfl (by kernel_rfl) (by kernel_rfl) rfl (fun _ _ _ h => h) rfl (by intro wx hx; obtain ⟨x0, x1⟩ := (q1.below hx q1.lt).duo; go_simp <;> rfl) hS ?_
        refine wpM_held 1 (v := .int .i64 (k : Int)) rfl (by kernel_rfl) (by kernel_rfl) rfl (fun _ _ _ h => h) rfl (by intro wx hx; go_simp <;> rfl) hS ?_
        refine wpM_held 3 (v := .agg #[.bool nb, .slice a2 db.length c2]) rfl (by kernel_rfl) (by kernel_rfl) rfl (fun _ _ _ h => h) rfl (by intro wx hx; obtain ⟨x0, x1⟩ := (q2.below hx q2.lt).duo; go_simp <;> rfl) hS ?_
        refine wpM_held 4 (v := .int .i64 (k : Int)) rfl (by kernel_rfl) (by kernel_rfl) rfl (fun _ _ _ h => h) rfl (by intro wx hx; go_simp <;> rfl) hS ?_
        refine wpM_held 7 (v := .int .i64 c) rfl (by kernel_rfl) (by kernel_rfl) rfl (fun _ _ _ h => h) rfl (by intro wx hx; go_simp <;> rfl) hS ?_
        refine wpM_one 2 rfl (by kernel_rfl) rfl ?_
        go_wp2_with fail
        refine Calls.mono (HAT _ k (HA.out.below (hB1.trans (hS.mono hB1.size)))).out ?_
        rintro _ wa ⟨rfl, ba⟩
        have hS1 : Below wr.heap.size wr wa := hS.trans (ba.mono hS.size)
        clear ba
        rw [ha]
        go_wp2_with fail
        refine ⟨fun _ => hS1, ?_⟩
        refine wpM_one 5 rfl (by kernel_rfl) rfl ?_
        go_wp2_with fail
        refine Calls.mono (HBT _ k (HB.out.below (hB1.trans (hS1.mono hB1.size)))).out ?_
        rintro _ wb ⟨rfl, bb⟩
        have hS2 : Below wr.heap.size wr wb := hS1.trans (bb.mono hS1.size)
        clear bb hS1 hS
        rw [hb]
        go_wp2_with fail
        refine ⟨fun _ => hS2, ?_⟩
        refine wpM_one 6 rfl (by kernel_rfl) rfl ?_
        go_wp2_with fail
        refine ⟨fun _ => hS2, ?_⟩
        refine wpM_one 8 rfl (by kernel_rfl) rfl ?_
        go_wp2_with fail
        refine ⟨fun _ => hS2, ?_⟩
        refine wpM_one 9 rfl (by kernel_rfl) rfl ?_
        go_wp2_with fail
        refine ⟨fun _ => hS2, ?_⟩
        refine wpM_done (by kernel_rfl) ?_
        have q1 := q1.below hS2 q1.lt
        have q2 := q2.below hS2 q2.lt
        have hB2 := hB1.trans (hS2.mono hB1.size)
        have hO2 := hO.below hS2
        clear hS2 hO hB1
        have hbs := hB2.size
        have HNW : Hid _ := new_one wb n
        have hO3 : (wb.alloc (.cells #[.int .i64 n] 3)).ownsRow w.heap.size 3 1 (.slice gu ds.length cu) ds.length (ds.map (Value.int .i64)) := World.ownsRow.alloc hO2 _
        have p1 := q1.alloc (.cells #[.int .i64 n] 3)
        have p2 := q2.alloc (.cells #[.int .i64 n] 3)
        have hB3 := hB2.alloc hbs (.cells #[.int .i64 n] 3)
        clear hO2 hB2 q1 q2
        go_wp2_with (at_builtin; refine wpList_append_own2 _ rfl (.tmp 29) (.tmp 31) 43 rfl w.heap.size 3 i0 (.int .i64 0) 1 8 Tryd.underlying43 hi hz0 hz1 hz2 rfl (by decide) _ _ _ rfl hO3 ⟨wb.heap.size, 0, none⟩ 1 1 [.int .i64 n] rfl rfl HNW.out (by simp [Value.oneCell']) (by unfold maxLen; omega) (by omega) (by simp; omega) ?_)
        intro v1 x1 hown1 hgrow1 hblk1
        have t1 := row_grownO p1 hO3 hgrow1 (by decide)
        have t2 := row_grownO p2 hO3 hgrow1 (by decide)
        have hB4 := below_grownO hB3 (by simp; omega) hO3 hgrow1
        have hO4 := OwnD.snoc hown1
        clear hown1 hgrow1 hblk1 p1 p2 hB3 hO3 HNW
        go_wp2
        go_roundw
        case rel => exact ⟨k + 1, 0, ds ++ [n], HK.out, by go_num, rfl, hO4, HI2, t1, t2, hB4⟩
        case measure => have := HK.out; simp [intOf]; omega
    · have hke : k = da.length := by omega
      have g1 : decide ((k : Int) < (da.length : Int)) = false := decide_eq_false (by omega)
      have g3 : decide (k < da.length) = false := decide_eq_false (by omega)
      obtain ⟨i1, i2, i3, i4, i5⟩ := HI.out
      rw [hke] at i1 i5
      have hres := less_end HGA.out HGB.out i4 i1 HLE.out i2 i5
      have HR : Hid (DgAt wr (.slice gu ds.length cu) ds ∧ DgL ds ∧ dval ds = dval da - dval db ∧ ds.length ≤ max da.length db.length + 1) := ⟨hO.dg, i4, hres, by rw [i1]; omega⟩
      clear i1 i2 i3 i4 i5 hres hke hkM HI
      go_wp2
      go_ret
      exact ⟨_, ds, rfl, HR.out.1, HR.out.2.1, HR.out.2.2.1, HR.out.2.2.2, hB1⟩
end Go.Proofs.YtfbhonjndepjbaaDoor
