import Derived.Test.YtfbhonjndepjbaaDoorRsf
/- more: which of two rows of digits is the greater number. -/
namespace Go.Proofs.YtfbhonjndepjbaaDoor
open Go.RowKit

theorem dval_tail (ds : List Int) : dval ds = ds[0]?.getD 0 + 10 * dval ds.tail := by cases ds <;> simp [dval]
theorem tail_get (ds : List Int) (j : Nat) : ds.tail[j]?.getD 0 = ds[j + 1]?.getD 0 := by cases ds <;> simp
theorem dval_ext : ∀ (n : Nat) (a b : List Int), a.length ≤ n → b.length ≤ n → (∀ j : Nat, a[j]?.getD 0 = b[j]?.getD 0) → dval a = dval b
  | 0, a, b, ha, hb, _ => by rw [List.eq_nil_of_length_eq_zero (by omega : a.length = 0), List.eq_nil_of_length_eq_zero (by omega : b.length = 0)]
  | n + 1, a, b, ha, hb, h => by
    rw [dval_tail a, dval_tail b, h 0, dval_ext n a.tail b.tail (by simp; omega) (by simp; omega) (fun j => by rw [tail_get, tail_get, h])]
theorem dgl_tail {ds : List Int} (h : DgL ds) : DgL ds.tail := fun d hd => h d (List.mem_of_mem_tail hd)
theorem dval_more : ∀ (i : Nat) (a b : List Int), DgL a → DgL b → (∀ j : Nat, i < j → a[j]?.getD 0 = b[j]?.getD 0) → b[i]?.getD 0 < a[i]?.getD 0 → dval b < dval a
  | 0, a, b, ha, hb, h, hi => by
    rw [dval_tail a, dval_tail b, dval_ext (a.length + b.length) a.tail b.tail (by simp; omega) (by simp; omega) (fun j => by rw [tail_get, tail_get, h (j + 1) (by omega)])]
    omega
  | i + 1, a, b, ha, hb, h, hi => by
    have ih := dval_more i a.tail b.tail (dgl_tail ha) (dgl_tail hb) (fun j hj => by rw [tail_get, tail_get, h (j + 1) (by omega)]) (by rw [tail_get, tail_get]; exact hi)
    have h1 := ha.get 0
    have h2 := hb.get 0
    rw [dval_tail a, dval_tail b]
    omega
def cI (x y : Int) : Int := if y < x then 1 else if x < y then -1 else 0
set_option maxRecDepth 100000 in
set_option maxHeartbeats 2000000 in
theorem more_any (na nb : Bool) (sa sb : Value) (da db : List Int) (w : World) (hA : DgAt w sa da) (hB : DgAt w sb db) (ga : DgL da) (gb : DgL db) (la : da.length ≤ 1000) (lb : db.length ≤ 1000) :
    Calls Tryd.prog 70 #[bv na sa, bv nb sb] w fun r w' => r = .returned (.int .i64 (cI (dval da) (dval db))) ∧ Below w.heap.size w w' := by
  obtain ⟨_, a1, c1, rfl, _, _⟩ := id hA
  obtain ⟨_, a2, c2, rfl, _, _⟩ := id hB
  obtain ⟨ci, HCI⟩ : ∃ ci, Hid (cI (dval da) (dval db) = ci) := ⟨_, rfl⟩
  rw [HCI.out]
  have HA : Hid (DgAt w (.slice a1 da.length c1) da) := hA
  have HB : Hid (DgAt w (.slice a2 db.length c2) db) := hB
  have HGA : Hid (DgL da) := ga
  have HGB : Hid (DgL db) := gb
  have HAT : ∀ W (i : Nat), DgAt W (.slice a1 da.length c1) da → Hid (Calls Tryd.prog 76 #[.agg #[.bool na, .slice a1 da.length c1], .int .i64 (i : Int)] W fun r w' => r = .returned (.int .i64 (da[i]?.getD 0)) ∧ Below W.heap.size W w') := fun W i h => by
    have := at_any na a1 c1 da (i : Int) W h.1
    rw [if_pos (by omega), Int.toNat_natCast] at this
    exact this
  have HBT : ∀ W (i : Nat), DgAt W (.slice a2 db.length c2) db → Hid (Calls Tryd.prog 76 #[.agg #[.bool nb, .slice a2 db.length c2], .int .i64 (i : Int)] W fun r w' => r = .returned (.int .i64 (db[i]?.getD 0)) ∧ Below W.heap.size W w') := fun W i h => by
    have := at_any nb a2 c2 db (i : Int) W h.1
    rw [if_pos (by omega), Int.toNat_natCast] at this
    exact this
  unfold bv
  clear hA hB ga gb
  go_enter Tryd.func70, Tryd.ntmps70
  go_wp2_with fail
  have r1 := (Row.new w 45 #[.bool na, .slice a1 da.length c1]).alloc (.cells #[.bool nb, .slice a2 db.length c2] 45)
  have r2 := Row.new1 w (.cells #[.bool na, .slice a1 da.length c1] 45) 45 #[.bool nb, .slice a2 db.length c2]
  have hB0 := ((Below.refl _ w).alloc (Nat.le_refl _) (.cells #[.bool na, .slice a1 da.length c1] 45)).alloc (by simp) (.cells #[.bool nb, .slice a2 db.length c2] 45)
  obtain ⟨d0, d1⟩ := r1.duo
  obtain ⟨e0, e1⟩ := r2.duo
  go_wp2
  clear d0 d1 e0 e1
  go_loopw [5] (fun v wr => ∃ k : Nat, k ≤ da.length + db.length + 1 ∧ v = .int .i64 ((k : Int) - 1) ∧ Hid (∀ j : Nat, k ≤ j → da[j]?.getD 0 = db[j]?.getD 0) ∧ Row wr w.heap.size 45 #[.bool na, .slice a1 da.length c1] ∧ Row wr (w.heap.size + 1) 45 #[.bool nb, .slice a2 db.length c2] ∧ Hid (Below w.heap.size w wr)) (fun v _ => (intOf v + 1).toNat)
  case atStart => exact ⟨da.length + db.length + 1, Nat.le_refl _, by congr 1; omega, fun j hj => by rw [List.getElem?_eq_none (by omega), List.getElem?_eq_none (by omega)], r1, r2, hB0⟩
  case round =>
    obtain ⟨k, hk, rfl, HE, q1, q2, HBr⟩ := hrel
    clear r1 r2 hB0
    by_cases h0 : k = 0
    · subst h0
      have hci : ci = 0 := by
        rw [← HCI.out]
        have := dval_ext (da.length + db.length) da db (by omega) (by omega) (fun j => HE.out j (Nat.zero_le _))
        unfold cI; rw [this]; simp
      have HC0 : Hid (ci = 0) := hci
      clear hci
      go_wp2
      go_ret
      exact ⟨by rw [HC0.out]; rfl, HBr.out⟩
    · obtain ⟨i, hi⟩ : ∃ i, k = i + 1 := ⟨k - 1, by omega⟩
      have hki : (k : Int) - 1 = (i : Int) := by omega
      have HKI : Hid (k = i + 1) := hi
      obtain ⟨x, ha⟩ : ∃ x, da[i]?.getD 0 = x := ⟨_, rfl⟩
      obtain ⟨y, hb⟩ : ∃ y, db[i]?.getD 0 = y := ⟨_, rfl⟩
      have hbx := HGA.out.get i
      have hby := HGB.out.get i
      rw [ha] at hbx
      rw [hb] at hby
      have hB0 := HBr.out
      clear hi h0
      rcases Int.lt_trichotomy x y with hxy | hxy | hxy
      · have hci : Hid (ci = -1) := by
          show _ = _
          rw [← HCI.out]
          have := dval_more i db da HGB.out HGA.out (fun j hj => (HE.out j (by have := HKI.out; omega)).symm) (by rw [ha, hb]; exact hxy)
          unfold cI; rw [if_neg (by omega), if_pos this]
        have g1 : decide (y < x) = false := decide_eq_false (by omega)
        go_wp2_with fail
        have hS : Below wr.heap.size wr wr.drew := (Below.refl _ wr).drew
        refine wp_region_M (fun wx : World => Below wr.heap.size wr wx) (fun j => decide (j < 7)) 7 rfl (by kernel_rfl) ?_
        refine wpM_held 0 (v := .agg #[.bool na, .slice a1 da.length c1]) rfl (by kernel_rfl) (by kernel_rfl) rfl (fun _ _ _ h => h) rfl (by intro wx hx; obtain ⟨x0, x1⟩ := (q1.below hx q1.lt).duo; go_simp <;> rfl) hS ?_
        refine wpM_held 1 (v := .int .i64 (i : Int)) rfl (by kernel_rfl) (by kernel_rfl) rfl (fun _ _ _ h => h) rfl (by intro wx hx; go_simp <;> rfl) hS ?_
        refine wpM_held 3 (v := .agg #[.bool nb, .slice a2 db.length c2]) rfl (by kernel_rfl) (by kernel_rfl) rfl (fun _ _ _ h => h) rfl (by intro wx hx; obtain ⟨x0, x1⟩ := (q2.below hx q2.lt).duo; go_simp <;> rfl) hS ?_
        refine wpM_held 4 (v := .int .i64 (i : Int)) rfl (by kernel_rfl) (by kernel_rfl) rfl (fun _ _ _ h => h) rfl (by intro wx hx; go_simp <;> rfl) hS ?_
        refine wpM_one 2 rfl (by kernel_rfl) rfl ?_
        go_wp2_with fail
        refine Calls.mono (HAT _ i (HA.out.below (hB0.trans (hS.mono hB0.size)))).out ?_
        rintro _ wa ⟨rfl, ba⟩
        have hS1 : Below wr.heap.size wr wa := hS.trans (ba.mono hS.size)
        clear ba
        rw [ha]
        go_wp2_with fail
        refine ⟨fun _ => hS1, ?_⟩
        refine wpM_one 5 rfl (by kernel_rfl) rfl ?_
        go_wp2_with fail
        refine Calls.mono (HBT _ i (HB.out.below (hB0.trans (hS1.mono hB0.size)))).out ?_
        rintro _ wb ⟨rfl, bb⟩
        have hS2 : Below wr.heap.size wr wb := hS1.trans (bb.mono hS1.size)
        clear bb hS1 hS
        rw [hb]
        go_wp2_with fail
        refine ⟨fun _ => hS2, ?_⟩
        refine wpM_one 6 rfl (by kernel_rfl) rfl ?_
        go_wp2_with fail
        refine ⟨fun _ => hS2, ?_⟩
        refine wpM_done (by kernel_rfl) ?_
        have q1 := q1.below hS2 q1.lt
        have q2 := q2.below hS2 q2.lt
        have hB02 := hB0.trans (hS2.mono hB0.size)
        clear hS2
        clear HBr
        go_wp2_with fail
        have hS : Below wb.heap.size wb wb.drew := (Below.refl _ wb).drew
        refine wp_region_M (fun wx : World => Below wb.heap.size wb wx) (fun j => decide (j < 7)) 7 rfl (by kernel_rfl) ?_
        refine wpM_held 0 (v := .agg #[.bool na, .slice a1 da.length c1]) rfl (by kernel_rfl) (by kernel_rfl) rfl (fun _ _ _ h => h) rfl (by intro wx hx; obtain ⟨x0, x1⟩ := (q1.below hx q1.lt).duo; go_simp <;> rfl) hS ?_
        refine wpM_held 1 (v := .int .i64 (i : Int)) rfl (by kernel_rfl) (by kernel_rfl) rfl (fun _ _ _ h => h) rfl (by intro wx hx; go_simp <;> rfl) hS ?_
        refine wpM_held 3 (v := .agg #[.bool nb, .slice a2 db.length c2]) rfl (by kernel_rfl) (by kernel_rfl) rfl (fun _ _ _ h => h) rfl (by intro wx hx; obtain ⟨x0, x1⟩ := (q2.below hx q2.lt).duo; go_simp <;> rfl) hS ?_
        refine wpM_held 4 (v := .int .i64 (i : Int)) rfl (by kernel_rfl) (by kernel_rfl) rfl (fun _ _ _ h => h) rfl (by intro wx hx; go_simp <;> rfl) hS ?_
        refine wpM_one 2 rfl (by kernel_rfl) rfl ?_
        go_wp2_with fail
        refine Calls.mono (HAT _ i (HA.out.below (hB02.trans (hS.mono hB02.size)))).out ?_
        rintro _ wc ⟨rfl, ba⟩
        have hS1 : Below wb.heap.size wb wc := hS.trans (ba.mono hS.size)
        clear ba
        rw [ha]
        go_wp2_with fail
        refine ⟨fun _ => hS1, ?_⟩
        refine wpM_one 5 rfl (by kernel_rfl) rfl ?_
        go_wp2_with fail
        refine Calls.mono (HBT _ i (HB.out.below (hB02.trans (hS1.mono hB02.size)))).out ?_
        rintro _ wd ⟨rfl, bb⟩
        have hS2 : Below wb.heap.size wb wd := hS1.trans (bb.mono hS1.size)
        clear bb hS1 hS
        rw [hb]
        go_wp2_with fail
        refine ⟨fun _ => hS2, ?_⟩
        refine wpM_one 6 rfl (by kernel_rfl) rfl ?_
        go_wp2_with fail
        refine ⟨fun _ => hS2, ?_⟩
        refine wpM_done (by kernel_rfl) ?_
        have q1 := q1.below hS2 q1.lt
        have q2 := q2.below hS2 q2.lt
        have hB022 := hB02.trans (hS2.mono hB02.size)
        clear hS2
        go_wp2
        go_ret
        exact ⟨by rw [hci.out]; rfl, hB022⟩
      · have HXY : Hid (x = y) := hxy
        have g1 : decide (y < x) = false := decide_eq_false (by omega)
        have g2 : decide (x < y) = false := decide_eq_false (by omega)
        clear hxy
        go_wp2_with fail
        have hS : Below wr.heap.size wr wr.drew := (Below.refl _ wr).drew
        refine wp_region_M (fun wx : World => Below wr.heap.size wr wx) (fun j => decide (j < 7)) 7 rfl (by kernel_rfl) ?_
        refine wpM_held 0 (v := .agg #[.bool na, .slice a1 da.length c1]) rfl (by kernel_rfl) (by kernel_rfl) rfl (fun _ _ _ h => h) rfl (by intro wx hx; obtain ⟨x0, x1⟩ := (q1.below hx q1.lt).duo; go_simp <;> rfl) hS ?_
        refine wpM_held 1 (v := .int .i64 (i : Int)) rfl (by kernel_rfl) (by kernel_rfl) rfl (fun _ _ _ h => h) rfl (by intro wx hx; go_simp <;> rfl) hS ?_
        refine wpM_held 3 (v := .agg #[.bool nb, .slice a2 db.length c2]) rfl (by kernel_rfl) (by kernel_rfl) rfl (fun _ _ _ h => h) rfl (by intro wx hx; obtain ⟨x0, x1⟩ := (q2.below hx q2.lt).duo; go_simp <;> rfl) hS ?_
        refine wpM_held 4 (v := .int .i64 (i : Int)) rfl (by kernel_rfl) (by kernel_rfl) rfl (fun _ _ _ h => h) rfl (by intro wx hx; go_simp <;> rfl) hS ?_
        refine wpM_one 2 rfl (by kernel_rfl) rfl ?_
        go_wp2_with fail
        refine Calls.mono (HAT _ i (HA.out.below (hB0.trans (hS.mono hB0.size)))).out ?_
        rintro _ wa ⟨rfl, ba⟩
        have hS1 : Below wr.heap.size wr wa := hS.trans (ba.mono hS.size)
        clear ba
        rw [ha]
        go_wp2_with fail
        refine ⟨fun _ => hS1, ?_⟩
        refine wpM_one 5 rfl (by kernel_rfl) rfl ?_
        go_wp2_with fail
        refine Calls.mono (HBT _ i (HB.out.below (hB0.trans (hS1.mono hB0.size)))).out ?_
        rintro _ wb ⟨rfl, bb⟩
        have hS2 : Below wr.heap.size wr wb := hS1.trans (bb.mono hS1.size)
        clear bb hS1 hS
        rw [hb]
        go_wp2_with fail
        refine ⟨fun _ => hS2, ?_⟩
        refine wpM_one 6 rfl (by kernel_rfl) rfl ?_
        go_wp2_with fail
        refine ⟨fun _ => hS2, ?_⟩
        refine wpM_done (by kernel_rfl) ?_
        have q1 := q1.below hS2 q1.lt
        have q2 := q2.below hS2 q2.lt
        have hB02 := hB0.trans (hS2.mono hB0.size)
        clear hS2
        clear HBr
        go_wp2_with fail
        have hS : Below wb.heap.size wb wb.drew := (Below.refl _ wb).drew
        refine wp_region_M (fun wx : World => Below wb.heap.size wb wx) (fun j => decide (j < 7)) 7 rfl (by kernel_rfl) ?_
        refine wpM_held 0 (v := .agg #[.bool na, .slice a1 da.length c1]) rfl (by kernel_rfl) (by kernel_rfl) rfl (fun _ _ _ h => h) rfl (by intro wx hx; obtain ⟨x0, x1⟩ := (q1.below hx q1.lt).duo; go_simp <;> rfl) hS ?_
        refine wpM_held 1 (v := .int .i64 (i : Int)) rfl (by kernel_rfl) (by kernel_rfl) rfl (fun _ _ _ h => h) rfl (by intro wx hx; go_simp <;> rfl) hS ?_
        refine wpM_held 3 (v := .agg #[.bool nb, .slice a2 db.length c2]) rfl (by kernel_rfl) (by kernel_rfl) rfl (fun _ _ _ h => h) rfl (by intro wx hx; obtain ⟨x0, x1⟩ := (q2.below hx q2.lt).duo; go_simp <;> rfl) hS ?_
        refine wpM_held 4 (v := .int .i64 (i : Int)) rfl (by kernel_rfl) (by kernel_rfl) rfl (fun _ _ _ h => h) rfl (by intro wx hx; go_simp <;> rfl) hS ?_
        refine wpM_one 2 rfl (by kernel_rfl) rfl ?_
        go_wp2_with fail
        refine Calls.mono (HAT _ i (HA.out.below (hB02.trans (hS.mono hB02.size)))).out ?_
        rintro _ wc ⟨rfl, ba⟩
        have hS1 : Below wb.heap.size wb wc := hS.trans (ba.mono hS.size)
        clear ba
        rw [ha]
        go_wp2_with fail
        refine ⟨fun _ => hS1, ?_⟩
        refine wpM_one 5 rfl (by kernel_rfl) rfl ?_
        go_wp2_with fail
        refine Calls.mono (HBT _ i (HB.out.below (hB02.trans (hS1.mono hB02.size)))).out ?_
        rintro _ wd ⟨rfl, bb⟩
        have hS2 : Below wb.heap.size wb wd := hS1.trans (bb.mono hS1.size)
        clear bb hS1 hS
        rw [hb]
        go_wp2_with fail
        refine ⟨fun _ => hS2, ?_⟩
        refine wpM_one 6 rfl (by kernel_rfl) rfl ?_
        go_wp2_with fail
        refine ⟨fun _ => hS2, ?_⟩
        refine wpM_done (by kernel_rfl) ?_
        have q1 := q1.below hS2 q1.lt
        have q2 := q2.below hS2 q2.lt
        have hB022 := hB02.trans (hS2.mono hB02.size)
        clear hS2
        have HE2 : Hid (∀ j : Nat, i ≤ j → da[j]?.getD 0 = db[j]?.getD 0) := by
          intro j hj
          by_cases hji : j = i
          · rw [hji, ha, hb]; exact HXY.out
          · exact HE.out j (by have := HKI.out; omega)
        go_wp2
        go_roundw
        case rel => exact ⟨i, by have := HKI.out; omega, by go_num, HE2, q1, q2, hB022⟩
        case measure => have := HKI.out; simp [intOf]; omega
      · have hci : Hid (ci = 1) := by
          show _ = _
          rw [← HCI.out]
          have := dval_more i da db HGA.out HGB.out (fun j hj => HE.out j (by have := HKI.out; omega)) (by rw [ha, hb]; exact hxy)
          unfold cI; rw [if_pos this]
        go_wp2_with fail
        have hS : Below wr.heap.size wr wr.drew := (Below.refl _ wr).drew
        refine wp_region_M (fun wx : World => Below wr.heap.size wr wx) (fun j => decide (j < 7)) 7 rfl (by kernel_rfl) ?_
        refine wpM_held 0 (v := .agg #[.bool na, .slice a1 da.length c1]) rfl (by kernel_rfl) (by kernel_rfl) rfl (fun _ _ _ h => h) rfl (by intro wx hx; obtain ⟨x0, x1⟩ := (q1.below hx q1.lt).duo; go_simp <;> rfl) hS ?_
        refine wpM_held 1 (v := .int .i64 (i : Int)) rfl (by kernel_rfl) (by kernel_rfl) rfl (fun _ _ _ h => h) rfl (by intro wx hx; go_simp <;> rfl) hS ?_
        refine wpM_held 3 (v := .agg #[.bool nb, .slice a2 db.length c2]) rfl (by kernel_rfl) (by kernel_rfl) rfl (fun _ _ _ h => h) rfl (by intro wx hx; obtain ⟨x0, x1⟩ := (q2.below hx q2.lt).duo; go_simp <;> rfl) hS ?_
        refine wpM_held 4 (v := .int .i64 (i : Int)) rfl (by kernel_rfl) (by kernel_rfl) rfl (fun _ _ _ h => h) rfl (by intro wx hx; go_simp <;> rfl) hS ?_
        refine wpM_one 2 rfl (by kernel_rfl) rfl ?_
        go_wp2_with fail
        refine Calls.mono (HAT _ i (HA.out.below (hB0.trans (hS.mono hB0.size)))).out ?_
        rintro _ wa ⟨rfl, ba⟩
        have hS1 : Below wr.heap.size wr wa := hS.trans (ba.mono hS.size)
        clear ba
        rw [ha]
        go_wp2_with fail
        refine ⟨fun _ => hS1, ?_⟩
        refine wpM_one 5 rfl (by kernel_rfl) rfl ?_
        go_wp2_with fail
        refine Calls.mono (HBT _ i (HB.out.below (hB0.trans (hS1.mono hB0.size)))).out ?_
        rintro _ wb ⟨rfl, bb⟩
        have hS2 : Below wr.heap.size wr wb := hS1.trans (bb.mono hS1.size)
        clear bb hS1 hS
        rw [hb]
        go_wp2_with fail
        refine ⟨fun _ => hS2, ?_⟩
        refine wpM_one 6 rfl (by kernel_rfl) rfl ?_
        go_wp2_with fail
        refine ⟨fun _ => hS2, ?_⟩
        refine wpM_done (by kernel_rfl) ?_
        have q1 := q1.below hS2 q1.lt
        have q2 := q2.below hS2 q2.lt
        have hB02 := hB0.trans (hS2.mono hB0.size)
        clear hS2
        go_wp2
        go_ret
        exact ⟨by rw [hci.out]; rfl, hB02⟩
end Go.Proofs.YtfbhonjndepjbaaDoor
