import Derived.Test.YtfbhonjndepjbaaDoorWleM
/- divided: what a way that divides makes of two Decs. -/
namespace Go.Proofs.YtfbhonjndepjbaaDoor
open Go.RowKit

set_option maxRecDepth 100000 in
set_option maxHeartbeats 800000 in
theorem divided_bad1 (f : FuncId) (c e c2 e2 : Int) (he : ¬ within e) (w : World) :
    Calls Tryd.prog 55 #[.func (.func f) #[] #[], dv c e, dv c2 e2] w fun r w' => r = .returned (.tuple #[dv 0 0, .int .i64 1]) ∧ Below w.heap.size w w' := by
  unfold dv
  go_enter Tryd.func55, Tryd.ntmps55
  go_wp2_with fail
  obtain ⟨_, _, _, hK, _⟩ := four_rows w _ _ _ _ _ 23 23 23 23 (Below.refl _ ((((w.alloc (.cells #[.int .i64 c, .int .i64 e] 23)).alloc (.cells #[.int .i64 c2, .int .i64 e2] 23)).alloc (.cells #[.int .i64 0, .int .i64 0] 23)).alloc (.cells #[.int .i64 c, .int .i64 e, .int .i64 c2, .int .i64 e2] 23)))
  refine (taken2_bad1 c e c2 e2 _ _ he hK).mono ?_
  rintro _ w1 ⟨h1, rfl⟩
  obtain ⟨_, _, hZ, _, hB⟩ := four_rows w w1 _ _ _ _ _ _ _ _ h1
  obtain ⟨d0, d1⟩ := hZ.duo
  have z := hZ.frozen
  clear h1
  go_wp2
  refine bodyPost_ret (ret_two rfl (g := w.heap.size + 2) rfl rfl (load23 (Row.set2 hZ _ _) rfl)) rfl ⟨rfl, ?_⟩
  repeat (refine below_set ?_ _ _ (by omega))
  exact hB
set_option maxRecDepth 100000 in
set_option maxHeartbeats 800000 in
theorem divided_bad2 (f : FuncId) (c e c2 e2 : Int) (hc : I64 c) (he : within e) (he2 : ¬ within e2) (w : World) :
    Calls Tryd.prog 55 #[.func (.func f) #[] #[], dv c e, dv c2 e2] w fun r w' => r = .returned (.tuple #[dv 0 0, .int .i64 1]) ∧ Below w.heap.size w w' := by
  unfold dv
  go_enter Tryd.func55, Tryd.ntmps55
  go_wp2_with fail
  obtain ⟨_, _, _, hK, _⟩ := four_rows w _ _ _ _ _ 23 23 23 23 (Below.refl _ ((((w.alloc (.cells #[.int .i64 c, .int .i64 e] 23)).alloc (.cells #[.int .i64 c2, .int .i64 e2] 23)).alloc (.cells #[.int .i64 0, .int .i64 0] 23)).alloc (.cells #[.int .i64 c, .int .i64 e, .int .i64 c2, .int .i64 e2] 23)))
  refine (taken2_bad2 c e c2 e2 _ _ hc he he2 hK).mono ?_
  rintro _ w1 ⟨h1, rfl⟩
  obtain ⟨_, _, hZ, _, hB⟩ := four_rows w w1 _ _ _ _ _ _ _ _ h1
  obtain ⟨d0, d1⟩ := hZ.duo
  have z := hZ.frozen
  clear h1
  go_wp2
  refine bodyPost_ret (ret_two rfl (g := w.heap.size + 2) rfl rfl (load23 (Row.set2 hZ _ _) rfl)) rfl ⟨rfl, ?_⟩
  repeat (refine below_set ?_ _ _ (by omega))
  exact hB
set_option maxRecDepth 100000 in
set_option maxHeartbeats 800000 in
theorem divided_ok47 (c e c2 e2 : Int) (o : Option Wd) (hc : I64 c) (he : within e) (hc2 : I64 c2) (he2 : within e2) (hnz : (decW c2 e2).n ≠ 0)
    (hw : ∀ w, Calls Tryd.prog 56 #[(decW c e).val, (decW c2 e2).val] w fun r w' => WayR o r ∧ Below w.heap.size w w') (w : World) :
    Calls Tryd.prog 55 #[.func (.func 56) #[] #[], dv c e, dv c2 e2] w fun r w' => r = .returned (decV (toldW o)) ∧ Below w.heap.size w w' := by
  have hT := fun K w (hK : Row w K 23 #[.int .i64 c, .int .i64 e, .int .i64 c2, .int .i64 e2]) => taken2 c e c2 e2 K w hc he hc2 he2 hK
  simp only [Wd.val_eq] at *
  obtain ⟨y0, y1, y2, y3, hy⟩ : ∃ y0 y1 y2 y3, (decW c e).cells = #[y0, y1, y2, y3] := ⟨_, _, _, _, rfl⟩
  obtain ⟨z0, z1, z2, z3, hz⟩ : ∃ y0 y1 y2 y3, (decW c2 e2).cells = #[y0, y1, y2, y3] := ⟨_, _, _, _, rfl⟩
  rw [hy, hz] at hw
  simp only [hy, hz] at hT
  clear hc he hc2 he2
  obtain ⟨p, q, v, hdv⟩ := decV_form (toldW o)
  rw [hdv]
  have HDV : Hid (decV (toldW o) = .tuple #[.agg #[.int .i64 p, .int .i64 q], .int .i64 v]) := hdv
  clear hdv
  unfold dv
  go_enter Tryd.func55, Tryd.ntmps55
  go_wp2_with fail
  obtain ⟨_, _, _, hK, _⟩ := four_rows w _ _ _ _ _ 23 23 23 23 (Below.refl _ ((((w.alloc (.cells #[.int .i64 c, .int .i64 e] 23)).alloc (.cells #[.int .i64 c2, .int .i64 e2] 23)).alloc (.cells #[.int .i64 0, .int .i64 0] 23)).alloc (.cells #[.int .i64 c, .int .i64 e, .int .i64 c2, .int .i64 e2] 23)))
  refine (hT _ _ hK).mono ?_
  rintro _ W ⟨h1, G, hG, rfl, hR⟩
  obtain ⟨_, _, hZ, _, hB⟩ := four_rows w W _ _ _ _ _ _ _ _ h1
  have hGn : w.heap.size + 2 ≠ G := by simp at hG; omega
  have hR : Row W G 59 #[y0, y1, y2, y3, z0, z1, z2, z3] := hR
  clear h1 hG hK hT
  have hzz : ∀ w, Calls Tryd.prog 61 #[.agg #[z0, z1, z2, z3]] w fun r w' => r = .returned (.bool false) ∧ Below w.heap.size w w' := by
    have := zero_W (decW c2 e2)
    rw [decide_eq_false hnz, Wd.val_eq, hz] at this
    exact this
  obtain ⟨g0, g1, g2, g3, g4, g5, g6, g7⟩ := hR.eight
  go_wp2_with fail
  refine (hzz _).mono ?_
  rintro _ W' ⟨rfl, h1⟩
  have hZ := hZ.below h1 hZ.lt
  have hR := hR.below h1 hR.lt
  have hB := hB.trans (h1.mono hB.size)
  clear g0 g1 g2 g3 g4 g5 g6 g7 h1 hzz
  go_wp2_with fail
  have hS0 : Below W'.heap.size W' W'.drew := (Below.refl _ W').drew
  refine wp_region_M (fun wx : World => Below W'.heap.size W' wx) (fun j => decide (j < 10)) 15 rfl (by kernel_rfl) ?_
  refine wpM_held 0 (v := ?_) rfl (by kernel_rfl) (by kernel_rfl) rfl (fun _ _ _ h => h) rfl (by intro wx hx; go_simp <;> rfl) hS0 ?_
  refine wpM_held 1 (v := ?_) rfl (by kernel_rfl) (by kernel_rfl) rfl (fun _ _ _ h => h) rfl (by intro wx hx; go_simp <;> rfl) hS0 ?_
  refine wpM_held 2 (v := .pointer (some ⟨G, 0, none⟩)) rfl (by kernel_rfl) (by kernel_rfl) rfl (fun _ _ _ h => h) rfl (by intro wx hx; go_simp <;> rfl) hS0 ?_
  refine wpM_held 3 (v := .agg #[y0, y1, y2, y3]) rfl (by kernel_rfl) (by kernel_rfl) rfl (fun _ _ _ h => h) rfl (by intro wx hx; obtain ⟨g0, g1, g2, g3, g4, g5, g6, g7⟩ := (hR.below hx hR.lt).eight; go_simp <;> rfl) hS0 ?_
  refine wpM_held 4 (v := ?_) rfl (by kernel_rfl) (by kernel_rfl) rfl (fun _ _ _ h => h) rfl (by intro wx hx; go_simp <;> rfl) hS0 ?_
  refine wpM_held 5 (v := .pointer (some ⟨G, 4, none⟩)) rfl (by kernel_rfl) (by kernel_rfl) rfl (fun _ _ _ h => h) rfl (by intro wx hx; go_simp <;> rfl) hS0 ?_
  refine wpM_held 6 (v := .agg #[z0, z1, z2, z3]) rfl (by kernel_rfl) (by kernel_rfl) rfl (fun _ _ _ h => h) rfl (by intro wx hx; obtain ⟨g0, g1, g2, g3, g4, g5, g6, g7⟩ := (hR.below hx hR.lt).eight; go_simp <;> rfl) hS0 ?_
  refine wpM_one 7 rfl (by kernel_rfl) rfl ?_
  go_wp2_with fail
  refine (hw _).mono ?_
  rintro _ w1 ⟨⟨x, t, rfl, x1, x2, x3, x4⟩, h1⟩
  have hS1 := hS0.trans h1
  have hTD := told_any x t x1 x3 x2
  rw [show (if t = true then tellW x.neg x.n x.e else none) = toldW o by rw [x4]; cases t <;> rfl] at hTD
  rw [HDV.out] at hTD
  obtain ⟨d0, d1, d2, d3, hxv⟩ := val_agg x
  rw [hxv] at hTD ⊢
  clear h1 hw x1 x2 x3 x4 hxv
  go_wp2_with fail
  refine ⟨fun _ => hS1, ?_⟩
  refine wpM_held 8 (v := ?_) rfl (by kernel_rfl) (by kernel_rfl) rfl (fun _ _ _ h => h) rfl (by intro wx hx; go_simp <;> rfl) hS1 ?_
  refine wpM_held 9 (v := ?_) rfl (by kernel_rfl) (by kernel_rfl) rfl (fun _ _ _ h => h) rfl (by intro wx hx; go_simp <;> rfl) hS1 ?_
  refine wpM_one 10 rfl (by kernel_rfl) rfl ?_
  go_wp2_with fail
  refine (hTD _).mono ?_
  rintro _ w2 ⟨rfl, h2⟩
  have hS2 := hS1.trans (h2.mono hS1.size)
  have hZ2 := hZ.below hS2 hZ.lt
  have hB2 := hB.trans (hS2.mono hB.size)
  clear h2 hTD
  go_wp2_with fail
  refine ⟨(fun h => by simp at h), ?_⟩
  refine wpM_free 11 (v := ?_) rfl (by kernel_rfl) (by kernel_rfl) rfl (fun _ _ _ h => h) rfl (by intro wx; go_simp <;> rfl) ?_
  refine wpM_free 12 (v := ?_) rfl (by kernel_rfl) (by kernel_rfl) rfl (fun _ _ _ h => h) rfl (by intro wx; go_simp <;> rfl) ?_
  obtain ⟨g0, g1⟩ := hZ2.duo
  have z := hZ2.frozen
  refine wpM_one 13 rfl (by kernel_rfl) rfl ?_
  go_wp2_with fail
  refine ⟨(fun h => by simp at h), ?_⟩
  refine wpM_one 14 rfl (by kernel_rfl) rfl ?_
  go_wp2_with fail
  refine ⟨(fun h => by simp at h), ?_⟩
  refine wpM_done (by kernel_rfl) ?_
  go_wp2
  refine bodyPost_ret (v := .tuple #[.agg #[.int .i64 p, .int .i64 q], .int .i64 v]) (ret_two rfl (g := w.heap.size + 2) rfl rfl (load23 (Row.set2 hZ2 _ _) rfl)) rfl ⟨rfl, ?_⟩
  repeat (refine below_set ?_ _ _ (by omega))
  exact hB2
set_option maxRecDepth 100000 in
set_option maxHeartbeats 800000 in
theorem divided_ok51 (c e c2 e2 : Int) (o : Option Wd) (hc : I64 c) (he : within e) (hc2 : I64 c2) (he2 : within e2) (hnz : (decW c2 e2).n ≠ 0)
    (hw : ∀ w, Calls Tryd.prog 60 #[(decW c e).val, (decW c2 e2).val] w fun r w' => WayR o r ∧ Below w.heap.size w w') (w : World) :
    Calls Tryd.prog 55 #[.func (.func 60) #[] #[], dv c e, dv c2 e2] w fun r w' => r = .returned (decV (toldW o)) ∧ Below w.heap.size w w' := by
  have hT := fun K w (hK : Row w K 23 #[.int .i64 c, .int .i64 e, .int .i64 c2, .int .i64 e2]) => taken2 c e c2 e2 K w hc he hc2 he2 hK
  simp only [Wd.val_eq] at *
  obtain ⟨y0, y1, y2, y3, hy⟩ : ∃ y0 y1 y2 y3, (decW c e).cells = #[y0, y1, y2, y3] := ⟨_, _, _, _, rfl⟩
  obtain ⟨z0, z1, z2, z3, hz⟩ : ∃ y0 y1 y2 y3, (decW c2 e2).cells = #[y0, y1, y2, y3] := ⟨_, _, _, _, rfl⟩
  rw [hy, hz] at hw
  simp only [hy, hz] at hT
  clear hc he hc2 he2
  obtain ⟨p, q, v, hdv⟩ := decV_form (toldW o)
  rw [hdv]
  have HDV : Hid (decV (toldW o) = .tuple #[.agg #[.int .i64 p, .int .i64 q], .int .i64 v]) := hdv
  clear hdv
  unfold dv
  go_enter Tryd.func55, Tryd.ntmps55
  go_wp2_with fail
  obtain ⟨_, _, _, hK, _⟩ := four_rows w _ _ _ _ _ 23 23 23 23 (Below.refl _ ((((w.alloc (.cells #[.int .i64 c, .int .i64 e] 23)).alloc (.cells #[.int .i64 c2, .int .i64 e2] 23)).alloc (.cells #[.int .i64 0, .int .i64 0] 23)).alloc (.cells #[.int .i64 c, .int .i64 e, .int .i64 c2, .int .i64 e2] 23)))
  refine (hT _ _ hK).mono ?_
  rintro _ W ⟨h1, G, hG, rfl, hR⟩
  obtain ⟨_, _, hZ, _, hB⟩ := four_rows w W _ _ _ _ _ _ _ _ h1
  have hGn : w.heap.size + 2 ≠ G := by simp at hG; omega
  have hR : Row W G 59 #[y0, y1, y2, y3, z0, z1, z2, z3] := hR
  clear h1 hG hK hT
  have hzz : ∀ w, Calls Tryd.prog 61 #[.agg #[z0, z1, z2, z3]] w fun r w' => r = .returned (.bool false) ∧ Below w.heap.size w w' := by
    have := zero_W (decW c2 e2)
    rw [decide_eq_false hnz, Wd.val_eq, hz] at this
    exact this
  obtain ⟨g0, g1, g2, g3, g4, g5, g6, g7⟩ := hR.eight
  go_wp2_with fail
  refine (hzz _).mono ?_
  rintro _ W' ⟨rfl, h1⟩
  have hZ := hZ.below h1 hZ.lt
  have hR := hR.below h1 hR.lt
  have hB := hB.trans (h1.mono hB.size)
  clear g0 g1 g2 g3 g4 g5 g6 g7 h1 hzz
  go_wp2_with fail
  have hS0 : Below W'.heap.size W' W'.drew := (Below.refl _ W').drew
  refine wp_region_M (fun wx : World => Below W'.heap.size W' wx) (fun j => decide (j < 10)) 15 rfl (by kernel_rfl) ?_
  refine wpM_held 0 (v := ?_) rfl (by kernel_rfl) (by kernel_rfl) rfl (fun _ _ _ h => h) rfl (by intro wx hx; go_simp <;> rfl) hS0 ?_
  refine wpM_held 1 (v := ?_) rfl (by kernel_rfl) (by kernel_rfl) rfl (fun _ _ _ h => h) rfl (by intro wx hx; go_simp <;> rfl) hS0 ?_
  refine wpM_held 2 (v := .pointer (some ⟨G, 0, none⟩)) rfl (by kernel_rfl) (by kernel_rfl) rfl (fun _ _ _ h => h) rfl (by intro wx hx; go_simp <;> rfl) hS0 ?_
  refine wpM_held 3 (v := .agg #[y0, y1, y2, y3]) rfl (by kernel_rfl) (by kernel_rfl) rfl (fun _ _ _ h => h) rfl (by intro wx hx; obtain ⟨g0, g1, g2, g3, g4, g5, g6, g7⟩ := (hR.below hx hR.lt).eight; go_simp <;> rfl) hS0 ?_
  refine wpM_held 4 (v := ?_) rfl (by kernel_rfl) (by kernel_rfl) rfl (fun _ _ _ h => h) rfl (by intro wx hx; go_simp <;> rfl) hS0 ?_
  refine wpM_held 5 (v := .pointer (some ⟨G, 4, none⟩)) rfl (by kernel_rfl) (by kernel_rfl) rfl (fun _ _ _ h => h) rfl (by intro wx hx; go_simp <;> rfl) hS0 ?_
  refine wpM_held 6 (v := .agg #[z0, z1, z2, z3]) rfl (by kernel_rfl) (by kernel_rfl) rfl (fun _ _ _ h => h) rfl (by intro wx hx; obtain ⟨g0, g1, g2, g3, g4, g5, g6, g7⟩ := (hR.below hx hR.lt).eight; go_simp <;> rfl) hS0 ?_
  refine wpM_one 7 rfl (by kernel_rfl) rfl ?_
  go_wp2_with fail
  refine (hw _).mono ?_
  rintro _ w1 ⟨⟨x, t, rfl, x1, x2, x3, x4⟩, h1⟩
  have hS1 := hS0.trans h1
  have hTD := told_any x t x1 x3 x2
  rw [show (if t = true then tellW x.neg x.n x.e else none) = toldW o by rw [x4]; cases t <;> rfl] at hTD
  rw [HDV.out] at hTD
  obtain ⟨d0, d1, d2, d3, hxv⟩ := val_agg x
  rw [hxv] at hTD ⊢
  clear h1 hw x1 x2 x3 x4 hxv
  go_wp2_with fail
  refine ⟨fun _ => hS1, ?_⟩
  refine wpM_held 8 (v := ?_) rfl (by kernel_rfl) (by kernel_rfl) rfl (fun _ _ _ h => h) rfl (by intro wx hx; go_simp <;> rfl) hS1 ?_
  refine wpM_held 9 (v := ?_) rfl (by kernel_rfl) (by kernel_rfl) rfl (fun _ _ _ h => h) rfl (by intro wx hx; go_simp <;> rfl) hS1 ?_
  refine wpM_one 10 rfl (by kernel_rfl) rfl ?_
  go_wp2_with fail
  refine (hTD _).mono ?_
  rintro _ w2 ⟨rfl, h2⟩
  have hS2 := hS1.trans (h2.mono hS1.size)
  have hZ2 := hZ.below hS2 hZ.lt
  have hB2 := hB.trans (hS2.mono hB.size)
  clear h2 hTD
  go_wp2_with fail
  refine ⟨(fun h => by simp at h), ?_⟩
  refine wpM_free 11 (v := ?_) rfl (by kernel_rfl) (by kernel_rfl) rfl (fun _ _ _ h => h) rfl (by intro wx; go_simp <;> rfl) ?_
  refine wpM_free 12 (v := ?_) rfl (by kernel_rfl) (by kernel_rfl) rfl (fun _ _ _ h => h) rfl (by intro wx; go_simp <;> rfl) ?_
  obtain ⟨g0, g1⟩ := hZ2.duo
  have z := hZ2.frozen
  refine wpM_one 13 rfl (by kernel_rfl) rfl ?_
  go_wp2_with fail
  refine ⟨(fun h => by simp at h), ?_⟩
  refine wpM_one 14 rfl (by kernel_rfl) rfl ?_
  go_wp2_with fail
  refine ⟨(fun h => by simp at h), ?_⟩
  refine wpM_done (by kernel_rfl) ?_
  go_wp2
  refine bodyPost_ret (v := .tuple #[.agg #[.int .i64 p, .int .i64 q], .int .i64 v]) (ret_two rfl (g := w.heap.size + 2) rfl rfl (load23 (Row.set2 hZ2 _ _) rfl)) rfl ⟨rfl, ?_⟩
  repeat (refine below_set ?_ _ _ (by omega))
  exact hB2
set_option maxRecDepth 100000 in
set_option maxHeartbeats 800000 in
theorem divided_zero (f : FuncId) (c e c2 e2 : Int) (hc : I64 c) (he : within e) (hc2 : I64 c2) (he2 : within e2) (hnz : (decW c2 e2).n = 0) (w : World) :
    Calls Tryd.prog 55 #[.func (.func f) #[] #[], dv c e, dv c2 e2] w fun r w' => r = .returned (.tuple #[dv 0 0, .int .i64 31]) ∧ Below w.heap.size w w' := by
  have hT := fun K w (hK : Row w K 23 #[.int .i64 c, .int .i64 e, .int .i64 c2, .int .i64 e2]) => taken2 c e c2 e2 K w hc he hc2 he2 hK
  obtain ⟨y0, y1, y2, y3, hy⟩ : ∃ y0 y1 y2 y3, (decW c e).cells = #[y0, y1, y2, y3] := ⟨_, _, _, _, rfl⟩
  obtain ⟨z0, z1, z2, z3, hz⟩ : ∃ y0 y1 y2 y3, (decW c2 e2).cells = #[y0, y1, y2, y3] := ⟨_, _, _, _, rfl⟩
  simp only [hy, hz] at hT
  have hzz : ∀ w, Calls Tryd.prog 61 #[.agg #[z0, z1, z2, z3]] w fun r w' => r = .returned (.bool true) ∧ Below w.heap.size w w' := by
    have := zero_W (decW c2 e2)
    rw [decide_eq_true hnz, Wd.val_eq, hz] at this
    exact this
  clear hc he hc2 he2 hnz
  unfold dv
  go_enter Tryd.func55, Tryd.ntmps55
  go_wp2_with fail
  obtain ⟨_, _, _, hK, _⟩ := four_rows w _ _ _ _ _ 23 23 23 23 (Below.refl _ ((((w.alloc (.cells #[.int .i64 c, .int .i64 e] 23)).alloc (.cells #[.int .i64 c2, .int .i64 e2] 23)).alloc (.cells #[.int .i64 0, .int .i64 0] 23)).alloc (.cells #[.int .i64 c, .int .i64 e, .int .i64 c2, .int .i64 e2] 23)))
  refine (hT _ _ hK).mono ?_
  rintro _ W ⟨h1, G, hG, rfl, hR⟩
  obtain ⟨_, _, hZ, _, hB⟩ := four_rows w W _ _ _ _ _ _ _ _ h1
  have hR : Row W G 59 #[y0, y1, y2, y3, z0, z1, z2, z3] := hR
  clear h1 hG hK hT
  obtain ⟨g0, g1, g2, g3, g4, g5, g6, g7⟩ := hR.eight
  go_wp2_with fail
  refine (hzz _).mono ?_
  rintro _ W' ⟨rfl, h1⟩
  have hZ := hZ.below h1 hZ.lt
  have hB := hB.trans (h1.mono hB.size)
  clear g0 g1 g2 g3 g4 g5 g6 g7 h1 hzz
  obtain ⟨d0, d1⟩ := hZ.duo
  have z := hZ.frozen
  go_wp2
  refine bodyPost_ret (ret_two rfl (g := w.heap.size + 2) rfl rfl (load23 (Row.set2 hZ _ _) rfl)) rfl ⟨rfl, ?_⟩
  repeat (refine below_set ?_ _ _ (by omega))
  exact hB
end Go.Proofs.YtfbhonjndepjbaaDoor
