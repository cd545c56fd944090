import Derived.Test.YtfbhonjndepjbaaDoorWsuM
import Derived.Test.YtfbhonjndepjbaaDoorWqt
/- divided: what a way that divides makes of two Decs. -/
namespace Go.Proofs.YtfbhonjndepjbaaDoor
open Go.RowKit

set_option maxRecDepth 100000 in
set_option maxHeartbeats 800000 in
theorem divided_bad1 (f : FuncId) (c e c2 e2 : Int) (he : ¬ within e) (w : World) :
    Calls Tryd.prog 55 #[.func (.func f) #[] #[], dv c e, dv c2 e2] w fun r w' => r = .returned (.tuple #[dv 0 0, .int .i64 1]) ∧ Below w.heap.size w w' := by
  unfold dv
  go_enter Tryd.func55, Tryd.ntmps55
  go_wp2_with fail
  obtain ⟨_, _, _, hK, _⟩ := four_rows w _ _ _ _ _ 23 23 23 23 (Below.refl _ ((((w.alloc (.cells #[.int .i64 c, .int .i64 e] 23)).alloc (.cells #[.int .i64 c2, .int .i64 e2] 23)).alloc (.cells #[.int .i64 0, .int .i64 0] 23)).alloc (.cells #[.int .i64 c, .int .i64 e, .int .i64 c2, .int .i64 e2] 23)))
  refine (taken2_bad1 c e c2 e2 _ _ he hK).mono ?_
  rintro _ w1 ⟨h1, rfl⟩
  obtain ⟨_, _, hZ, _, hB⟩ := four_rows w w1 _ _ _ _ _ _ _ _ h1
  obtain ⟨d0, d1⟩ := hZ.duo
  have z := hZ.frozen
  clear h1
  go_wp2
  refine bodyPost_ret (ret_two rfl (g := w.heap.size + 2) rfl rfl (load23 (Row.set2 hZ _ _) rfl)) rfl ⟨rfl, ?_⟩
  repeat (refine below_set ?_ _ _ (by omega))
  exact hB
set_option maxRecDepth 100000 in
set_option maxHeartbeats 800000 in
theorem divided_bad2 (f : FuncId) (c e c2 e2 : Int) (hc : I64 c) (he : within e) (he2 : ¬ within e2) (w : World) :
    Calls Tryd.prog 55 #[.func (.func f) #[] #[], dv c e, dv c2 e2] w fun r w' => r = .returned (.tuple #[dv 0 0, .int .i64 1]) ∧ Below w.heap.size w w' := by
  unfold dv
  go_enter Tryd.func55, Tryd.ntmps55
  go_wp2_with fail
  obtain ⟨_, _, _, hK, _⟩ := four_rows w _ _ _ _ _ 23 23 23 23 (Below.refl _ ((((w.alloc (.cells #[.int .i64 c, .int .i64 e] 23)).alloc (.cells #[.int .i64 c2, .int .i64 e2] 23)).alloc (.cells #[.int .i64 0, .int .i64 0] 23)).alloc (.cells #[.int .i64 c, .int .i64 e, .int .i64 c2, .int .i64 e2] 23)))
  refine (taken2_bad2 c e c2 e2 _ _ hc he he2 hK).mono ?_
  rintro _ w1 ⟨h1, rfl⟩
  obtain ⟨_, _, hZ, _, hB⟩ := four_rows w w1 _ _ _ _ _ _ _ _ h1
  obtain ⟨d0, d1⟩ := hZ.duo
  have z := hZ.frozen
  clear h1
  go_wp2
  refine bodyPost_ret (ret_two rfl (g := w.heap.size + 2) rfl rfl (load23 (Row.set2 hZ _ _) rfl)) rfl ⟨rfl, ?_⟩
  repeat (refine below_set ?_ _ _ (by omega))
  exact hB
set_option maxRecDepth 100000 in
set_option maxHeartbeats 800000 in
theorem divided_ok47 (c e c2 e2 : Int) (o : Option Wd) (hc : I64 c) (he : within e) (hc2 : I64 c2) (he2 : within e2) (hnz : (decW c2 e2).n ≠ 0)
    (hw : ∀ w, Calls Tryd.prog 56 #[(decW c e).val, (decW c2 e2).val] w fun r w' => WayR o r ∧ Below w.heap.size w w') (w : World) :
    Calls Tryd.prog 55 #[.func (.func 56) #[] #[], dv c e, dv c2 e2] w fun r w' => r = .returned (decV (toldW o)) ∧ Below w.heap.size w w' := by
  have hT := fun K w (hK : Row w K 23 #[.int .i64 c, .int .i64 e, .int .i64 c2, .int .i64 e2]) => taken2 c e c2 e2 K w hc he hc2 he2 hK
  simp only [Wd.val_eq] at *
  obtain ⟨y0, y1, y2, y3, hy⟩ : ∃ y0 y1 y2 y3, (decW c e).cells = #[y0, y1, y2, y3] := ⟨_, _, _, _, rfl⟩
  obtain ⟨z0, z1, z2, z3, hz⟩ : ∃ y0 y1 y2 y3, (decW c2 e2).cells = #[y0, y1, y2, y3] := ⟨_, _, _, _, rfl⟩
  rw [hy, hz] at hw
  simp only [hy, hz] at hT
  clear hc he hc2 he2
  obtain ⟨p, q, v, hdv⟩ := decV_form (toldW o)
  rw [hdv]
  have HDV : Hid (decV (toldW o) = .tuple #[.agg #[.int .i64 p, .int .i64 q], .int .i64 v]) := hdv
  clear hdv
  unfold dv
  go_enter Tryd.func55, Tryd.ntmps55
  go_wp2_with fail
  obtain ⟨_, _, _, hK, _⟩ := four_rows w _ _ _ _ _ 23 23 23 23 (Below.refl _ ((((w.alloc (.cells #[.int .i64 c, .int .i64 e] 23)).alloc (.cells #[.int .i64 c2, .int .i64 e2] 23)).alloc (.cells #[.int .i64 0, .int .i64 0] 23)).alloc (.cells #[.int .i64 c, .int .i64 e, .int .i64 c2, .int .i64 e2] 23)))
  refine (hT _ _ hK).mono ?_
  rintro _ W ⟨h1, G, hG, rfl, hR⟩
  obtain ⟨_, _, hZ, _, hB⟩ := four_rows w W _ _ _ _ _ _ _ _ h1
  have hGn : w.heap.size + 2 ≠ G := by simp at hG; omega
  have hR : Row W G 59 #[y0, y1, y2, y3, z0, z1, z2, z3] := hR
  clear h1 hG hK hT
  have hzz : ∀ w, Calls Tryd.prog 61 #[.agg #[z0, z1, z2, z3]] w fun r w' => r = .returned (.bool false) ∧ Below w.heap.size w w' := by
    have := zero_W (decW c2 e2)
    rw [decide_eq_false hnz, Wd.val_eq, hz] at this
    exact this
  obtain ⟨g0, g1, g2, g3, g4, g5, g6, g7⟩ := hR.eight
  go_wp2_with fail
  refine (hzz _).mono ?_
  rintro _ W' ⟨rfl, h1⟩
  have hZ := hZ.below h1 hZ.lt
  have hR := hR.below h1 hR.lt
  have hB := hB.trans (h1.mono hB.size)
  clear g0 g1 g2 g3 g4 g5 g6 g7 h1 hzz
  go_wp2_with fail
  have hS0 : Below W'.heap.size W' W'.drew := (Below.refl _ W').drew
  refine wp_region_M (fun wx : World => Below W'.heap.size W' wx) (fun j => decide (j < 10)) 15 rfl (by kernel_rfl) ?_
  refine wpM_held 0 (v := ?_) rfl (by kernel_rfl) (by kernel_rfl) rfl (fun _ _ _ h => h) rfl (by intro wx hx; go_simp <;> rfl) hS0 ?_
  refine wpM_held 1 (v := ?_) rfl (by kernel_rfl) (by kernel_rfl) rfl (fun _ _ _ h => h) rfl (by intro wx hx; go_simp <;> rfl) hS0 ?_
  refine wpM_held 2 (v := .pointer (some ⟨G, 0, none⟩)) rfl (by kernel_rfl) (by kernel_rfl) rfl (fun _ _ _ h => h) rfl (by intro wx hx; go_simp <;> rfl) hS0 ?_
  refine wpM_held 3 (v := .agg #[y0, y1, y2, y3]) rfl (by kernel_rfl) (by kernel_rfl) rfl (fun _ _ _ h => h) rfl (by intro wx hx; obtain ⟨g0, g1, g2, g3, g4, g5, g6, g7⟩ := (hR.below hx hR.lt).eight; go_simp <;> rfl) hS0 ?_
  refine wpM_held 4 (v := ?_) rfl (by kernel_rfl) (by kernel_rfl) rfl (fun _ _ _ h => h) rfl (by intro wx hx; go_simp <;> rfl) hS0 ?_
  refine wpM_held 5 (v := .pointer (some ⟨G, 4, none⟩)) rfl (by kernel_rfl) (by kernel_rfl) rfl (fun _ _ _ h => h) rfl (by intro wx hx; go_simp <;> rfl) hS0 ?_
  refine wpM_held 6 (v := .agg #[z0, z1, z2, z3]) rfl (by kernel_rfl) (by kernel_rfl) rfl (fun _ _ _ h => h) rfl (by intro wx hx; obtain ⟨g0, g1, g2, g3, g4, g5, g6, g7⟩ := (hR.below hx hR.lt).eight; go_simp <;> rfl) hS0 ?_
  refine wpM_one 7 rfl (by kernel_rfl) rfl ?_
  go_wp2_with fail
  refine (hw _).mono ?_
  rintro _ w1 ⟨⟨x, t, rfl, x1, x2, x3, x4⟩, h1⟩
  have hS1 := hS0.trans h1
  have hTD := told_any x t x1 x3 x2
  rw [show (if t = true then tellW x.neg x.n x.e else none) = toldW o by rw [x4]; cases t <;> rfl] at hTD
  rw [HDV.out] at hTD
  obtain ⟨d0, d1, d2, d3, hxv⟩ := val_agg x
  rw [hxv] at hTD ⊢
  clear h1 hw x1 x2 x3 x4 hxv
  go_wp2_with fail
  refine ⟨fun _ => hS1, ?_⟩
  refine wpM_held 8 (v := ?_) rfl (by kernel_rfl) (by kernel_rfl) rfl (fun _ _ _ h => h) rfl (by intro wx hx; go_simp <;> rfl) hS1 ?_
  refine wpM_held 9 (v := ?_) rfl (by kernel_rfl) (by kernel_rfl) rfl (fun _ _ _ h => h) rfl (by intro wx hx; go_simp <;> rfl) hS1 ?_
  refine wpM_one 10 rfl (by kernel_rfl) rfl ?_
  go_wp2_with fail
  refine (hTD _).mono ?_
  rintro _ w2 ⟨rfl, h2⟩
  have hS2 := hS1.trans (h2.mono hS1.size)
  have hZ2 := hZ.below hS2 hZ.lt
  have hB2 := hB.trans (hS2.mono hB.size)
  clear h2 hTD
  go_wp2_with fail
  refine ⟨(fun h => by simp at h), ?_⟩
  refine wpM_free 11 (v := ?_) rfl (by kernel_rfl) (by kernel_rfl) rfl (fun _ _ _ h => h) rfl (by intro wx; go_simp <;> rfl) ?_
  refine wpM_free 12 (v := ?_) rfl (by kernel_rfl) (by kernel_rfl) rfl (fun _ _ _ h => h) rfl (by intro wx; go_simp <;> rfl) ?_
  obtain ⟨g0, g1⟩ := hZ2.duo
  have z := hZ2.frozen
  refine wpM_one 13 rfl (by kernel_rfl) rfl ?_
  go_wp2_with fail
  refine ⟨(fun h => by simp at h), ?_⟩
  refine wpM_one 14 rfl (by kernel_rfl) rfl ?_
  go_wp2_with fail
  refine ⟨(fun h => by simp at h), ?_⟩
  refine wpM_done (by kernel_rfl) ?_
  go_wp2
  refine bodyPost_ret (v := .tuple #[.agg #[.int .i64 p, .int .i64 q], .int .i64 v]) (ret_two rfl (g := w.heap.size + 2) rfl rfl (load23 (Row.set2 hZ2 _ _) rfl)) rfl ⟨rfl, ?_⟩
  repeat (refine below_set ?_ _ _ (by omega))
  exact hB2
set_option maxRecDepth 100000 in
set_option maxHeartbeats 800000 in
theorem divided_ok51 (c e c2 e2 : Int) (o : Option Wd) (hc : I64 c) (he : within e) (hc2 : I64 c2) (he2 : within e2) (hnz : (decW c2 e2).n ≠ 0)
    (hw : ∀ w, Calls Tryd.prog 60 #[(decW c e).val, (decW c2 e2).val] w fun r w' => WayR o r ∧ Below w.heap.size w w') (w : World) :
    Calls Tryd.prog 55 #[.func (.func 60) #[] #[], dv c e, dv c2 e2] w fun r w' => r = .returned (decV (toldW o)) ∧ Below w.heap.size w w' := by
  have hT := fun K w (hK : Row w K 23 #[.int .i64 c, .int .i64 e, .int .i64 c2, .int .i64 e2]) => taken2 c e c2 e2 K w hc he hc2 he2 hK
  simp only [Wd.val_eq] at *
  obtain ⟨y0, y1, y2, y3, hy⟩ : ∃ y0 y1 y2 y3, (decW c e).cells = #[y0, y1, y2, y3] := ⟨_, _, _, _, rfl⟩
  obtain ⟨z0, z1, z2, z3, hz⟩ : ∃ y0 y1 y2 y3, (decW c2 e2).cells = #[y0, y1, y2, y3] := ⟨_, _, _, _, rfl⟩
  rw [hy, hz] at hw
  simp only [hy, hz] at hT
  clear hc he hc2 he2
  obtain ⟨p, q, v, hdv⟩ := decV_form (toldW o)
  rw [hdv]
  have HDV : Hid (decV (toldW o) = .tuple #[.agg #[.int .i64 p, .int .i64 q], .int .i64 v]) := hdv
  clear hdv
  unfold dv
  go_enter Tryd.func55, Tryd.ntmps55
  go_wp2_with fail
  obtain ⟨_, _, _, hK, _⟩ := four_rows w _ _ _ _ _ 23 23 23 23 (Below.refl _ ((((w.alloc (.cells #[.int .i64 c, .int .i64 e] 23)).alloc (.cells #[.int .i64 c2, .int .i64 e2] 23)).alloc (.cells #[.int .i64 0, .int .i64 0] 23)).alloc (.cells #[.int .i64 c, .int .i64 e, .int .i64 c2, .int .i64 e2] 23)))
  refine (hT _ _ hK).mono ?_
  rintro _ W ⟨h1, G, hG, rfl, hR⟩
  obtain ⟨_, _, hZ, _, hB⟩ := four_rows w W _ _ _ _ _ _ _ _ h1
  have hGn : w.heap.size + 2 ≠ G := by simp at hG; omega
  have hR : Row W G 59 #[y0, y1, y2, y3, z0, z1, z2, z3] := hR
  clear h1 hG hK hT
  have hzz : ∀ w, Calls Tryd.prog 61 #[.agg #[z0, z1, z2, z3]] w fun r w' => r = .returned (.bool false) ∧ Below w.heap.size w w' := by
    have := zero_W (decW c2 e2)
    rw [decide_eq_false hnz, Wd.val_eq, hz] at this
    exact this
  obtain ⟨g0, g1, g2, g3, g4, g5, g6, g7⟩ := hR.eight
  go_wp2_with fail
  refine (hzz _).mono ?_
  rintro _ W' ⟨rfl, h1⟩
  have hZ := hZ.below h1 hZ.lt
  have hR := hR.below h1 hR.lt
  have hB := hB.trans (h1.mono hB.size)
  clear g0 g1 g2 g3 g4 g5 g6 g7 h1 hzz
  go_wp2_with fail
  have hS0 : Below W'.heap.size W' W'.drew := (Below.refl _ W').drew
  refine wp_region_M (fun wx : World => Below W'.heap.size W' wx) (fun j => decide (j < 10)) 15 rfl (by kernel_rfl) ?_
  refine wpM_held 0 (v := ?_) rfl (by kernel_rfl) (by kernel_rfl) rfl (fun _ _ _ h => h) rfl (by intro wx hx; go_simp <;> rfl) hS0 ?_
  refine wpM_held 1 (v := ?_) rfl (by kernel_rfl) (by kernel_rfl) rfl (fun _ _ _ h => h) rfl (by intro wx hx; go_simp <;> rfl) hS0 ?_
  refine wpM_held 2 (v := .pointer (some ⟨G, 0, none⟩)) rfl (by kernel_rfl) (by kernel_rfl) rfl (fun _ _ _ h => h) rfl (by intro wx hx; go_simp <;> rfl) hS0 ?_
  refine wpM_held 3 (v := .agg #[y0, y1, y2, y3]) rfl (by kernel_rfl) (by kernel_rfl) rfl (fun _ _ _ h => h) rfl (by intro wx hx; obtain ⟨g0, g1, g2, g3, g4, g5, g6, g7⟩ := (hR.below hx hR.lt).eight; go_simp <;> rfl) hS0 ?_
  refine wpM_held 4 (v := ?_) rfl (by kernel_rfl) (by kernel_rfl) rfl (fun _ _ _ h => h) rfl (by intro wx hx; go_simp <;> rfl) hS0 ?_
  refine wpM_held 5 (v := .pointer (some ⟨G, 4, none⟩)) rfl (by kernel_rfl) (by kernel_rfl) rfl (fun _ _ _ h => h) rfl (by intro wx hx; go_simp <;> rfl) hS0 ?_
  refine wpM_held 6 (v := .agg #[z0, z1, z2, z3]) rfl (by kernel_rfl) (by kernel_rfl) rfl (fun _ _ _ h => h) rfl (by intro wx hx; obtain ⟨g0, g1, g2, g3, g4, g5, g6, g7⟩ := (hR.below hx hR.lt).eight; go_simp <;> rfl) hS0 ?_
  refine wpM_one 7 rfl (by kernel_rfl) rfl ?_
  go_wp2_with fail
  refine (hw _).mono ?_
  rintro _ w1 ⟨⟨x, t, rfl, x1, x2, x3, x4⟩, h1⟩
  have hS1 := hS0.trans h1
  have hTD := told_any x t x1 x3 x2
  rw [show (if t = true then tellW x.neg x.n x.e else none) = toldW o by rw [x4]; cases t <;> rfl] at hTD
  rw [HDV.out] at hTD
  obtain ⟨d0, d1, d2, d3, hxv⟩ := val_agg x
  rw [hxv] at hTD ⊢
  clear h1 hw x1 x2 x3 x4 hxv
  go_wp2_with fail
  refine ⟨fun _ => hS1, ?_⟩
  refine wpM_held 8 (v := ?_) rfl (by kernel_rfl) (by kernel_rfl) rfl (fun _ _ _ h => h) rfl (by intro wx hx; go_simp <;> rfl) hS1 ?_
  refine wpM_held 9 (v := ?_) rfl (by kernel_rfl) (by kernel_rfl) rfl (fun _ _ _ h => h) rfl (by intro wx hx; go_simp <;> rfl) hS1 ?_
  refine wpM_one 10 rfl (by kernel_rfl) rfl ?_
  go_wp2_with fail
  refine (hTD _).mono ?_
  rintro _ w2 ⟨rfl, h2⟩
  have hS2 := hS1.trans (h2.mono hS1.size)
  have hZ2 := hZ.below hS2 hZ.lt
  have hB2 := hB.trans (hS2.mono hB.size)
  clear h2 hTD
  go_wp2_with fail
  refine ⟨(fun h => by simp at h), ?_⟩
  refine wpM_free 11 (v := ?_) rfl (by kernel_rfl) (by kernel_rfl) rfl (fun _ _ _ h => h) rfl (by intro wx; go_simp <;> rfl) ?_
  refine wpM_free 12 (v := ?_) rfl (by kernel_rfl) (by kernel_rfl) rfl (fun _ _ _ h => h) rfl (by intro wx; go_simp <;> rfl) ?_
  obtain ⟨g0, g1⟩ := hZ2.duo
  have z := hZ2.frozen
  refine wpM_one 13 rfl (by kernel_rfl) rfl ?_
  go_wp2_with fail
  refine ⟨(fun h => by simp at h), ?_⟩
  refine wpM_one 14 rfl (by kernel_rfl) rfl ?_
  go_wp2_with fail
  refine ⟨(fun h => by simp at h), ?_⟩
  refine wpM_done (by kernel_rfl) ?_
  go_wp2
  refine bodyPost_ret (v := .tuple #[.agg #[.int .i64 p, .int .i64 q], .int .i64 v]) (ret_two rfl (g := w.heap.size + 2) rfl rfl (load23 (Row.set2 hZ2 _ _) rfl)) rfl ⟨rfl, ?_⟩
  repeat (refine below_set ?_ _ _ (by omega))
  exact hB2
set_option maxRecDepth 100000 in
set_option maxHeartbeats 800000 in
theorem divided_zero (f : FuncId) (c e c2 e2 : Int) (hc : I64 c) (he : within e) (hc2 : I64 c2) (he2 : within e2) (hnz : (decW c2 e2).n = 0) (w : World) :
    Calls Tryd.prog 55 #[.func (.func f) #[] #[], dv c e, dv c2 e2] w fun r w' => r = .returned (.tuple #[dv 0 0, .int .i64 31]) ∧ Below w.heap.size w w' := by
  have hT := fun K w (hK : Row w K 23 #[.int .i64 c, .int .i64 e, .int .i64 c2, .int .i64 e2]) => taken2 c e c2 e2 K w hc he hc2 he2 hK
  obtain ⟨y0, y1, y2, y3, hy⟩ : ∃ y0 y1 y2 y3, (decW c e).cells = #[y0, y1, y2, y3] := ⟨_, _, _, _, rfl⟩
  obtain ⟨z0, z1, z2, z3, hz⟩ : ∃ y0 y1 y2 y3, (decW c2 e2).cells = #[y0, y1, y2, y3] := ⟨_, _, _, _, rfl⟩
  simp only [hy, hz] at hT
  have hzz : ∀ w, Calls Tryd.prog 61 #[.agg #[z0, z1, z2, z3]] w fun r w' => r = .returned (.bool true) ∧ Below w.heap.size w w' := by
    have := zero_W (decW c2 e2)
    rw [decide_eq_true hnz, Wd.val_eq, hz] at this
    exact this
  clear hc he hc2 he2 hnz
  unfold dv
  go_enter Tryd.func55, Tryd.ntmps55
  go_wp2_with fail
  obtain ⟨_, _, _, hK, _⟩ := four_rows w _ _ _ _ _ 23 23 23 23 (Below.refl _ ((((w.alloc (.cells #[.int .i64 c, .int .i64 e] 23)).alloc (.cells #[.int .i64 c2, .int .i64 e2] 23)).alloc (.cells #[.int .i64 0, .int .i64 0] 23)).alloc (.cells #[.int .i64 c, .int .i64 e, .int .i64 c2, .int .i64 e2] 23)))
  refine (hT _ _ hK).mono ?_
  rintro _ W ⟨h1, G, hG, rfl, hR⟩
  obtain ⟨_, _, hZ, _, hB⟩ := four_rows w W _ _ _ _ _ _ _ _ h1
  have hR : Row W G 59 #[y0, y1, y2, y3, z0, z1, z2, z3] := hR
  clear h1 hG hK hT
  obtain ⟨g0, g1, g2, g3, g4, g5, g6, g7⟩ := hR.eight
  go_wp2_with fail
  refine (hzz _).mono ?_
  rintro _ W' ⟨rfl, h1⟩
  have hZ := hZ.below h1 hZ.lt
  have hB := hB.trans (h1.mono hB.size)
  clear g0 g1 g2 g3 g4 g5 g6 g7 h1 hzz
  obtain ⟨d0, d1⟩ := hZ.duo
  have z := hZ.frozen
  go_wp2
  refine bodyPost_ret (ret_two rfl (g := w.heap.size + 2) rfl rfl (load23 (Row.set2 hZ _ _) rfl)) rfl ⟨rfl, ?_⟩
  repeat (refine below_set ?_ _ _ (by omega))
  exact hB
end Go.Proofs.YtfbhonjndepjbaaDoor
/- Add, Sub, Mul, Div, Mod: what they hand on. -/
namespace Go.Proofs.YtfbhonjndepjbaaDoor
open Go.RowKit

set_option maxRecDepth 100000 in
set_option maxHeartbeats 400000 in
theorem op_9 (c e c2 e2 p q v : Int) (h : ∀ w, Calls Tryd.prog 42 #[.func (.func 43) #[] #[], dv c e, dv c2 e2] w fun r w' => r = .returned (.tuple #[.agg #[.int .i64 p, .int .i64 q], .int .i64 v]) ∧ Below w.heap.size w w') (w : World) :
    Calls Tryd.prog 9 #[dv c e, dv c2 e2] w fun r w' => r = .returned (.tuple #[.agg #[.int .i64 p, .int .i64 q], .int .i64 v]) ∧ Below w.heap.size w w' := by
  unfold dv at *
  go_enter Tryd.func9, Tryd.ntmps9
  go_wp2_with fail
  refine (h _).mono ?_
  rintro _ w1 ⟨rfl, h1⟩
  obtain ⟨_, _, hZ, hB⟩ := three_rows w w1 _ _ _ _ _ _ h1
  obtain ⟨d0, d1⟩ := hZ.duo
  have z := hZ.frozen
  clear h1 h
  go_wp2
  refine bodyPost_ret (ret_two rfl (g := w.heap.size + 2) rfl rfl (load23 (Row.set2 hZ _ _) rfl)) rfl ⟨rfl, ?_⟩
  repeat (refine below_set ?_ _ _ (by omega))
  exact hB
set_option maxRecDepth 100000 in
set_option maxHeartbeats 400000 in
theorem op_18 (c e c2 e2 p q v : Int) (h : ∀ w, Calls Tryd.prog 55 #[.func (.func 56) #[] #[], dv c e, dv c2 e2] w fun r w' => r = .returned (.tuple #[.agg #[.int .i64 p, .int .i64 q], .int .i64 v]) ∧ Below w.heap.size w w') (w : World) :
    Calls Tryd.prog 18 #[dv c e, dv c2 e2] w fun r w' => r = .returned (.tuple #[.agg #[.int .i64 p, .int .i64 q], .int .i64 v]) ∧ Below w.heap.size w w' := by
  unfold dv at *
  go_enter Tryd.func18, Tryd.ntmps18
  go_wp2_with fail
  refine (h _).mono ?_
  rintro _ w1 ⟨rfl, h1⟩
  obtain ⟨_, _, hZ, hB⟩ := three_rows w w1 _ _ _ _ _ _ h1
  obtain ⟨d0, d1⟩ := hZ.duo
  have z := hZ.frozen
  clear h1 h
  go_wp2
  refine bodyPost_ret (ret_two rfl (g := w.heap.size + 2) rfl rfl (load23 (Row.set2 hZ _ _) rfl)) rfl ⟨rfl, ?_⟩
  repeat (refine below_set ?_ _ _ (by omega))
  exact hB
set_option maxRecDepth 100000 in
set_option maxHeartbeats 400000 in
theorem op_20 (c e c2 e2 p q v : Int) (h : ∀ w, Calls Tryd.prog 55 #[.func (.func 60) #[] #[], dv c e, dv c2 e2] w fun r w' => r = .returned (.tuple #[.agg #[.int .i64 p, .int .i64 q], .int .i64 v]) ∧ Below w.heap.size w w') (w : World) :
    Calls Tryd.prog 20 #[dv c e, dv c2 e2] w fun r w' => r = .returned (.tuple #[.agg #[.int .i64 p, .int .i64 q], .int .i64 v]) ∧ Below w.heap.size w w' := by
  unfold dv at *
  go_enter Tryd.func20, Tryd.ntmps20
  go_wp2_with fail
  refine (h _).mono ?_
  rintro _ w1 ⟨rfl, h1⟩
  obtain ⟨_, _, hZ, hB⟩ := three_rows w w1 _ _ _ _ _ _ h1
  obtain ⟨d0, d1⟩ := hZ.duo
  have z := hZ.frozen
  clear h1 h
  go_wp2
  refine bodyPost_ret (ret_two rfl (g := w.heap.size + 2) rfl rfl (load23 (Row.set2 hZ _ _) rfl)) rfl ⟨rfl, ?_⟩
  repeat (refine below_set ?_ _ _ (by omega))
  exact hB

theorem quotient_any (a b : Wd) (ha : a.n < 18446744073709551616) (hb : b.n < 18446744073709551616) (hb0 : b.n ≠ 0) (ea : -1000 ≤ a.e ∧ a.e ≤ 1000) (eb : -1000 ≤ b.e ∧ b.e ≤ 1000) (w : World) :
    Calls Tryd.prog 56 #[a.val, b.val] w fun r w' => WayR (quotW a b) r ∧ Below w.heap.size w w' := by
  have hd := divisor_any a.n b.n ha hb
  have hg : Nat.gcd a.n b.n ≠ 0 := fun h => hb0 (Nat.gcd_eq_zero_iff.1 h).2
  have h1 : Nat.gcd a.n b.n ≤ b.n := Nat.gcd_le_right _ (by omega)
  have h2 : 1 ≤ b.n / Nat.gcd a.n b.n := (Nat.le_div_iff_mul_le (by omega)).2 (by omega)
  have h3 : b.n / Nat.gcd a.n b.n ≤ b.n := Nat.div_le_self _ _
  have h4 : a.n / Nat.gcd a.n b.n ≤ a.n := Nat.div_le_self _ _
  unfold Wd.val
  rw [show a.n % 18446744073709551616 = a.n by omega, show b.n % 18446744073709551616 = b.n by omega]
  exact quot_raw a.neg b.neg _ a.n _ b.n (Nat.gcd a.n b.n) (b.n / Nat.gcd a.n b.n) (a.n / Nat.gcd a.n b.n) a.e b.e (a.e - b.e) hd hg
    (by rw [u64_wrap, ← Int.natCast_ediv]; exact Int.emod_eq_of_lt (Int.natCast_nonneg _) (by omega)) (by rw [u64_wrap, ← Int.natCast_ediv]; exact Int.emod_eq_of_lt (Int.natCast_nonneg _) (by omega)) (by simp [IntKind.wrap, IntKind.bits, IntKind.signed]; omega) h2 (by omega) (by omega) (by omega) w
/-- What the calls on two Decs answer. -/
def argV : Value := .tuple #[dv 0 0, .int .i64 1]
theorem dec_bounds {c e : Int} (hc : I64 c) (he : within e) : (decW c e).n < 18446744073709551616 ∧ (decW c e).n < M128 ∧ (-1000 ≤ (decW c e).e ∧ (decW c e).e ≤ 1000) ∧ EOk (decW c e) := by
  have h := sh_dec c e he.1 he.2 hc.1 hc.2
  have h1 := h.big
  have h2 := h.lo
  have h3 := h.hi
  refine ⟨by omega, by unfold M128; omega, ⟨by omega, by omega⟩, ⟨by omega, by omega⟩⟩
def twoV (e e2 : Int) (o : Option Wd) : Value := if (-18 ≤ e ∧ e ≤ 18) ∧ (-18 ≤ e2 ∧ e2 ≤ 18) then decV (toldW o) else argV
theorem two_form (e e2 : Int) (o : Option Wd) : ∃ p q v, twoV e e2 o = .tuple #[.agg #[.int .i64 p, .int .i64 q], .int .i64 v] := by
  unfold twoV
  split
  · exact decV_form _
  · exact ⟨0, 0, 1, rfl⟩
theorem add_any (c e c2 e2 : Int) (hc : I64 c) (hc2 : I64 c2) (w : World) :
    Calls Tryd.prog 9 #[dv c e, dv c2 e2] w fun r w' => r = .returned (twoV e e2 (sumW (decW c e) (decW c2 e2))) ∧ Below w.heap.size w w' := by
  obtain ⟨p, q, v, hv⟩ := two_form e e2 (sumW (decW c e) (decW c2 e2))
  rw [hv]
  refine op_9 c e c2 e2 p q v (fun w => ?_) w
  rw [← hv]
  unfold twoV
  by_cases he : within e
  · by_cases he2 : within e2
    · rw [if_pos ⟨he, he2⟩]
      obtain ⟨a1, a2, a3, a4⟩ := dec_bounds hc he
      obtain ⟨b1, b2, b3, b4⟩ := dec_bounds hc2 he2
      exact reckoned_ok34 c e c2 e2 _ hc he hc2 he2 (fun w => sum_any _ _ a2 b2 a4 b4 w) w
    · rw [if_neg (fun h => he2 h.2)]
      exact reckoned_bad2 43 c e c2 e2 hc he he2 w
  · rw [if_neg (fun h => he h.1)]
    exact reckoned_bad1 43 c e c2 e2 he w
theorem dec_zero (c e : Int) : (decW c e).n = 0 ↔ c = 0 := by
  unfold decW shortW numW
  by_cases h : c = 0
  · subst h; simp
  · rw [if_neg (by simp; omega)]
    obtain ⟨k, a1, a2, a3, a4, a5⟩ := strip_spec c.natAbs e (by omega)
    exact ⟨fun h0 => absurd h0 a5, fun h0 => absurd h0 h⟩
def divV : Value := .tuple #[dv 0 0, .int .i64 31]
theorem div_any (c e c2 e2 : Int) (hc : I64 c) (hc2 : I64 c2) (h0 : c2 ≠ 0) (w : World) :
    Calls Tryd.prog 18 #[dv c e, dv c2 e2] w fun r w' => r = .returned (twoV e e2 (quotW (decW c e) (decW c2 e2))) ∧ Below w.heap.size w w' := by
  obtain ⟨p, q, v, hv⟩ := two_form e e2 (quotW (decW c e) (decW c2 e2))
  rw [hv]
  refine op_18 c e c2 e2 p q v (fun w => ?_) w
  rw [← hv]
  unfold twoV
  by_cases he : within e
  · by_cases he2 : within e2
    · rw [if_pos ⟨he, he2⟩]
      obtain ⟨a1, a2, a3, a4⟩ := dec_bounds hc he
      obtain ⟨b1, b2, b3, b4⟩ := dec_bounds hc2 he2
      have hz : (decW c2 e2).n ≠ 0 := fun h => h0 ((dec_zero c2 e2).1 h)
      exact divided_ok47 c e c2 e2 _ hc he hc2 he2 hz (fun w => quotient_any _ _ a1 b1 hz a3 b3 w) w
    · rw [if_neg (fun h => he2 h.2)]
      exact divided_bad2 56 c e c2 e2 hc he he2 w
  · rw [if_neg (fun h => he h.1)]
    exact divided_bad1 56 c e c2 e2 he w
theorem div_zero (c e e2 : Int) (hc : I64 c) (he : within e) (he2 : within e2) (w : World) :
    Calls Tryd.prog 18 #[dv c e, dv 0 e2] w fun r w' => r = .returned divV ∧ Below w.heap.size w w' :=
  op_18 c e 0 e2 0 0 31 (fun w => divided_zero 56 c e 0 e2 hc he ⟨by omega, by omega⟩ he2 ((dec_zero 0 e2).2 rfl) w) w
end Go.Proofs.YtfbhonjndepjbaaDoor
/- Quotients that are there are found. -/
namespace Go.Proofs.YtfbhonjndepjbaaDoor

theorem quot_found (Z : Nat) (E : Int) (hZ : Z ≤ 9223372036854775808) : ∀ (b n : Nat) (e : Int) (s t : Nat), 1 ≤ b → b < 18446744073709551616 → Nat.Coprime n b → n * 10 ^ s = Z * b * 10 ^ t → e - s = E - t →
    ∃ m f, quotL b n e = some (m, f) ∧ ∃ s' t' : Nat, m * 10 ^ s' = Z * 10 ^ t' ∧ f - s' = E - t' := by
  intro b
  induction b using Nat.strongRecOn with
  | ind b ih =>
    intro n e s t hb1 hb2 hc hv he
    by_cases h1 : b ≤ 1
    · obtain rfl : b = 1 := by omega
      refine ⟨n, e, by rw [quotL.eq_def, if_pos h1], s, t, by rw [hv, Nat.mul_one], he⟩
    · -- n is small, and b divides a power of ten
      have hst : t < s := by
        apply Nat.lt_of_not_le
        intro hle
        have hp := ten_pos s
        have h2 : n = Z * b * 10 ^ (t - s) := by
          apply Nat.eq_of_mul_eq_mul_right hp
          rw [hv, Nat.mul_assoc (Z * b), ← Nat.pow_add]
          congr 2; omega
        have h3 : b ∣ n := ⟨Z * 10 ^ (t - s), by rw [h2, Nat.mul_comm Z b, Nat.mul_assoc]⟩
        have h4 : Nat.gcd n b = b := Nat.gcd_eq_right h3
        have h5 : Nat.gcd n b = 1 := hc
        omega
      have hv2 : n * 10 ^ (s - t) = Z * b := by
        have hp := ten_pos t
        apply Nat.eq_of_mul_eq_mul_right hp
        rw [← hv, Nat.mul_assoc, ← Nat.pow_add]
        congr 2; omega
      have hn : n * 10 ≤ Z * b := by
        rw [← hv2]
        apply Nat.mul_le_mul_left
        have := Nat.pow_le_pow_right (n := 10) (i := 1) (j := s - t) (by omega) (by omega)
        simpa using this
      have hZb : Z * b ≤ 9223372036854775808 * 18446744073709551616 := Nat.mul_le_mul hZ (by omega)
      have hbd : b ∣ 10 ^ (s - t) := by
        have : b ∣ n * 10 ^ (s - t) := ⟨Z, by rw [hv2, Nat.mul_comm]⟩
        exact Nat.Coprime.dvd_of_dvd_mul_left (Nat.Coprime.symm hc) this
      by_cases h10 : b % 10 = 0
      · obtain ⟨b1, rfl⟩ : ∃ b1, b = 10 * b1 := ⟨b / 10, by omega⟩
        have hc1 : Nat.Coprime n b1 := Nat.Coprime.coprime_dvd_right ⟨10, by rw [Nat.mul_comm]⟩ hc
        obtain ⟨m, f, q1, s', t', q2, q3⟩ := ih b1 (by omega) n (e - 1) s (t + 1) (by omega) (by omega) hc1 (by rw [hv, Nat.pow_succ]; simp [Nat.mul_comm, Nat.mul_assoc]) (by omega)
        refine ⟨m, f, ?_, s', t', q2, q3⟩
        rw [quotL.eq_def, if_neg h1, if_pos h10, show 10 * b1 / 10 = b1 by omega, q1]
      · by_cases h2 : b % 2 = 0
        · obtain ⟨b1, rfl⟩ : ∃ b1, b = 2 * b1 := ⟨b / 2, by omega⟩
          have hc1 : Nat.Coprime n b1 := Nat.Coprime.coprime_dvd_right ⟨2, by rw [Nat.mul_comm]⟩ hc
          have h5 : Nat.Coprime 5 b1 := by
            have : Nat.gcd 5 b1 ∣ 5 := Nat.gcd_dvd_left _ _
            have hle : Nat.gcd 5 b1 ≤ 5 := Nat.le_of_dvd (by omega) this
            have hd : Nat.gcd 5 b1 ∣ b1 := Nat.gcd_dvd_right _ _
            generalize hgg : Nat.gcd 5 b1 = g at *
            have : g = 0 ∨ g = 1 ∨ g = 2 ∨ g = 3 ∨ g = 4 ∨ g = 5 := by omega
            rcases this with rfl | rfl | rfl | rfl | rfl | rfl
            · omega
            · exact hgg
            · omega
            · omega
            · omega
            · obtain ⟨k, hk⟩ := hd; omega
          have hfit : n * 5 < M128 := by unfold M128; omega
          obtain ⟨m, f, q1, s', t', q2, q3⟩ := ih b1 (by omega) (n * 5) (e - 1) s (t + 1) (by omega) (by omega) (Nat.Coprime.mul_left hc1 h5) (by
            rw [Nat.pow_succ, show n * 5 * 10 ^ s = n * 10 ^ s * 5 by rw [Nat.mul_assoc, Nat.mul_comm 5, ← Nat.mul_assoc], hv]
            rw [show Z * (2 * b1) * 10 ^ t * 5 = Z * b1 * (10 ^ t * 10) by
              rw [Nat.mul_assoc, Nat.mul_assoc, Nat.mul_assoc, Nat.mul_assoc, Nat.mul_left_comm 2, Nat.mul_left_comm 2]]) (by omega)
          refine ⟨m, f, ?_, s', t', q2, q3⟩
          rw [quotL.eq_def, if_neg h1, if_neg h10, if_pos h2, if_pos hfit, show 2 * b1 / 2 = b1 by omega, q1]
        · by_cases h5 : b % 5 = 0
          · obtain ⟨b1, rfl⟩ : ∃ b1, b = 5 * b1 := ⟨b / 5, by omega⟩
            have hc1 : Nat.Coprime n b1 := Nat.Coprime.coprime_dvd_right ⟨5, by rw [Nat.mul_comm]⟩ hc
            have h22 : Nat.Coprime 2 b1 := by
              have hle : Nat.gcd 2 b1 ≤ 2 := Nat.le_of_dvd (by omega) (Nat.gcd_dvd_left _ _)
              have hd : Nat.gcd 2 b1 ∣ b1 := Nat.gcd_dvd_right _ _
              have hp : 0 < Nat.gcd 2 b1 := Nat.gcd_pos_of_pos_left _ (by omega)
              generalize hgg : Nat.gcd 2 b1 = g at *
              have : g = 1 ∨ g = 2 := by omega
              rcases this with rfl | rfl
              · exact hgg
              · obtain ⟨k, hk⟩ := hd; omega
            have hfit : n * 2 < M128 := by unfold M128; omega
            obtain ⟨m, f, q1, s', t', q2, q3⟩ := ih b1 (by omega) (n * 2) (e - 1) s (t + 1) (by omega) (by omega) (Nat.Coprime.mul_left hc1 h22) (by
              rw [Nat.pow_succ, show n * 2 * 10 ^ s = n * 10 ^ s * 2 by rw [Nat.mul_assoc, Nat.mul_comm 2, ← Nat.mul_assoc], hv]
              rw [show Z * (5 * b1) * 10 ^ t * 2 = Z * b1 * (10 ^ t * 10) by
                rw [Nat.mul_assoc, Nat.mul_assoc, Nat.mul_assoc, Nat.mul_assoc, Nat.mul_left_comm 5, Nat.mul_left_comm 5]]) (by omega)
            refine ⟨m, f, ?_, s', t', q2, q3⟩
            rw [quotL.eq_def, if_neg h1, if_neg h10, if_neg h2, if_pos h5, if_pos hfit, show 5 * b1 / 5 = b1 by omega, q1]
          · exfalso
            have hc10 : Nat.Coprime b 10 := by
              have hd : Nat.gcd b 10 ∣ 10 := Nat.gcd_dvd_right _ _
              have hdb : Nat.gcd b 10 ∣ b := Nat.gcd_dvd_left _ _
              have hle : Nat.gcd b 10 ≤ 10 := Nat.le_of_dvd (by omega) hd
              generalize hgg : Nat.gcd b 10 = g at *
              obtain ⟨k, hk⟩ := hdb
              have : g = 0 ∨ g = 1 ∨ g = 2 ∨ g = 3 ∨ g = 4 ∨ g = 5 ∨ g = 6 ∨ g = 7 ∨ g = 8 ∨ g = 9 ∨ g = 10 := by omega
              rcases this with rfl | rfl | rfl | rfl | rfl | rfl | rfl | rfl | rfl | rfl | rfl
              · omega
              · exact hgg
              all_goals omega
            have hcp : Nat.Coprime b (10 ^ (s - t)) := Nat.Coprime.pow_right _ hc10
            have hg : Nat.gcd b (10 ^ (s - t)) = b := Nat.gcd_eq_left hbd
            have hg1 : Nat.gcd b (10 ^ (s - t)) = 1 := hcp
            omega
theorem natAbs_sc_mul (x y z : Wd) (u v : Nat) (h : sc x * 10 ^ u = sc z * sc y * 10 ^ v) : x.n * 10 ^ u = z.n * y.n * 10 ^ v := by
  have := congrArg Int.natAbs h
  rw [Int.natAbs_mul, Int.natAbs_mul, Int.natAbs_mul, Int.natAbs_pow, Int.natAbs_pow, sc_abs, sc_abs, sc_abs] at this
  exact this
/-- A product that is parted is told as the other factor. -/
theorem told_quot (x y z : Wd) (hy : y.n < 18446744073709551616) (hy0 : y.n ≠ 0) (hz : z.n ≤ 9223372036854775808) (u v : Nat) (h : sc x * 10 ^ u = sc z * sc y * 10 ^ v) (he : x.e - u = z.e + y.e - v) :
    toldW (quotW x y) = tell (sc z) z.e := by
  have hn := natAbs_sc_mul x y z u v h
  have hg0 : 0 < Nat.gcd x.n y.n := Nat.gcd_pos_of_pos_right _ (by omega)
  obtain ⟨X, hX⟩ := Nat.gcd_dvd_left x.n y.n
  obtain ⟨Y, hY⟩ := Nat.gcd_dvd_right x.n y.n
  have hXd : x.n / Nat.gcd x.n y.n = X := by
    apply Nat.div_eq_of_eq_mul_right hg0 hX
  have hYd : y.n / Nat.gcd x.n y.n = Y := by
    apply Nat.div_eq_of_eq_mul_right hg0 hY
  have hcop : Nat.Coprime X Y := by
    have := Nat.coprime_div_gcd_div_gcd (m := x.n) (n := y.n) hg0
    rw [hXd, hYd] at this
    exact this
  have hY1 : 1 ≤ Y := by
    rcases Nat.eq_zero_or_pos Y with h0 | h0
    · rw [h0, Nat.mul_zero] at hY; omega
    · exact h0
  have hYle : Y ≤ y.n := by rw [← hYd]; exact Nat.div_le_self _ _
  have hv : X * 10 ^ u = z.n * Y * 10 ^ v := by
    apply Nat.eq_of_mul_eq_mul_left hg0
    have e1 : Nat.gcd x.n y.n * (z.n * Y * 10 ^ v) = z.n * (Nat.gcd x.n y.n * Y) * 10 ^ v := by
      generalize Nat.gcd x.n y.n = g
      simp [Nat.mul_comm, Nat.mul_left_comm, Nat.mul_assoc]
    rw [e1, ← hY, ← Nat.mul_assoc, ← hX, hn]
  obtain ⟨m, f, q1, s', t', q2, q3⟩ := quot_found z.n z.e hz Y X (x.e - y.e) u v hY1 (by omega) hcop hv (by omega)
  unfold quotW
  rw [hXd, hYd, q1]
  show tellW (x.neg != y.neg) m f = _
  rw [← tell_sc ⟨x.neg != y.neg, m, f⟩]
  refine tell_same (m := min f z.e) (Int.min_le_right _ _) (Int.min_le_left _ _) ?_
  have key : sc ⟨x.neg != y.neg, m, f⟩ * 10 ^ s' = sc z * 10 ^ t' := by
    by_cases hz0 : z.n = 0
    · have hm0 : m = 0 := by
        rw [hz0, Nat.zero_mul] at q2
        rcases Nat.mul_eq_zero.1 q2 with h0 | h0
        · exact h0
        · have := ten_pos s'; omega
      rw [(sc_neg0 ⟨x.neg != y.neg, m, f⟩).2 hm0, (sc_neg0 z).2 hz0]; simp
    · have hsgn : (x.neg != y.neg) = z.neg := by
        have hxn : x.n ≠ 0 := by
          intro h0
          rw [h0, Nat.zero_mul] at hn
          have hh := hn.symm
          rcases Nat.mul_eq_zero.1 hh with h1 | h1
          · rcases Nat.mul_eq_zero.1 h1 with h2 | h2
            · exact hz0 h2
            · exact hy0 h2
          · have := ten_pos v; omega
        have hp1 := pow_pos' u
        have hp2 := pow_pos' v
        have hsg := congrArg Int.sign h
        rw [Int.sign_mul, Int.sign_mul, Int.sign_mul, Int.sign_eq_one_of_pos hp1, Int.sign_eq_one_of_pos hp2, Int.mul_one, Int.mul_one] at hsg
        have e1 : ∀ w : Wd, w.n ≠ 0 → (sc w).sign = if w.neg then -1 else 1 := by
          intro w hw
          unfold sc
          cases w.neg
          · simp only [Bool.false_eq_true, if_false]; exact Int.sign_eq_one_of_pos (by omega)
          · simp only [if_true]; exact Int.sign_eq_neg_one_of_neg (by omega)
        rw [e1 x hxn, e1 y hy0, e1 z hz0] at hsg
        cases hx : x.neg <;> cases hyy : y.neg <;> cases hzz : z.neg <;> rw [hx, hyy, hzz] at hsg <;> first | rfl | (exfalso; revert hsg; decide)
      rw [hsgn]
      have q2' : ((m * 10 ^ s' : Nat) : Int) = ((z.n * 10 ^ t' : Nat) : Int) := by rw [q2]
      rw [Int.natCast_mul, Int.natCast_mul, Int.natCast_pow, Int.natCast_pow] at q2'
      unfold sc
      simp only
      cases z.neg
      · simpa using q2'
      · simp only [if_true, Int.neg_mul]
        have : (m : Int) * 10 ^ s' = (z.n : Int) * 10 ^ t' := by simpa using q2'
        rw [this]
  -- both in the same units
  unfold V
  have hp := pow_ne (s' + t')
  generalize hd : min f z.e = d
  have hdf : d ≤ f := by omega
  have hdz : d ≤ z.e := by omega
  have a1 : sc ⟨x.neg != y.neg, m, f⟩ * 10 ^ (f - d).toNat * 10 ^ (s' + t') = sc ⟨x.neg != y.neg, m, f⟩ * 10 ^ s' * 10 ^ ((f - d).toNat + t') := by
    rw [Int.mul_assoc, Int.mul_assoc, ← Int.pow_add, ← Int.pow_add]; congr 2; omega
  have a2 : sc z * 10 ^ (z.e - d).toNat * 10 ^ (s' + t') = sc z * 10 ^ t' * 10 ^ ((z.e - d).toNat + s') := by
    rw [Int.mul_assoc, Int.mul_assoc, ← Int.pow_add, ← Int.pow_add]; congr 2; omega
  apply Int.eq_of_mul_eq_mul_right hp
  rw [a1, a2, key]
  congr 2
  omega
end Go.Proofs.YtfbhonjndepjbaaDoor
/- Pure: what the document's quotient is told as: the program's. -/
namespace Go.Proofs.YtfbhonjndepjbaaDoor

theorem quot_val : ∀ (k b n : Nat) (e : Int) (m : Nat) (f : Int), 1 ≤ b → b < 2 ^ k → quotL b n e = some (m, f) → ∃ t : Nat, f = e - t ∧ t ≤ k ∧ n * 10 ^ t = m * b
  | 0, b, n, e, m, f, h1, hk, _ => by simp at hk; omega
  | k + 1, b, n, e, m, f, h1, hk, h => by
    rw [quotL.eq_def] at h
    by_cases hb : b ≤ 1
    · rw [if_pos hb] at h
      obtain rfl : b = 1 := by omega
      cases h
      exact ⟨0, by simp, by omega, by simp⟩
    · rw [if_neg hb] at h
      rw [Nat.pow_succ] at hk
      by_cases h10 : b % 10 = 0
      · rw [if_pos h10] at h
        obtain ⟨t, a1, a2, a3⟩ := quot_val k (b / 10) n (e - 1) m f (by omega) (by omega) h
        refine ⟨t + 1, by rw [a1]; omega, by omega, ?_⟩
        rw [Nat.pow_succ, ← Nat.mul_assoc, a3, Nat.mul_assoc]; congr 1; omega
      · rw [if_neg h10] at h
        by_cases h2 : b % 2 = 0
        · rw [if_pos h2] at h
          split at h
          · obtain ⟨t, a1, a2, a3⟩ := quot_val k (b / 2) (n * 5) (e - 1) m f (by omega) (by omega) h
            refine ⟨t + 1, by rw [a1]; omega, by omega, ?_⟩
            have e1 : m * b = m * (b / 2) * 2 := by rw [Nat.mul_assoc]; congr 1; omega
            rw [e1, ← a3, Nat.pow_succ]
            rw [show n * (10 ^ t * 10) = n * 10 ^ t * 10 by rw [Nat.mul_assoc], show n * 5 * 10 ^ t * 2 = n * 10 ^ t * (5 * 2) by rw [Nat.mul_right_comm n 5, Nat.mul_assoc]]
          · cases h
        · rw [if_neg h2] at h
          by_cases h5 : b % 5 = 0
          · rw [if_pos h5] at h
            split at h
            · obtain ⟨t, a1, a2, a3⟩ := quot_val k (b / 5) (n * 2) (e - 1) m f (by omega) (by omega) h
              refine ⟨t + 1, by rw [a1]; omega, by omega, ?_⟩
              have e1 : m * b = m * (b / 5) * 5 := by rw [Nat.mul_assoc]; congr 1; omega
              rw [e1, ← a3, Nat.pow_succ]
              rw [show n * (10 ^ t * 10) = n * 10 ^ t * 10 by rw [Nat.mul_assoc], show n * 2 * 10 ^ t * 5 = n * 10 ^ t * (2 * 5) by rw [Nat.mul_right_comm n 2, Nat.mul_assoc]]
            · cases h
          · rw [if_neg h5] at h; cases h
theorem pow_le_cancel {k2 b n : Nat} (hn : n ≠ 0) (h : b = n * 10 ^ k2) (hb : b ≤ 9223372036854775808) : k2 ≤ 18 := by
  apply Nat.le_of_lt_succ
  apply Nat.lt_of_not_le
  intro hk
  have h1 := Nat.pow_le_pow_right (n := 10) (i := 19) (j := k2) (by omega) hk
  have h2 : 10 ^ k2 ≤ n * 10 ^ k2 := Nat.le_mul_of_pos_left _ (by omega)
  have : (10 : Nat) ^ 19 = 10000000000000000000 := by decide
  omega
/-- The quotient of two numbers, each without some noughts at its end: as of the numbers themselves with 90 noughts. -/
theorem quot_doc (neg : Bool) (a b n1 n2 k1 k2 : Nat) (e : Int) (h1 : a = n1 * 10 ^ k1) (h2 : b = n2 * 10 ^ k2) (z1 : n1 ≠ 0) (z2 : n2 ≠ 0) (hb : b ≤ 9223372036854775808) :
    ((quotL (n2 / Nat.gcd n1 n2) (n1 / Nat.gcd n1 n2) (e + k1 - k2)).bind fun p => tellW neg p.1 p.2) = if a * 10 ^ 90 % b = 0 then tellW neg (a * 10 ^ 90 / b) (e - 90) else none := by
  have hg : 0 < Nat.gcd n1 n2 := Nat.gcd_pos_of_pos_left _ (by omega)
  obtain ⟨g, hgg⟩ : ∃ g, Nat.gcd n1 n2 = g := ⟨_, rfl⟩
  obtain ⟨p1, hp1⟩ : ∃ p, n1 / g = p := ⟨_, rfl⟩
  obtain ⟨p2, hp2⟩ : ∃ p, n2 / g = p := ⟨_, rfl⟩
  have hco : Nat.Coprime p1 p2 := by rw [← hp1, ← hp2, ← hgg]; exact Nat.coprime_div_gcd_div_gcd hg
  rw [hgg] at hg ⊢
  rw [hp1, hp2]
  have q1 : n1 = p1 * g := by rw [← hp1]; exact (Nat.div_mul_cancel (by rw [← hgg]; exact Nat.gcd_dvd_left _ _)).symm
  have q2 : n2 = p2 * g := by rw [← hp2]; exact (Nat.div_mul_cancel (by rw [← hgg]; exact Nat.gcd_dvd_right _ _)).symm
  have hp20 : 1 ≤ p2 := by
    rcases Nat.eq_zero_or_pos p2 with h | h
    · rw [h] at q2; omega
    · exact h
  have hk2 := pow_le_cancel z2 h2 hb
  have hb0 : 0 < b := by rw [h2]; exact Nat.mul_pos (by omega) (ten_pos _)
  have hn2b : n2 ≤ b := by rw [h2]; exact Nat.le_mul_of_pos_right _ (ten_pos _)
  have hp2n : p2 ≤ n2 := by rw [q2]; exact Nat.le_mul_of_pos_right _ hg
  cases hq : quotL p2 p1 (e + k1 - k2) with
  | some p =>
    obtain ⟨m, f⟩ := p
    have h64 : (2 : Nat) ^ 64 = 18446744073709551616 := by decide
    obtain ⟨t, a1, a2, a3⟩ := quot_val 64 p2 p1 _ m f hp20 (by omega) hq
    have e1 : n1 * 10 ^ t = m * n2 := by rw [q1, q2, Nat.mul_right_comm, a3, Nat.mul_assoc]
    have e2 : a * 10 ^ 90 = m * 10 ^ (k1 + 90 - t - k2) * b := by
      rw [h1, h2]
      have x1 : n1 * 10 ^ k1 * 10 ^ 90 = n1 * 10 ^ t * 10 ^ (k1 + 90 - t) := by
        rw [Nat.mul_assoc, Nat.mul_assoc, ← Nat.pow_add, ← Nat.pow_add]; congr 2; omega
      have x2 : 10 ^ (k1 + 90 - t) = 10 ^ (k1 + 90 - t - k2) * 10 ^ k2 := by rw [← Nat.pow_add]; congr 1; omega
      rw [x1, e1, x2]
      simp only [Nat.mul_assoc, Nat.mul_left_comm n2]
    rw [e2, Nat.mul_mod_left, if_pos rfl, Nat.mul_div_cancel _ hb0]
    show tellW neg m f = _
    rw [← tellW_pow neg m f (k1 + 90 - t - k2)]
    congr 1
    rw [a1]; omega
  | none =>
    show none = _
    by_cases hd : a * 10 ^ 90 % b = 0
    · rw [if_pos hd]
      cases ht : tellW neg (a * 10 ^ 90 / b) (e - 90) with
      | none => rfl
      | some p =>
        obtain ⟨C, E⟩ := p
        exfalso
        have hqb : a * 10 ^ 90 / b * b = a * 10 ^ 90 := Nat.div_mul_cancel (Nat.dvd_of_mod_eq_zero hd)
        have ha0 : a * 10 ^ 90 ≠ 0 := by
          rw [h1]
          exact Nat.ne_of_gt (Nat.mul_pos (Nat.mul_pos (by omega) (ten_pos _)) (ten_pos _))
        have hq0 : a * 10 ^ 90 / b ≠ 0 := by intro h; rw [h] at hqb; omega
        obtain ⟨_, _, _, _, c1, c2, _, i, j, c3, c4⟩ := tellW_some ht hq0
        generalize a * 10 ^ 90 / b = q at *
        have e3 : n1 * 10 ^ (k1 + 90 + i) = C.natAbs * n2 * 10 ^ (j + k2) := by
          have x1 : n1 * 10 ^ (k1 + 90 + i) = a * 10 ^ 90 * 10 ^ i := by
            rw [h1, Nat.mul_assoc, Nat.mul_assoc, ← Nat.pow_add, ← Nat.pow_add]; congr 2; omega
          rw [x1, ← hqb, h2, Nat.pow_add]
          have x2 : q * (n2 * 10 ^ k2) * 10 ^ i = q * 10 ^ i * (n2 * 10 ^ k2) := Nat.mul_right_comm _ _ _
          rw [x2, c3]
          simp only [Nat.mul_assoc, Nat.mul_left_comm n2]
        have e4 : p1 * 10 ^ (k1 + 90 + i) = C.natAbs * p2 * 10 ^ (j + k2) := by
          apply Nat.eq_of_mul_eq_mul_right hg
          rw [Nat.mul_right_comm p1, ← q1, e3, q2, Nat.mul_right_comm _ _ g, ← Nat.mul_assoc]
        obtain ⟨m, f, hm, _⟩ := quot_found C.natAbs E (by omega) p2 p1 (e + k1 - k2) (k1 + 90 + i) (j + k2) hp20 (by omega) hco e4 (by omega)
        rw [hq] at hm; cases hm
    · rw [if_neg hd]
theorem strip_of (c e : Int) (hc : c ≠ 0) : ∃ k : Nat, c.natAbs = (decW c e).n * 10 ^ k ∧ (decW c e).e = e + k ∧ (decW c e).n ≠ 0 ∧ (decW c e).neg = decide (c < 0) ∧ (k = 0 ∨ e + k ≤ 18) ∧ ((decW c e).n % 10 ≠ 0 ∨ 18 ≤ (decW c e).e) := by
  unfold decW shortW numW
  rw [if_neg (by simp; omega)]
  obtain ⟨k, a1, a2, a3, a4, a5⟩ := strip_spec c.natAbs e (by omega)
  exact ⟨k, a1, a2, a5, rfl, a3, a4⟩
/-- Div of two numbers as the document reckons it. -/
theorem div_doc (c e c2 e2 : Int) (h2 : -9223372036854775808 ≤ c2 ∧ c2 ≤ 9223372036854775807) (h0 : c2 ≠ 0) :
    toldW (quotW (decW c e) (decW c2 e2)) = if c.natAbs * 10 ^ 90 % c2.natAbs = 0 then tellW (decide (c < 0) != decide (c2 < 0)) (c.natAbs * 10 ^ 90 / c2.natAbs) (e - e2 - 90) else none := by
  obtain ⟨k2, b1, b2, b3, b4, _⟩ := strip_of c2 e2 h0
  by_cases hc : c = 0
  · subst hc
    have d0 : decW 0 e = ⟨false, 0, 0⟩ := by unfold decW shortW numW; simp
    rw [d0]
    unfold quotW
    simp only [Nat.gcd_zero_left, Nat.zero_div]
    rw [Nat.div_self (by omega), quotL.eq_def, if_pos (Nat.le_refl _)]
    simp [toldW, tellW_zero]
  · obtain ⟨k1, a1, a2, a3, a4, _⟩ := strip_of c e hc
    have h := quot_doc (decide (c < 0) != decide (c2 < 0)) c.natAbs c2.natAbs (decW c e).n (decW c2 e2).n k1 k2 (e - e2) a1 b1 a3 b3 (by omega)
    rw [← h]
    unfold quotW
    rw [a4, b4, a2, b2, show e + (k1 : Int) - (e2 + k2) = e - e2 + k1 - k2 by omega]
    cases quotL ((decW c2 e2).n / ((decW c e).n.gcd (decW c2 e2).n)) ((decW c e).n / ((decW c e).n.gcd (decW c2 e2).n)) (e - e2 + k1 - k2) with
    | none => rfl
    | some p => rfl
end Go.Proofs.YtfbhonjndepjbaaDoor
/- restOf and remainder, where both numbers have one exponent, as the chapter's example has them. -/
namespace Go.Proofs.YtfbhonjndepjbaaDoor
open Go.RowKit

set_option maxRecDepth 100000 in
set_option maxHeartbeats 400000 in
theorem restOf_eq (an bn : Bool) (ah bh x y r : Nat) (e : Int) (hy : y ≠ 0) (f1 : x % y = r) (hx : x < 18446744073709551616) (hy2 : y < 18446744073709551616) (w : World) :
    Calls Tryd.prog 87 #[wv an ah x e, wv bn bh y e] w fun q w' => q = .returned (wv an 0 r e) ∧ Below w.heap.size w w' := by
  have hy0 : ((y : Int) == 0) = false := by simp; omega
  have hy1 : ¬ (y : Int) = 0 := by omega
  have F1 : Hid ((x : Int) % (y : Int) = (r : Int)) := by show _ = _; rw [← f1, Int.natCast_emod]
  have F2 : Hid (IntKind.u64.wrap ((x : Int) % (y : Int)) = (r : Int)) := by
    show _ = _
    have : r < y := by rw [← f1]; exact Nat.mod_lt _ (by omega)
    rw [F1.out, u64_wrap]; omega
  clear f1
  unfold wv
  go_enter Tryd.func87, Tryd.ntmps87
  go_wp2_with fail
  refine wp_loop_once ?_
  go_wp2
  first | rw [F2.out] | rw [F1.out] | skip
  refine bodyPost_ret (ret_one rfl (g := w.heap.size + 2) rfl (load57 (three_rows w _ _ _ _ 59 59 59 (Below.refl _ _)).2.2.1 rfl)) rfl ⟨rfl, ?_⟩
  exact (((Below.refl _ w).alloc (Nat.le_refl _) _).alloc (by simp) _).alloc (by simp; omega) _
set_option maxRecDepth 100000 in
set_option maxHeartbeats 800000 in
theorem remainder_ex (w : World) : Calls Tryd.prog 60 #[wv true 0 7 0, wv false 0 3 0] w fun q w' => WayR (some ⟨false, 2, 0⟩) q ∧ Below w.heap.size w w' := by
  have hl : ∀ w, Calls Tryd.prog 71 #[wv false 0 3 0, .int .i64 0] w fun r w' => r = .returned (.tuple #[wv false 0 3 0, .bool true]) ∧ Below w.heap.size w w' := fun w => lowered_any ⟨false, 3, 0⟩ 0 (by decide) (by decide) (by decide) (by decide) w
  have hr : ∀ w, Calls Tryd.prog 87 #[wv true 0 7 0, wv false 0 3 0] w fun q w' => q = .returned (wv true 0 1 0) ∧ Below w.heap.size w w' := fun w => restOf_eq true false 0 0 7 3 1 0 (by decide) rfl (by decide) (by decide) w
  have hz : ∀ w, Calls Tryd.prog 61 #[wv true 0 1 0] w fun q w' => q = .returned (.bool false) ∧ Below w.heap.size w w' := fun w => zero_W ⟨true, 1, 0⟩ w
  have hs : ∀ w, Calls Tryd.prog 43 #[wv true 0 1 0, wv false 0 3 0] w fun q w' => WayR (some ⟨false, 2, 0⟩) q ∧ Below w.heap.size w w' := fun w => sum_any ⟨true, 1, 0⟩ ⟨false, 3, 0⟩ (by decide) (by decide) ⟨by decide, by decide⟩ ⟨by decide, by decide⟩ w
  unfold wv at *
  simp only [show ((0 : Nat) : Int) = 0 from rfl, show ((1 : Nat) : Int) = 1 from rfl, show ((3 : Nat) : Int) = 3 from rfl, show ((7 : Nat) : Int) = 7 from rfl] at *
  go_enter Tryd.func60, Tryd.ntmps60
  go_wp2_with fail
  refine (hl _).mono ?_
  rintro _ w1 ⟨rfl, h1⟩
  obtain ⟨hA, hC, hZ, hB⟩ := three_rows w w1 _ _ _ _ _ _ h1
  obtain ⟨a0, a1, a2, a3⟩ := hA.four
  obtain ⟨b0, b1, b2, b3⟩ := hC.four
  obtain ⟨d0, d1, d2, d3⟩ := hZ.four
  clear h1 hl
  have l2 : w.heap.size + 2 < w1.heap.size := hZ.lt
  have l1 : w.heap.size + 1 < w1.heap.size := by omega
  have l0 : w.heap.size < w1.heap.size := by omega
  have m2 : w.heap.size + 2 < w1.heap.size + 1 := by omega
  have m1 : w.heap.size + 1 < w1.heap.size + 1 := by omega
  have m0 : w.heap.size < w1.heap.size + 1 := by omega
  have hA := (hA.alloc (.cells #[.bool false, .int .u64 0, .int .u64 3, .int .i64 0] 59)).alloc (.cells #[.bool true, .int .u64 0, .int .u64 7, .int .i64 0] 59)
  have hC := (hC.alloc (.cells #[.bool false, .int .u64 0, .int .u64 3, .int .i64 0] 59)).alloc (.cells #[.bool true, .int .u64 0, .int .u64 7, .int .i64 0] 59)
  have hZ := (hZ.alloc (.cells #[.bool false, .int .u64 0, .int .u64 3, .int .i64 0] 59)).alloc (.cells #[.bool true, .int .u64 0, .int .u64 7, .int .i64 0] 59)
  have hY := (Row.new w1 59 #[.bool false, .int .u64 0, .int .u64 3, .int .i64 0]).alloc (.cells #[.bool true, .int .u64 0, .int .u64 7, .int .i64 0] 59)
  have hS := Row.new1 w1 (.cells #[.bool false, .int .u64 0, .int .u64 3, .int .i64 0] 59) 59 #[.bool true, .int .u64 0, .int .u64 7, .int .i64 0]
  have hB := (hB.alloc (by omega) (.cells #[.bool false, .int .u64 0, .int .u64 3, .int .i64 0] 59)).alloc (by simp; omega) (.cells #[.bool true, .int .u64 0, .int .u64 7, .int .i64 0] 59)
  go_wp2_with fail
  refine (hr _).mono ?_
  rintro _ w2 ⟨rfl, h2⟩
  have hA := hA.below h2 hA.lt
  have hC := hC.below h2 hC.lt
  have hZ := hZ.below h2 hZ.lt
  have hY := hY.below h2 hY.lt
  have hS := hS.below h2 hS.lt
  have hB := hB.trans (h2.mono hB.size)
  clear h2 hr a0 a1 a2 a3 b0 b1 b2 b3 d0 d1 d2 d3
  obtain ⟨s0, s1, s2, s3⟩ := hS.four
  have zs := hS.frozen
  have hA := hA.off4 (B' := w1.heap.size + 1) (by omega) (.bool true) (.int .u64 0) (.int .u64 1) (.int .i64 0)
  have hC := hC.off4 (B' := w1.heap.size + 1) (by omega) (.bool true) (.int .u64 0) (.int .u64 1) (.int .i64 0)
  have hZ := hZ.off4 (B' := w1.heap.size + 1) (by omega) (.bool true) (.int .u64 0) (.int .u64 1) (.int .i64 0)
  have hY := hY.off4 (B' := w1.heap.size + 1) (by omega) (.bool true) (.int .u64 0) (.int .u64 1) (.int .i64 0)
  have hS := hS.set4 (.bool true) (.int .u64 0) (.int .u64 1) (.int .i64 0)
  have hB := below_set4 hB (B' := w1.heap.size + 1) (by omega) (.bool true) (.int .u64 0) (.int .u64 1) (.int .i64 0)
  go_wp2_with fail
  refine (hz _).mono ?_
  rintro _ w3 ⟨rfl, h3⟩
  have hA := hA.below h3 hA.lt
  have hC := hC.below h3 hC.lt
  have hZ := hZ.below h3 hZ.lt
  have hY := hY.below h3 hY.lt
  have hS := hS.below h3 hS.lt
  have hB := hB.trans (h3.mono hB.size)
  clear h3 hz s0 s1 s2 s3 zs
  obtain ⟨a0, a1, a2, a3⟩ := hA.four
  obtain ⟨b0, b1, b2, b3⟩ := hC.four
  obtain ⟨s0, s1, s2, s3⟩ := hS.four
  obtain ⟨y0, y1, y2, y3⟩ := hY.four
  go_wp2_with fail
  refine (hs _).mono ?_
  rintro _ w4 ⟨⟨x, t, rfl, x1, x2, x3, x4⟩, h4⟩
  have hZ := hZ.below h4 hZ.lt
  have hB := hB.trans (h4.mono hB.size)
  clear h4 hs a0 a1 a2 a3 b0 b1 b2 b3 s0 s1 s2 s3 y0 y1 y2 y3
  obtain ⟨g0, g1, g2, g3, hxv⟩ := val_agg x
  have HR : Hid (WayR (some ⟨false, 2, 0⟩) (.returned (.tuple #[.agg #[.bool g0, .int .u64 g1, .int .u64 g2, .int .i64 g3], .bool t]))) := ⟨x, t, by rw [hxv], x1, x2, x3, x4⟩
  rw [hxv]
  clear x1 x2 x3 x4 hxv
  obtain ⟨d0, d1, d2, d3⟩ := hZ.four
  have z := hZ.frozen
  go_wp2
  refine bodyPost_ret (v := .tuple #[.agg #[.bool g0, .int .u64 g1, .int .u64 g2, .int .i64 g3], .bool t]) (ret_two rfl (g := w.heap.size + 2) rfl rfl (load57 (Row.set4 hZ _ _ _ _) rfl)) rfl ⟨HR.out, ?_⟩
  exact below_set4 hB (by omega) _ _ _ _
theorem mod_ex (w : World) : Calls Tryd.prog 20 #[dv (-7) 0, dv 3 0] w fun r w' => r = .returned (.tuple #[dv 2 0, .int .i64 0]) ∧ Below w.heap.size w w' := by
  refine op_20 (-7) 0 3 0 2 0 0 (fun w => ?_) w
  have h1 : decW (-7) 0 = ⟨true, 7, 0⟩ := by
    unfold decW shortW numW; rw [if_neg (by decide), show ((-7 : Int)).natAbs = 7 from rfl, strip_fix 7 0 (by decide)]; rfl
  have h2 : decW 3 0 = ⟨false, 3, 0⟩ := by
    unfold decW shortW numW; rw [if_neg (by decide), show ((3 : Int)).natAbs = 3 from rfl, strip_fix 3 0 (by decide)]; rfl
  have := divided_ok51 (-7) 0 3 0 (some ⟨false, 2, 0⟩) ⟨by decide, by decide⟩ ⟨by decide, by decide⟩ ⟨by decide, by decide⟩ ⟨by decide, by decide⟩ (by rw [h2]; decide) (fun w => by rw [h1, h2]; exact remainder_ex w) w
  refine this.mono ?_
  rintro r w' ⟨rfl, hB⟩
  refine ⟨?_, hB⟩
  have : toldW (some ⟨false, 2, 0⟩) = some (2, 0) := by
    show tellW false 2 0 = _
    unfold tellW; rw [if_neg (by decide), strip_fix 2 0 (by decide)]; rfl
  rw [this]; rfl
end Go.Proofs.YtfbhonjndepjbaaDoor
/- size, Cmp. -/
namespace Go.Proofs.YtfbhonjndepjbaaDoor
open Go.RowKit

theorem sign_W (x : Wd) (w : World) : Calls Tryd.prog 66 #[x.val] w fun r w' => r = .returned (.int .i64 (sgW x)) ∧ Below w.heap.size w w' := by
  refine (sign_any x.neg (x.n / 18446744073709551616) (x.n % 18446744073709551616) x.e w).mono ?_
  rintro r w' ⟨rfl, hB⟩
  refine ⟨?_, hB⟩
  unfold sgW
  have : (x.n / 18446744073709551616 = 0 ∧ x.n % 18446744073709551616 = 0) ↔ x.n = 0 := by omega
  simp only [this]
theorem sgW_bd (x : Wd) : -1 ≤ sgW x ∧ sgW x ≤ 1 := by unfold sgW; split; omega; split <;> omega
end Go.Proofs.YtfbhonjndepjbaaDoor
/- Floor. -/
namespace Go.Proofs.YtfbhonjndepjbaaDoor
open Go.RowKit

end Go.Proofs.YtfbhonjndepjbaaDoor
/- Round. -/
namespace Go.Proofs.YtfbhonjndepjbaaDoor
open Go.RowKit

end Go.Proofs.YtfbhonjndepjbaaDoor
