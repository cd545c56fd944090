import Derived.Test.YtfbhonjndepjbaaDoorWbsM
/- less: a number less another one. -/
namespace Go.Proofs.YtfbhonjndepjbaaDoor
open Go.RowKit

theorem turned_W (x : Wd) (w : World) : Calls Tryd.prog 51 #[x.val] w fun r w' => r = .returned (turnW x).val ∧ Below w.heap.size w w' := turned_any x.neg _ _ x.e w
theorem val_agg (x : Wd) : ∃ a b c d, x.val = .agg #[.bool a, .int .u64 b, .int .u64 c, .int .i64 d] := ⟨_, _, _, _, rfl⟩
set_option maxRecDepth 100000 in
set_option maxHeartbeats 600000 in
theorem less_any (a b : Wd) (ha : a.n < M128) (hb : b.n < M128) (ea : EOk a) (eb : EOk b) (w : World) :
    Calls Tryd.prog 47 #[a.val, b.val] w fun r w' => WayR (sumW a (turnW b)) r ∧ Below w.heap.size w w' := by
  have k1 := turned_W b
  have k2 := sum_any a (turnW b) ha hb ea eb
  generalize sumW a (turnW b) = o at *
  obtain ⟨a0, a1, a2, a3, hav⟩ := val_agg a
  obtain ⟨b0, b1, b2, b3, hbv⟩ := val_agg b
  obtain ⟨c0, c1, c2, c3, hcv⟩ := val_agg (turnW b)
  rw [hav, hcv] at k2
  rw [hbv, hcv] at k1
  rw [hav, hbv]
  clear hav hbv hcv ha hb ea eb
  go_enter Tryd.func47, Tryd.ntmps47
  go_wp2_with fail
  obtain ⟨hA, hC, hZ, hB⟩ := three_rows w _ _ _ _ 59 59 59 (Below.refl _ (((w.alloc (.cells #[.bool a0, .int .u64 a1, .int .u64 a2, .int .i64 a3] 59)).alloc (.cells #[.bool b0, .int .u64 b1, .int .u64 b2, .int .i64 b3] 59)).alloc (.cells #[.bool false, .int .u64 0, .int .u64 0, .int .i64 0] 59)))
  generalize (((w.alloc (.cells #[.bool a0, .int .u64 a1, .int .u64 a2, .int .i64 a3] 59)).alloc (.cells #[.bool b0, .int .u64 b1, .int .u64 b2, .int .i64 b3] 59)).alloc (.cells #[.bool false, .int .u64 0, .int .u64 0, .int .i64 0] 59)) = W at *
  have hS0 : Below W.heap.size W W.drew := (Below.refl _ W).drew
  refine wp_region_M (fun wx : World => Below W.heap.size W wx) (fun j => decide (j < 4)) 8 rfl (by kernel_rfl) ?_
  refine wpM_held 0 (v := .agg #[.bool a0, .int .u64 a1, .int .u64 a2, .int .i64 a3]) rfl (by kernel_rfl) (by kernel_rfl) rfl (fun _ _ _ h => h) rfl (by intro wx hx; obtain ⟨g0, g1, g2, g3⟩ := (hA.below hx hA.lt).four; go_simp <;> rfl) hS0 ?_
  refine wpM_held 1 (v := .agg #[.bool b0, .int .u64 b1, .int .u64 b2, .int .i64 b3]) rfl (by kernel_rfl) (by kernel_rfl) rfl (fun _ _ _ h => h) rfl (by intro wx hx; obtain ⟨g0, g1, g2, g3⟩ := (hC.below hx hC.lt).four; go_simp <;> rfl) hS0 ?_
  refine wpM_one 2 rfl (by kernel_rfl) rfl ?_
  go_wp2_with fail
  refine (k1 _).mono ?_
  rintro _ w1 ⟨rfl, h1⟩
  have hS1 := hS0.trans h1
  clear h1 k1
  go_wp2_with fail
  refine ⟨fun _ => hS1, ?_⟩
  refine wpM_one 3 rfl (by kernel_rfl) rfl ?_
  go_wp2_with fail
  refine (k2 _).mono ?_
  rintro _ w2 ⟨⟨x, t, rfl, x1, x2, x3, x4⟩, h2⟩
  have hS2 := hS1.trans (h2.mono hS1.size)
  obtain ⟨d0, d1, d2, d3, hxv⟩ := val_agg x
  have HR : Hid (WayR o (.returned (.tuple #[.agg #[.bool d0, .int .u64 d1, .int .u64 d2, .int .i64 d3], .bool t]))) := ⟨x, t, by rw [hxv], x1, x2, x3, x4⟩
  rw [hxv]
  have hZ2 := hZ.below hS2 hZ.lt
  have hB2 := hB.trans (hS2.mono hB.size)
  clear h2 k2 x1 x2 x3 x4 hxv
  go_wp2_with fail
  refine ⟨fun _ => hS2, ?_⟩
  refine wpM_free 4 (v := ?_) rfl (by kernel_rfl) (by kernel_rfl) rfl (fun _ _ _ h => h) rfl (by intro wx; go_simp <;> rfl) ?_
  refine wpM_free 5 (v := ?_) rfl (by kernel_rfl) (by kernel_rfl) rfl (fun _ _ _ h => h) rfl (by intro wx; go_simp <;> rfl) ?_
  obtain ⟨g0, g1, g2, g3⟩ := hZ2.four
  have z := hZ2.frozen
  refine wpM_one 6 rfl (by kernel_rfl) rfl ?_
  go_wp2_with fail
  refine ⟨(fun h => by simp at h), ?_⟩
  refine wpM_one 7 rfl (by kernel_rfl) rfl ?_
  go_wp2_with fail
  refine ⟨(fun h => by simp at h), ?_⟩
  refine wpM_done (by kernel_rfl) ?_
  go_wp2
  refine bodyPost_ret (v := .tuple #[.agg #[.bool d0, .int .u64 d1, .int .u64 d2, .int .i64 d3], .bool t]) (ret_two rfl (g := w.heap.size + 2) rfl rfl (load57 (Row.set4 hZ2 _ _ _ _) rfl)) rfl ⟨HR.out, ?_⟩
  exact below_set4 hB2 (by omega) _ _ _ _
end Go.Proofs.YtfbhonjndepjbaaDoor
/- reckoned: what a way makes of two Decs. -/
namespace Go.Proofs.YtfbhonjndepjbaaDoor
open Go.RowKit

theorem four_rows (w w1 : World) (o1 o2 o3 o4 : Array Value) (t1 t2 t3 t4 : TypeId) (h : Below (((((w.alloc (.cells o1 t1)).alloc (.cells o2 t2)).alloc (.cells o3 t3)).alloc (.cells o4 t4)).heap.size) ((((w.alloc (.cells o1 t1)).alloc (.cells o2 t2)).alloc (.cells o3 t3)).alloc (.cells o4 t4)) w1) :
    Row w1 w.heap.size t1 o1 ∧ Row w1 (w.heap.size + 1) t2 o2 ∧ Row w1 (w.heap.size + 2) t3 o3 ∧ Row w1 (w.heap.size + 3) t4 o4 ∧ Below w.heap.size w w1 := by
  have r4 : Row ((((w.alloc (.cells o1 t1)).alloc (.cells o2 t2)).alloc (.cells o3 t3)).alloc (.cells o4 t4)) (w.heap.size + 3) t4 o4 := by
    have := Row.new (((w.alloc (.cells o1 t1)).alloc (.cells o2 t2)).alloc (.cells o3 t3)) t4 o4
    simpa using this
  obtain ⟨r1, r2, r3, hB⟩ := three_rows w w1 o1 o2 o3 t1 t2 t3 (((Below.refl _ _).alloc (Nat.le_refl _) (.cells o4 t4)).trans (h.mono (by simp)))
  exact ⟨r1, r2, r3, r4.below h r4.lt, hB⟩
theorem Row.eight {W : World} {B : Nat} {t : TypeId} {a b c d e f g h : Value} (hr : Row W B t #[a, b, c, d, e, f, g, h]) :
    W.cell? ⟨B, 0, none⟩ = some a ∧ W.cell? ⟨B, 1, none⟩ = some b ∧ W.cell? ⟨B, 2, none⟩ = some c ∧ W.cell? ⟨B, 3, none⟩ = some d ∧ W.cell? ⟨B, 4, none⟩ = some e ∧ W.cell? ⟨B, 5, none⟩ = some f ∧ W.cell? ⟨B, 6, none⟩ = some g ∧ W.cell? ⟨B, 7, none⟩ = some h :=
  ⟨hr.cell rfl, hr.cell rfl, hr.cell rfl, hr.cell rfl, hr.cell rfl, hr.cell rfl, hr.cell rfl, hr.cell rfl⟩
theorem decV_form (o : Option (Int × Int)) : ∃ a b v, decV o = .tuple #[.agg #[.int .i64 a, .int .i64 b], .int .i64 v] := by
  cases o with
  | none => exact ⟨_, _, _, rfl⟩
  | some p => exact ⟨_, _, _, rfl⟩
set_option maxRecDepth 100000 in
set_option maxHeartbeats 800000 in
theorem reckoned_bad1 (f : FuncId) (c e c2 e2 : Int) (he : ¬ within e) (w : World) :
    Calls Tryd.prog 42 #[.func (.func f) #[] #[], dv c e, dv c2 e2] w fun r w' => r = .returned (.tuple #[dv 0 0, .int .i64 1]) ∧ Below w.heap.size w w' := by
  unfold dv
  go_enter Tryd.func42, Tryd.ntmps42
  go_wp2_with fail
  obtain ⟨_, _, _, hK, _⟩ := four_rows w _ _ _ _ _ 23 23 23 23 (Below.refl _ ((((w.alloc (.cells #[.int .i64 c, .int .i64 e] 23)).alloc (.cells #[.int .i64 c2, .int .i64 e2] 23)).alloc (.cells #[.int .i64 0, .int .i64 0] 23)).alloc (.cells #[.int .i64 c, .int .i64 e, .int .i64 c2, .int .i64 e2] 23)))
  refine (taken2_bad1 c e c2 e2 _ _ he hK).mono ?_
  rintro _ w1 ⟨h1, rfl⟩
  obtain ⟨_, _, hZ, _, hB⟩ := four_rows w w1 _ _ _ _ _ _ _ _ h1
  obtain ⟨d0, d1⟩ := hZ.duo
  have z := hZ.frozen
  clear h1
  go_wp2
  refine bodyPost_ret (ret_two rfl (g := w.heap.size + 2) rfl rfl (load23 (Row.set2 hZ _ _) rfl)) rfl ⟨rfl, ?_⟩
  repeat (refine below_set ?_ _ _ (by omega))
  exact hB
set_option maxRecDepth 100000 in
set_option maxHeartbeats 800000 in
theorem reckoned_bad2 (f : FuncId) (c e c2 e2 : Int) (hc : I64 c) (he : within e) (he2 : ¬ within e2) (w : World) :
    Calls Tryd.prog 42 #[.func (.func f) #[] #[], dv c e, dv c2 e2] w fun r w' => r = .returned (.tuple #[dv 0 0, .int .i64 1]) ∧ Below w.heap.size w w' := by
  unfold dv
  go_enter Tryd.func42, Tryd.ntmps42
  go_wp2_with fail
  obtain ⟨_, _, _, hK, _⟩ := four_rows w _ _ _ _ _ 23 23 23 23 (Below.refl _ ((((w.alloc (.cells #[.int .i64 c, .int .i64 e] 23)).alloc (.cells #[.int .i64 c2, .int .i64 e2] 23)).alloc (.cells #[.int .i64 0, .int .i64 0] 23)).alloc (.cells #[.int .i64 c, .int .i64 e, .int .i64 c2, .int .i64 e2] 23)))
  refine (taken2_bad2 c e c2 e2 _ _ hc he he2 hK).mono ?_
  rintro _ w1 ⟨h1, rfl⟩
  obtain ⟨_, _, hZ, _, hB⟩ := four_rows w w1 _ _ _ _ _ _ _ _ h1
  obtain ⟨d0, d1⟩ := hZ.duo
  have z := hZ.frozen
  clear h1
  go_wp2
  refine bodyPost_ret (ret_two rfl (g := w.heap.size + 2) rfl rfl (load23 (Row.set2 hZ _ _) rfl)) rfl ⟨rfl, ?_⟩
  repeat (refine below_set ?_ _ _ (by omega))
  exact hB
set_option maxRecDepth 100000 in
set_option maxHeartbeats 800000 in
theorem reckoned_ok34 (c e c2 e2 : Int) (o : Option Wd) (hc : I64 c) (he : within e) (hc2 : I64 c2) (he2 : within e2) 
    (hw : ∀ w, Calls Tryd.prog 43 #[(decW c e).val, (decW c2 e2).val] w fun r w' => WayR o r ∧ Below w.heap.size w w') (w : World) :
    Calls Tryd.prog 42 #[.func (.func 43) #[] #[], dv c e, dv c2 e2] w fun r w' => r = .returned (decV (toldW o)) ∧ Below w.heap.size w w' := by
  have hT := fun K w (hK : Row w K 23 #[.int .i64 c, .int .i64 e, .int .i64 c2, .int .i64 e2]) => taken2 c e c2 e2 K w hc he hc2 he2 hK
  simp only [Wd.val_eq] at *
  obtain ⟨y0, y1, y2, y3, hy⟩ : ∃ y0 y1 y2 y3, (decW c e).cells = #[y0, y1, y2, y3] := ⟨_, _, _, _, rfl⟩
  obtain ⟨z0, z1, z2, z3, hz⟩ : ∃ y0 y1 y2 y3, (decW c2 e2).cells = #[y0, y1, y2, y3] := ⟨_, _, _, _, rfl⟩
  rw [hy, hz] at hw
  simp only [hy, hz] at hT
  clear hc he hc2 he2
  obtain ⟨p, q, v, hdv⟩ := decV_form (toldW o)
  rw [hdv]
  have HDV : Hid (decV (toldW o) = .tuple #[.agg #[.int .i64 p, .int .i64 q], .int .i64 v]) := hdv
  clear hdv
  unfold dv
  go_enter Tryd.func42, Tryd.ntmps42
  go_wp2_with fail
  obtain ⟨_, _, _, hK, _⟩ := four_rows w _ _ _ _ _ 23 23 23 23 (Below.refl _ ((((w.alloc (.cells #[.int .i64 c, .int .i64 e] 23)).alloc (.cells #[.int .i64 c2, .int .i64 e2] 23)).alloc (.cells #[.int .i64 0, .int .i64 0] 23)).alloc (.cells #[.int .i64 c, .int .i64 e, .int .i64 c2, .int .i64 e2] 23)))
  refine (hT _ _ hK).mono ?_
  rintro _ W ⟨h1, G, hG, rfl, hR⟩
  obtain ⟨_, _, hZ, _, hB⟩ := four_rows w W _ _ _ _ _ _ _ _ h1
  have hGn : w.heap.size + 2 ≠ G := by simp at hG; omega
  have hR : Row W G 59 #[y0, y1, y2, y3, z0, z1, z2, z3] := hR
  clear h1 hG hK hT
  go_wp2_with fail
  have hS0 : Below W.heap.size W W.drew := (Below.refl _ W).drew
  refine wp_region_M (fun wx : World => Below W.heap.size W wx) (fun j => decide (j < 10)) 15 rfl (by kernel_rfl) ?_
  refine wpM_held 0 (v := ?_) rfl (by kernel_rfl) (by kernel_rfl) rfl (fun _ _ _ h => h) rfl (by intro wx hx; go_simp <;> rfl) hS0 ?_
  refine wpM_held 1 (v := ?_) rfl (by kernel_rfl) (by kernel_rfl) rfl (fun _ _ _ h => h) rfl (by intro wx hx; go_simp <;> rfl) hS0 ?_
  refine wpM_held 2 (v := .pointer (some ⟨G, 0, none⟩)) rfl (by kernel_rfl) (by kernel_rfl) rfl (fun _ _ _ h => h) rfl (by intro wx hx; go_simp <;> rfl) hS0 ?_
  refine wpM_held 3 (v := .agg #[y0, y1, y2, y3]) rfl (by kernel_rfl) (by kernel_rfl) rfl (fun _ _ _ h => h) rfl (by intro wx hx; obtain ⟨g0, g1, g2, g3, g4, g5, g6, g7⟩ := (hR.below hx hR.lt).eight; go_simp <;> rfl) hS0 ?_
  refine wpM_held 4 (v := ?_) rfl (by kernel_rfl) (by kernel_rfl) rfl (fun _ _ _ h => h) rfl (by intro wx hx; go_simp <;> rfl) hS0 ?_
  refine wpM_held 5 (v := .pointer (some ⟨G, 4, none⟩)) rfl (by kernel_rfl) (by kernel_rfl) rfl (fun _ _ _ h => h) rfl (by intro wx hx; go_simp <;> rfl) hS0 ?_
  refine wpM_held 6 (v := .agg #[z0, z1, z2, z3]) rfl (by kernel_rfl) (by kernel_rfl) rfl (fun _ _ _ h => h) rfl (by intro wx hx; obtain ⟨g0, g1, g2, g3, g4, g5, g6, g7⟩ := (hR.below hx hR.lt).eight; go_simp <;> rfl) hS0 ?_
  refine wpM_one 7 rfl (by kernel_rfl) rfl ?_
  go_wp2_with fail
  refine (hw _).mono ?_
  rintro _ w1 ⟨⟨x, t, rfl, x1, x2, x3, x4⟩, h1⟩
  have hS1 := hS0.trans h1
  have hTD := told_any x t x1 x3 x2
  rw [show (if t = true then tellW x.neg x.n x.e else none) = toldW o by rw [x4]; cases t <;> rfl] at hTD
  rw [HDV.out] at hTD
  obtain ⟨d0, d1, d2, d3, hxv⟩ := val_agg x
  rw [hxv] at hTD ⊢
  clear h1 hw x1 x2 x3 x4 hxv
  go_wp2_with fail
  refine ⟨fun _ => hS1, ?_⟩
  refine wpM_held 8 (v := ?_) rfl (by kernel_rfl) (by kernel_rfl) rfl (fun _ _ _ h => h) rfl (by intro wx hx; go_simp <;> rfl) hS1 ?_
  refine wpM_held 9 (v := ?_) rfl (by kernel_rfl) (by kernel_rfl) rfl (fun _ _ _ h => h) rfl (by intro wx hx; go_simp <;> rfl) hS1 ?_
  refine wpM_one 10 rfl (by kernel_rfl) rfl ?_
  go_wp2_with fail
  refine (hTD _).mono ?_
  rintro _ w2 ⟨rfl, h2⟩
  have hS2 := hS1.trans (h2.mono hS1.size)
  have hZ2 := hZ.below hS2 hZ.lt
  have hB2 := hB.trans (hS2.mono hB.size)
  clear h2 hTD
  go_wp2_with fail
  refine ⟨(fun h => by simp at h), ?_⟩
  refine wpM_free 11 (v := ?_) rfl (by kernel_rfl) (by kernel_rfl) rfl (fun _ _ _ h => h) rfl (by intro wx; go_simp <;> rfl) ?_
  refine wpM_free 12 (v := ?_) rfl (by kernel_rfl) (by kernel_rfl) rfl (fun _ _ _ h => h) rfl (by intro wx; go_simp <;> rfl) ?_
  obtain ⟨g0, g1⟩ := hZ2.duo
  have z := hZ2.frozen
  refine wpM_one 13 rfl (by kernel_rfl) rfl ?_
  go_wp2_with fail
  refine ⟨(fun h => by simp at h), ?_⟩
  refine wpM_one 14 rfl (by kernel_rfl) rfl ?_
  go_wp2_with fail
  refine ⟨(fun h => by simp at h), ?_⟩
  refine wpM_done (by kernel_rfl) ?_
  go_wp2
  refine bodyPost_ret (v := .tuple #[.agg #[.int .i64 p, .int .i64 q], .int .i64 v]) (ret_two rfl (g := w.heap.size + 2) rfl rfl (load23 (Row.set2 hZ2 _ _) rfl)) rfl ⟨rfl, ?_⟩
  repeat (refine below_set ?_ _ _ (by omega))
  exact hB2
set_option maxRecDepth 100000 in
set_option maxHeartbeats 800000 in
theorem reckoned_ok38 (c e c2 e2 : Int) (o : Option Wd) (hc : I64 c) (he : within e) (hc2 : I64 c2) (he2 : within e2) 
    (hw : ∀ w, Calls Tryd.prog 47 #[(decW c e).val, (decW c2 e2).val] w fun r w' => WayR o r ∧ Below w.heap.size w w') (w : World) :
    Calls Tryd.prog 42 #[.func (.func 47) #[] #[], dv c e, dv c2 e2] w fun r w' => r = .returned (decV (toldW o)) ∧ Below w.heap.size w w' := by
  have hT := fun K w (hK : Row w K 23 #[.int .i64 c, .int .i64 e, .int .i64 c2, .int .i64 e2]) => taken2 c e c2 e2 K w hc he hc2 he2 hK
  simp only [Wd.val_eq] at *
  obtain ⟨y0, y1, y2, y3, hy⟩ : ∃ y0 y1 y2 y3, (decW c e).cells = #[y0, y1, y2, y3] := ⟨_, _, _, _, rfl⟩
  obtain ⟨z0, z1, z2, z3, hz⟩ : ∃ y0 y1 y2 y3, (decW c2 e2).cells = #[y0, y1, y2, y3] := ⟨_, _, _, _, rfl⟩
  rw [hy, hz] at hw
  simp only [hy, hz] at hT
  clear hc he hc2 he2
  obtain ⟨p, q, v, hdv⟩ := decV_form (toldW o)
  rw [hdv]
  have HDV : Hid (decV (toldW o) = .tuple #[.agg #[.int .i64 p, .int .i64 q], .int .i64 v]) := hdv
  clear hdv
  unfold dv
  go_enter Tryd.func42, Tryd.ntmps42
  go_wp2_with fail
  obtain ⟨_, _, _, hK, _⟩ := four_rows w _ _ _ _ _ 23 23 23 23 (Below.refl _ ((((w.alloc (.cells #[.int .i64 c, .int .i64 e] 23)).alloc (.cells #[.int .i64 c2, .int .i64 e2] 23)).alloc (.cells #[.int .i64 0, .int .i64 0] 23)).alloc (.cells #[.int .i64 c, .int .i64 e, .int .i64 c2, .int .i64 e2] 23)))
  refine (hT _ _ hK).mono ?_
  rintro _ W ⟨h1, G, hG, rfl, hR⟩
  obtain ⟨_, _, hZ, _, hB⟩ := four_rows w W _ _ _ _ _ _ _ _ h1
  have hGn : w.heap.size + 2 ≠ G := by simp at hG; omega
  have hR : Row W G 59 #[y0, y1, y2, y3, z0, z1, z2, z3] := hR
  clear h1 hG hK hT
  go_wp2_with fail
  have hS0 : Below W.heap.size W W.drew := (Below.refl _ W).drew
  refine wp_region_M (fun wx : World => Below W.heap.size W wx) (fun j => decide (j < 10)) 15 rfl (by kernel_rfl) ?_
  refine wpM_held 0 (v := ?_) rfl (by kernel_rfl) (by kernel_rfl) rfl (fun _ _ _ h => h) rfl (by intro wx hx; go_simp <;> rfl) hS0 ?_
  refine wpM_held 1 (v := ?_) rfl (by kernel_rfl) (by kernel_rfl) rfl (fun _ _ _ h => h) rfl (by intro wx hx; go_simp <;> rfl) hS0 ?_
  refine wpM_held 2 (v := .pointer (some ⟨G, 0, none⟩)) rfl (by kernel_rfl) (by kernel_rfl) rfl (fun _ _ _ h => h) rfl (by intro wx hx; go_simp <;> rfl) hS0 ?_
  refine wpM_held 3 (v := .agg #[y0, y1, y2, y3]) rfl (by kernel_rfl) (by kernel_rfl) rfl (fun _ _ _ h => h) rfl (by intro wx hx; obtain ⟨g0, g1, g2, g3, g4, g5, g6, g7⟩ := (hR.below hx hR.lt).eight; go_simp <;> rfl) hS0 ?_
  refine wpM_held 4 (v := ?_) rfl (by kernel_rfl) (by kernel_rfl) rfl (fun _ _ _ h => h) rfl (by intro wx hx; go_simp <;> rfl) hS0 ?_
  refine wpM_held 5 (v := .pointer (some ⟨G, 4, none⟩)) rfl (by kernel_rfl) (by kernel_rfl) rfl (fun _ _ _ h => h) rfl (by intro wx hx; go_simp <;> rfl) hS0 ?_
  refine wpM_held 6 (v := .agg #[z0, z1, z2, z3]) rfl (by kernel_rfl) (by kernel_rfl) rfl (fun _ _ _ h => h) rfl (by intro wx hx; obtain ⟨g0, g1, g2, g3, g4, g5, g6, g7⟩ := (hR.below hx hR.lt).eight; go_simp <;> rfl) hS0 ?_
  refine wpM_one 7 rfl (by kernel_rfl) rfl ?_
  go_wp2_with fail
  refine (hw _).mono ?_
  rintro _ w1 ⟨⟨x, t, rfl, x1, x2, x3, x4⟩, h1⟩
  have hS1 := hS0.trans h1
  have hTD := told_any x t x1 x3 x2
  rw [show (if t = true then tellW x.neg x.n x.e else none) = toldW o by rw [x4]; cases t <;> rfl] at hTD
  rw [HDV.out] at hTD
  obtain ⟨d0, d1, d2, d3, hxv⟩ := val_agg x
  rw [hxv] at hTD ⊢
  clear h1 hw x1 x2 x3 x4 hxv
  go_wp2_with fail
  refine ⟨fun _ => hS1, ?_⟩
  refine wpM_held 8 (v := ?_) rfl (by kernel_rfl) (by kernel_rfl) rfl (fun _ _ _ h => h) rfl (by intro wx hx; go_simp <;> rfl) hS1 ?_
  refine wpM_held 9 (v := ?_) rfl (by kernel_rfl) (by kernel_rfl) rfl (fun _ _ _ h => h) rfl (by intro wx hx; go_simp <;> rfl) hS1 ?_
  refine wpM_one 10 rfl (by kernel_rfl) rfl ?_
  go_wp2_with fail
  refine (hTD _).mono ?_
  rintro _ w2 ⟨rfl, h2⟩
  have hS2 := hS1.trans (h2.mono hS1.size)
  have hZ2 := hZ.below hS2 hZ.lt
  have hB2 := hB.trans (hS2.mono hB.size)
  clear h2 hTD
  go_wp2_with fail
  refine ⟨(fun h => by simp at h), ?_⟩
  refine wpM_free 11 (v := ?_) rfl (by kernel_rfl) (by kernel_rfl) rfl (fun _ _ _ h => h) rfl (by intro wx; go_simp <;> rfl) ?_
  refine wpM_free 12 (v := ?_) rfl (by kernel_rfl) (by kernel_rfl) rfl (fun _ _ _ h => h) rfl (by intro wx; go_simp <;> rfl) ?_
  obtain ⟨g0, g1⟩ := hZ2.duo
  have z := hZ2.frozen
  refine wpM_one 13 rfl (by kernel_rfl) rfl ?_
  go_wp2_with fail
  refine ⟨(fun h => by simp at h), ?_⟩
  refine wpM_one 14 rfl (by kernel_rfl) rfl ?_
  go_wp2_with fail
  refine ⟨(fun h => by simp at h), ?_⟩
  refine wpM_done (by kernel_rfl) ?_
  go_wp2
  refine bodyPost_ret (v := .tuple #[.agg #[.int .i64 p, .int .i64 q], .int .i64 v]) (ret_two rfl (g := w.heap.size + 2) rfl rfl (load23 (Row.set2 hZ2 _ _) rfl)) rfl ⟨rfl, ?_⟩
  repeat (refine below_set ?_ _ _ (by omega))
  exact hB2
set_option maxRecDepth 100000 in
set_option maxHeartbeats 800000 in
theorem reckoned_ok43 (c e c2 e2 : Int) (o : Option Wd) (hc : I64 c) (he : within e) (hc2 : I64 c2) (he2 : within e2) 
    (hw : ∀ w, Calls Tryd.prog 52 #[(decW c e).val, (decW c2 e2).val] w fun r w' => WayR o r ∧ Below w.heap.size w w') (w : World) :
    Calls Tryd.prog 42 #[.func (.func 52) #[] #[], dv c e, dv c2 e2] w fun r w' => r = .returned (decV (toldW o)) ∧ Below w.heap.size w w' := by
  have hT := fun K w (hK : Row w K 23 #[.int .i64 c, .int .i64 e, .int .i64 c2, .int .i64 e2]) => taken2 c e c2 e2 K w hc he hc2 he2 hK
  simp only [Wd.val_eq] at *
  obtain ⟨y0, y1, y2, y3, hy⟩ : ∃ y0 y1 y2 y3, (decW c e).cells = #[y0, y1, y2, y3] := ⟨_, _, _, _, rfl⟩
  obtain ⟨z0, z1, z2, z3, hz⟩ : ∃ y0 y1 y2 y3, (decW c2 e2).cells = #[y0, y1, y2, y3] := ⟨_, _, _, _, rfl⟩
  rw [hy, hz] at hw
  simp only [hy, hz] at hT
  clear hc he hc2 he2
  obtain ⟨p, q, v, hdv⟩ := decV_form (toldW o)
  rw [hdv]
  have HDV : Hid (decV (toldW o) = .tuple #[.agg #[.int .i64 p, .int .i64 q], .int .i64 v]) := hdv
  clear hdv
  unfold dv
  go_enter Tryd.func42, Tryd.ntmps42
  go_wp2_with fail
  obtain ⟨_, _, _, hK, _⟩ := four_rows w _ _ _ _ _ 23 23 23 23 (Below.refl _ ((((w.alloc (.cells #[.int .i64 c, .int .i64 e] 23)).alloc (.cells #[.int .i64 c2, .int .i64 e2] 23)).alloc (.cells #[.int .i64 0, .int .i64 0] 23)).alloc (.cells #[.int .i64 c, .int .i64 e, .int .i64 c2, .int .i64 e2] 23)))
  refine (hT _ _ hK).mono ?_
  rintro _ W ⟨h1, G, hG, rfl, hR⟩
  obtain ⟨_, _, hZ, _, hB⟩ := four_rows w W _ _ _ _ _ _ _ _ h1
  have hGn : w.heap.size + 2 ≠ G := by simp at hG; omega
  have hR : Row W G 59 #[y0, y1, y2, y3, z0, z1, z2, z3] := hR
  clear h1 hG hK hT
  go_wp2_with fail
  have hS0 : Below W.heap.size W W.drew := (Below.refl _ W).drew
  refine wp_region_M (fun wx : World => Below W.heap.size W wx) (fun j => decide (j < 10)) 15 rfl (by kernel_rfl) ?_
  refine wpM_held 0 (v := ?_) rfl (by kernel_rfl) (by kernel_rfl) rfl (fun _ _ _ h => h) rfl (by intro wx hx; go_simp <;> rfl) hS0 ?_
  refine wpM_held 1 (v := ?_) rfl (by kernel_rfl) (by kernel_rfl) rfl (fun _ _ _ h => h) rfl (by intro wx hx; go_simp <;> rfl) hS0 ?_
  refine wpM_held 2 (v := .pointer (some ⟨G, 0, none⟩)) rfl (by kernel_rfl) (by kernel_rfl) rfl (fun _ _ _ h => h) rfl (by intro wx hx; go_simp <;> rfl) hS0 ?_
  refine wpM_held 3 (v := .agg #[y0, y1, y2, y3]) rfl (by kernel_rfl) (by kernel_rfl) rfl (fun _ _ _ h => h) rfl (by intro wx hx; obtain ⟨g0, g1, g2, g3, g4, g5, g6, g7⟩ := (hR.below hx hR.lt).eight; go_simp <;> rfl) hS0 ?_
  refine wpM_held 4 (v := ?_) rfl (by kernel_rfl) (by kernel_rfl) rfl (fun _ _ _ h => h) rfl (by intro wx hx; go_simp <;> rfl) hS0 ?_
  refine wpM_held 5 (v := .pointer (some ⟨G, 4, none⟩)) rfl (by kernel_rfl) (by kernel_rfl) rfl (fun _ _ _ h => h) rfl (by intro wx hx; go_simp <;> rfl) hS0 ?_
  refine wpM_held 6 (v := .agg #[z0, z1, z2, z3]) rfl (by kernel_rfl) (by kernel_rfl) rfl (fun _ _ _ h => h) rfl (by intro wx hx; obtain ⟨g0, g1, g2, g3, g4, g5, g6, g7⟩ := (hR.below hx hR.lt).eight; go_simp <;> rfl) hS0 ?_
  refine wpM_one 7 rfl (by kernel_rfl) rfl ?_
  go_wp2_with fail
  refine (hw _).mono ?_
  rintro _ w1 ⟨⟨x, t, rfl, x1, x2, x3, x4⟩, h1⟩
  have hS1 := hS0.trans h1
  have hTD := told_any x t x1 x3 x2
  rw [show (if t = true then tellW x.neg x.n x.e else none) = toldW o by rw [x4]; cases t <;> rfl] at hTD
  rw [HDV.out] at hTD
  obtain ⟨d0, d1, d2, d3, hxv⟩ := val_agg x
  rw [hxv] at hTD ⊢
  clear h1 hw x1 x2 x3 x4 hxv
  go_wp2_with fail
  refine ⟨fun _ => hS1, ?_⟩
  refine wpM_held 8 (v := ?_) rfl (by kernel_rfl) (by kernel_rfl) rfl (fun _ _ _ h => h) rfl (by intro wx hx; go_simp <;> rfl) hS1 ?_
  refine wpM_held 9 (v := ?_) rfl (by kernel_rfl) (by kernel_rfl) rfl (fun _ _ _ h => h) rfl (by intro wx hx; go_simp <;> rfl) hS1 ?_
  refine wpM_one 10 rfl (by kernel_rfl) rfl ?_
  go_wp2_with fail
  refine (hTD _).mono ?_
  rintro _ w2 ⟨rfl, h2⟩
  have hS2 := hS1.trans (h2.mono hS1.size)
  have hZ2 := hZ.below hS2 hZ.lt
  have hB2 := hB.trans (hS2.mono hB.size)
  clear h2 hTD
  go_wp2_with fail
  refine ⟨(fun h => by simp at h), ?_⟩
  refine wpM_free 11 (v := ?_) rfl (by kernel_rfl) (by kernel_rfl) rfl (fun _ _ _ h => h) rfl (by intro wx; go_simp <;> rfl) ?_
  refine wpM_free 12 (v := ?_) rfl (by kernel_rfl) (by kernel_rfl) rfl (fun _ _ _ h => h) rfl (by intro wx; go_simp <;> rfl) ?_
  obtain ⟨g0, g1⟩ := hZ2.duo
  have z := hZ2.frozen
  refine wpM_one 13 rfl (by kernel_rfl) rfl ?_
  go_wp2_with fail
  refine ⟨(fun h => by simp at h), ?_⟩
  refine wpM_one 14 rfl (by kernel_rfl) rfl ?_
  go_wp2_with fail
  refine ⟨(fun h => by simp at h), ?_⟩
  refine wpM_done (by kernel_rfl) ?_
  go_wp2
  refine bodyPost_ret (v := .tuple #[.agg #[.int .i64 p, .int .i64 q], .int .i64 v]) (ret_two rfl (g := w.heap.size + 2) rfl rfl (load23 (Row.set2 hZ2 _ _) rfl)) rfl ⟨rfl, ?_⟩
  repeat (refine below_set ?_ _ _ (by omega))
  exact hB2
end Go.Proofs.YtfbhonjndepjbaaDoor
/- divisor, quotient. -/
namespace Go.Proofs.YtfbhonjndepjbaaDoor
open Go.RowKit

set_option maxRecDepth 100000 in
set_option maxHeartbeats 400000 in
theorem divisor_any (a b : Nat) (ha : a < 18446744073709551616) (hb : b < 18446744073709551616) (w : World) : Calls Tryd.prog 85 #[.int .u64 a, .int .u64 b] w fun r w' => r = .returned (.int .u64 (Nat.gcd a b : Int)) ∧ w' = w := by
  go_enter Tryd.func85, Tryd.ntmps85
  go_wp2
  go_loop [0, 1] (fun x y => ∃ p q : Nat, x = .int .u64 p ∧ y = .int .u64 q ∧ p < 18446744073709551616 ∧ q < 18446744073709551616 ∧ Hid (Nat.gcd p q = Nat.gcd a b)) (fun x _ => (intOf x).toNat)
  case atStart => exact ⟨a, b, rfl, rfl, ha, hb, rfl⟩
  case round =>
    obtain ⟨p, q, rfl, rfl, hp, hq, hg⟩ := hrel
    by_cases h0 : p = 0
    · subst h0
      go_wp2
      go_ret
      exact ⟨by rw [← hg.out, Nat.gcd_zero_left]; rfl, rfl⟩
    · have h1 : ((p : Int) != 0) = true := by simp; omega
      have h2 : ((p : Int) == 0) = false := by simp; omega
      obtain ⟨m, hm⟩ : ∃ m, q % p = m := ⟨_, rfl⟩
      have hlt : m < p := by rw [← hm]; exact Nat.mod_lt _ (by omega)
      have f1 : IntKind.u64.wrap ((q : Int).tmod (p : Int)) = (m : Int) := by
        rw [u64_wrap, Int.tmod_eq_emod_of_nonneg (by omega), ← hm, ← Int.natCast_emod]
        omega
      have HM : Hid (q % p = m) := hm
      clear hm h0
      go_wp2
      try rw [f1]
      go_round
      case rel => exact ⟨m, p, by first | rfl | (rw [← HM.out]; simp), rfl, by omega, hp, by show _ = _; rw [← HM.out, ← Nat.gcd_rec]; exact hg.out⟩
      case measure =>
        have := HM.out
        first
        | (simp only [intOf, Int.toNat_natCast]; omega)
        | (rw [← Int.natCast_emod, this]; simp only [intOf, Int.toNat_natCast]; omega)
def quotL (by' n : Nat) (e : Int) : Option (Nat × Int) :=
  if by' ≤ 1 then some (n, e)
  else if by' % 10 = 0 then quotL (by' / 10) n (e - 1)
  else if by' % 2 = 0 then (if n * 5 < M128 then quotL (by' / 2) (n * 5) (e - 1) else none)
  else if by' % 5 = 0 then (if n * 2 < M128 then quotL (by' / 5) (n * 2) (e - 1) else none)
  else none
  termination_by by'
  decreasing_by all_goals omega
def quotW (a b : Wd) : Option Wd := (quotL (b.n / Nat.gcd a.n b.n) (a.n / Nat.gcd a.n b.n) (a.e - b.e)).map fun p => ⟨a.neg != b.neg, p.1, p.2⟩
end Go.Proofs.YtfbhonjndepjbaaDoor
/- quotient. -/
namespace Go.Proofs.YtfbhonjndepjbaaDoor
open Go.RowKit

def quR (neg : Bool) (by0 n0 : Nat) (e0 : Int) (QB B2 : Nat) (w0 : World) (v7 v9 : Value) (wr : World) : Prop :=
  (∃ (by' n k : Nat), v7 = .int .u64 (by' : Int) ∧ v9 = .bool true ∧ 1 ≤ by' ∧ by' * 2 ^ k ≤ by0 ∧ n < M128 ∧ Hid (quotL by' n (e0 - k) = quotL by0 n0 e0) ∧ Row wr QB 59 (Wd.cells ⟨neg, n, e0 - k⟩) ∧ Row wr B2 59 zeroCells ∧ Below w0.heap.size w0 wr) ∨
  (∃ by' : Nat, v7 = .int .u64 (by' : Int) ∧ v9 = .bool false ∧ quotL by0 n0 e0 = none ∧ Row wr QB 59 (Wd.cells ⟨false, 0, -1⟩) ∧ Row wr B2 59 zeroCells ∧ Below w0.heap.size w0 wr)
theorem pow_small {by' k by0 : Nat} (h1 : 1 ≤ by') (h : by' * 2 ^ k ≤ by0) (hb : by0 < 18446744073709551616) : k < 64 := by
  apply Nat.lt_of_not_le
  intro hk
  have h2 : 2 ^ 64 ≤ 2 ^ k := Nat.pow_le_pow_right (by omega) hk
  have h3 : 1 * 2 ^ k ≤ by' * 2 ^ k := Nat.mul_le_mul_right _ h1
  omega
theorem pow_step {by' k by0 d : Nat} (hd : 2 ≤ d) (h : by' * 2 ^ k ≤ by0) : by' / d * 2 ^ (k + 1) ≤ by0 := by
  have h1 : by' / d * 2 ≤ by' := Nat.le_trans (Nat.mul_le_mul_left _ hd) (Nat.div_mul_le_self _ _)
  have h2 : by' / d * 2 * 2 ^ k ≤ by' * 2 ^ k := Nat.mul_le_mul_right _ h1
  rw [Nat.pow_succ, Nat.mul_comm (2 ^ k) 2, ← Nat.mul_assoc]
  omega
set_option maxRecDepth 100000 in
set_option maxHeartbeats 1500000 in
theorem quot_raw (an bn : Bool) (ah al bh bl g b1 n1 : Nat) (ae be e1 : Int) (hd : ∀ w, Calls Tryd.prog 85 #[.int .u64 (al : Int), .int .u64 (bl : Int)] w fun r w' => r = .returned (.int .u64 (g : Int)) ∧ w' = w)
    (hg : g ≠ 0) (f1 : IntKind.u64.wrap ((bl : Int) / (g : Int)) = (b1 : Int)) (f2 : IntKind.u64.wrap ((al : Int) / (g : Int)) = (n1 : Int)) (f3 : IntKind.i64.wrap (ae - be) = e1) (hb1 : 1 ≤ b1) (hb2 : b1 < 18446744073709551616) (hn1 : n1 < 18446744073709551616)
    (he1 : -100000 ≤ e1 ∧ e1 ≤ 100000) (w : World) :
    Calls Tryd.prog 56 #[wv an ah al ae, wv bn bh bl be] w fun r w' => WayR ((quotL b1 n1 e1).map fun p => ⟨an != bn, p.1, p.2⟩) r ∧ Below w.heap.size w w' := by
  have hg0 : ((g : Int) == 0) = false := by simp; omega
  have hg1 : ¬ (g : Int) = 0 := by omega
  have hg2 : ¬ g = 0 := hg
  have F1 : Hid (IntKind.u64.wrap ((bl : Int) / (g : Int)) = (b1 : Int)) := f1
  have F2 : Hid (IntKind.u64.wrap ((al : Int) / (g : Int)) = (n1 : Int)) := f2
  have F3 : Hid (IntKind.i64.wrap (ae - be) = e1) := f3
  clear f1 f2 f3 hg
  unfold wv
  go_enter Tryd.func56, Tryd.ntmps56
  go_wp2_with fail
  refine (hd _).mono ?_
  rintro _ w1 ⟨rfl, hw1⟩
  rw [hw1]
  clear hw1 w1 hd
  obtain ⟨hA, hC, hZ, hB⟩ := three_rows w _ _ _ _ 59 59 59 (Below.refl _ (((w.alloc (.cells #[.bool an, .int .u64 (ah : Int), .int .u64 (al : Int), .int .i64 ae] 59)).alloc (.cells #[.bool bn, .int .u64 (bh : Int), .int .u64 (bl : Int), .int .i64 be] 59)).alloc (.cells #[.bool false, .int .u64 0, .int .u64 0, .int .i64 0] 59)))
  generalize (((w.alloc (.cells #[.bool an, .int .u64 (ah : Int), .int .u64 (al : Int), .int .i64 ae] 59)).alloc (.cells #[.bool bn, .int .u64 (bh : Int), .int .u64 (bl : Int), .int .i64 be] 59)).alloc (.cells #[.bool false, .int .u64 0, .int .u64 0, .int .i64 0] 59)) = W at *
  obtain ⟨a0, a1, a2, a3⟩ := hA.four
  obtain ⟨c0, c1, c2, c3⟩ := hC.four
  go_wp2_with fail
  rw [F1.out]
  have hS0 : Below W.heap.size W W.drew := (Below.refl _ W).drew
  refine wp_region_M (fun wx : World => Below W.heap.size W wx) (fun j => decide (j < 16)) 18 rfl (by kernel_rfl) ?_
  refine wpM_held 0 (v := ?_) rfl (by kernel_rfl) (by kernel_rfl) rfl (fun _ _ _ h => h) rfl (by intro wx hx; go_simp <;> rfl) hS0 ?_
  refine wpM_held 1 (v := .bool an) rfl (by kernel_rfl) (by kernel_rfl) rfl (fun _ _ _ h => h) rfl (by intro wx hx; obtain ⟨x0, x1, x2, x3⟩ := (hA.below hx hA.lt).four; go_simp <;> rfl) hS0 ?_
  refine wpM_held 2 (v := ?_) rfl (by kernel_rfl) (by kernel_rfl) rfl (fun _ _ _ h => h) rfl (by intro wx hx; go_simp <;> rfl) hS0 ?_
  refine wpM_held 3 (v := .bool bn) rfl (by kernel_rfl) (by kernel_rfl) rfl (fun _ _ _ h => h) rfl (by intro wx hx; obtain ⟨x0, x1, x2, x3⟩ := (hC.below hx hC.lt).four; go_simp <;> rfl) hS0 ?_
  refine wpM_held 4 (v := .bool (an != bn)) rfl (by kernel_rfl) (by kernel_rfl) rfl (fun _ _ _ h => h) rfl (by intro wx hx; go_simp <;> (cases an <;> cases bn <;> rfl)) hS0 ?_
  refine wpM_held 5 (v := ?_) rfl (by kernel_rfl) (by kernel_rfl) rfl (fun _ _ _ h => h) rfl (by intro wx hx; go_simp <;> rfl) hS0 ?_
  refine wpM_held 6 (v := .int .u64 (al : Int)) rfl (by kernel_rfl) (by kernel_rfl) rfl (fun _ _ _ h => h) rfl (by intro wx hx; obtain ⟨x0, x1, x2, x3⟩ := (hA.below hx hA.lt).four; go_simp <;> rfl) hS0 ?_
  refine wpM_held 7 (v := ?_) rfl (by kernel_rfl) (by kernel_rfl) rfl (fun _ _ _ h => h) rfl (by intro wx hx; go_simp <;> rfl) hS0 ?_
  refine wpM_held 8 (v := .int .u64 (n1 : Int)) rfl (by kernel_rfl) (by kernel_rfl) rfl (fun _ _ _ h => h) rfl (by intro wx hx; go_simp <;> exact F2.out) hS0 ?_
  refine wpM_held 9 (v := ?_) rfl (by kernel_rfl) (by kernel_rfl) rfl (fun _ _ _ h => h) rfl (by intro wx hx; go_simp <;> rfl) hS0 ?_
  refine wpM_held 10 (v := .int .i64 ae) rfl (by kernel_rfl) (by kernel_rfl) rfl (fun _ _ _ h => h) rfl (by intro wx hx; obtain ⟨x0, x1, x2, x3⟩ := (hA.below hx hA.lt).four; go_simp <;> rfl) hS0 ?_
  refine wpM_held 11 (v := ?_) rfl (by kernel_rfl) (by kernel_rfl) rfl (fun _ _ _ h => h) rfl (by intro wx hx; go_simp <;> rfl) hS0 ?_
  refine wpM_held 12 (v := .int .i64 be) rfl (by kernel_rfl) (by kernel_rfl) rfl (fun _ _ _ h => h) rfl (by intro wx hx; obtain ⟨x0, x1, x2, x3⟩ := (hC.below hx hC.lt).four; go_simp <;> rfl) hS0 ?_
  refine wpM_held 13 (v := .int .i64 e1) rfl (by kernel_rfl) (by kernel_rfl) rfl (fun _ _ _ h => h) rfl (by intro wx hx; go_simp <;> exact F3.out) hS0 ?_
  refine wpM_held 14 (v := ?_) rfl (by kernel_rfl) (by kernel_rfl) rfl (fun _ _ _ h => h) rfl (by intro wx hx; go_simp <;> rfl) hS0 ?_
  refine wpM_one 15 rfl (by kernel_rfl) rfl ?_
  go_wp2_with fail
  refine ⟨fun _ => by first | exact ((Below.refl _ W).drew).alloc (Nat.le_refl _) _ | exact ((Below.refl _ W).alloc (Nat.le_refl _) _).drew, ?_⟩
  refine wpM_one 16 rfl (by kernel_rfl) rfl ?_
  go_wp2_with fail
  refine ⟨(fun h => by simp at h), ?_⟩
  refine wpM_one 17 rfl (by kernel_rfl) rfl ?_
  go_wp2_with fail
  refine ⟨(fun h => by simp at h), ?_⟩
  refine wpM_done (by kernel_rfl) ?_
  go_wp2_with fail
  have hQ0 : Row (W.alloc (.cells #[.bool (an != bn), .int .u64 0, .int .u64 (n1 : Int), .int .i64 e1] 59)).drew W.heap.size 59 #[.bool (an != bn), .int .u64 0, .int .u64 (n1 : Int), .int .i64 e1] := Row.new W 59 _
  have hZ0 : Row (W.alloc (.cells #[.bool (an != bn), .int .u64 0, .int .u64 (n1 : Int), .int .i64 e1] 59)).drew (w.heap.size + 2) 59 zeroCells := hZ.alloc _
  have hB0 : Below w.heap.size w (W.alloc (.cells #[.bool (an != bn), .int .u64 0, .int .u64 (n1 : Int), .int .i64 e1] 59)).drew := (hB.alloc hB.size _).drew
  have hne : w.heap.size + 2 ≠ W.heap.size := Nat.ne_of_lt hZ.lt
  have hle : w.heap.size ≤ W.heap.size := hB.size
  clear a0 a1 a2 a3 c0 c1 c2 c3 hA hC hZ hB hS0 F1 F2 F3 hg0 hg1 hg2
  go_loopw [7, 9] (quR (an != bn) b1 n1 e1 W.heap.size (w.heap.size + 2) w) (fun v7 v9 _ => boolN v9 * (intOf v7).toNat)
  case atStart =>
    refine Or.inl ⟨b1, n1, 0, rfl, rfl, hb1, by simp, by unfold M128; omega, ?_, ?_, hZ0, hB0⟩
    · show _ = _; rw [show e1 - ((0 : Nat) : Int) = e1 by omega]
    · unfold Wd.cells
      simp only
      rw [show n1 / 18446744073709551616 = 0 by omega, show n1 % 18446744073709551616 = n1 by omega, show e1 - ((0 : Nat) : Int) = e1 by omega]
      exact hQ0
  case round =>
    clear hQ0 hZ0 hB0
    rcases hrel with ⟨by', n, k, rfl, rfl, hby1, hpw, hM, HQL, hQ, hZ, hB⟩ | ⟨by', rfl, rfl, hnone, hQ, hZ, hB⟩
    · have hk64 := pow_small hby1 hpw hb2
      have hby64 : by' < 18446744073709551616 := Nat.lt_of_le_of_lt (Nat.le_trans (Nat.le_mul_of_pos_right _ (Nat.pos_of_ne_zero (by simp [Nat.pow_eq_zero]))) hpw) hb2
      have HPW : Hid (by' * 2 ^ k ≤ b1) := hpw
      obtain ⟨e0, he0⟩ : ∃ e0, e1 - (k : Int) = e0 := ⟨_, rfl⟩
      have HE0 : Hid (e1 - (k : Int) = e0) := he0
      have be0 : -100100 ≤ e0 ∧ e0 ≤ 100100 := by omega
      unfold Wd.cells at hQ
      simp only at hQ
      obtain ⟨nh, hnh⟩ : ∃ q, n / 18446744073709551616 = q := ⟨_, rfl⟩
      obtain ⟨nl, hnl⟩ : ∃ q, n % 18446744073709551616 = q := ⟨_, rfl⟩
      rw [hnh, hnl, he0] at hQ
      obtain ⟨a0, a1, a2, a3⟩ := hQ.four
      obtain ⟨d0, d1, d2, d3⟩ := hZ.four
      have z0 := hQ.frozen; have z1 := hZ.frozen
      clear hpw he0 hk64
      by_cases hgt : 1 < by'
      · have t0 : (1 : Int) < (by' : Int) := by omega
        by_cases h10 : by' % 10 = 0
        · have HOK : Hid (1 < by' ∧ by' % 10 = 0 ∧ by' < 18446744073709551616) := ⟨hgt, h10, hby64⟩
          have t1 : ((by' : Int) % 10 == 0) = true := by simp; omega
          clear h10 hgt
          obtain ⟨by2, hby2⟩ : ∃ q, by' / 10 = q := ⟨_, rfl⟩
          have HBY : Hid (by' / 10 = by2) := hby2
          have HCA : Hid ((by' : Int) / 10 = (by2 : Int)) := by show _ = _; omega
          have HMM : Hid (n < M128) := hM
          clear hby2 hM
          go_wp2
          have hfin : Row (wr.setCell ⟨W.heap.size, 3, none⟩ (.int .i64 (e0 - 1))) W.heap.size 59 (Wd.cells ⟨an != bn, n, e1 - ((k + 1 : Nat) : Int)⟩) := by
            unfold Wd.cells
            simp only
            rw [hnh, hnl, show e1 - ((k + 1 : Nat) : Int) = e0 - 1 by have := HE0.out; omega]
            exact hQ.set 3 _
          refine ⟨Or.inl ⟨by2, n, k + 1, by rw [← HCA.out], rfl, ?_, ?_, HMM.out, ?_, hfin, ?_, ?_⟩, ?_⟩
          · have := HBY.out; have := HOK.out; omega
          · rw [← HBY.out]; exact pow_step (by omega) HPW.out
          · show _ = _
            rw [← HQL.out]
            have h2 := HOK.out
            rw [quotL.eq_def by', if_neg (by omega), if_pos (by omega), HBY.out, show e1 - ((k + 1 : Nat) : Int) = e1 - (k : Int) - 1 by omega]
          · exact hZ.off (B' := W.heap.size) _ _ hne
          · exact below_set hB _ _ hle
          · have := HBY.out
            have := HOK.out
            rw [HCA.out]
            simp only [boolN, intOf, Int.toNat_natCast]
            omega
        · by_cases h2 : by' % 2 = 0
          · have HOK : Hid (1 < by' ∧ ¬ by' % 10 = 0 ∧ by' % 2 = 0 ∧ by' < 18446744073709551616) := ⟨hgt, h10, h2, hby64⟩
            have t1 : ((by' : Int) % 10 == 0) = false := by simp; omega
            have t2 : ((by' : Int) % 2 == 0) = true := by simp; omega
            clear h10 h2 hgt
            have hTm := times_W ⟨an != bn, n, e0⟩ 5 hM (by omega)
            simp only [Wd.val_eq] at hTm
            unfold Wd.cells at hTm
            simp only at hTm
            rw [hnh, hnl] at hTm
            obtain ⟨by2, hby2⟩ : ∃ q, by' / 2 = q := ⟨_, rfl⟩
            have HBY : Hid (by' / 2 = by2) := hby2
            have hcast : (by' : Int) / 2 = (by2 : Int) := by omega
            have HCA : Hid ((by' : Int) / 2 = (by2 : Int)) := hcast
            clear hby2 hcast
            by_cases hfit : n * 5 < M128
            · simp only [if_pos hfit] at hTm
              unfold pairV at hTm
              simp only [Wd.val_eq] at hTm
              unfold Wd.cells at hTm
              simp only at hTm
              obtain ⟨H, hH⟩ : ∃ H, n * 5 / 18446744073709551616 = H := ⟨_, rfl⟩
              obtain ⟨L, hL⟩ : ∃ L, n * 5 % 18446744073709551616 = L := ⟨_, rfl⟩
              simp only [hH, hL] at hTm
              have hH' : Hid (n * 5 / 18446744073709551616 = H) := hH
              have hL' : Hid (n * 5 % 18446744073709551616 = L) := hL
              have HFT : Hid (n * 5 < M128) := hfit
              clear hH hL hfit hM hnh hnl
              go_wp2_with fail
              refine (hTm _).mono ?_
              rintro _ w2 ⟨rfl, hB3⟩
              have hQ2 := hQ.below hB3 hQ.lt
              have hZ2 := hZ.below hB3 hZ.lt
              have hB2 := hB.trans (hB3.mono hB.size)
              clear a0 a1 a2 a3 d0 d1 d2 d3 z0 z1 hTm hB3
              obtain ⟨g0, g1, g2, g3⟩ := hQ2.four
              have z2 := hQ2.frozen
              go_wp2
              have hfin : Row (((((w2.setCell ⟨W.heap.size, 0, none⟩ (.bool (an != bn))).setCell ⟨W.heap.size, 1, none⟩ (.int .u64 (H : Int))).setCell ⟨W.heap.size, 2, none⟩ (.int .u64 (L : Int))).setCell ⟨W.heap.size, 3, none⟩ (.int .i64 e0)).setCell ⟨W.heap.size, 3, none⟩ (.int .i64 (e0 - 1))) W.heap.size 59 (Wd.cells ⟨an != bn, n * 5, e1 - ((k + 1 : Nat) : Int)⟩) := by
                unfold Wd.cells
                simp only
                rw [hH'.out, hL'.out, show e1 - ((k + 1 : Nat) : Int) = e0 - 1 by have := HE0.out; omega]
                exact (hQ2.set4 _ _ _ _).set 3 _
              refine ⟨Or.inl ⟨by2, n * 5, k + 1, by rw [← HCA.out], rfl, ?_, ?_, HFT.out, ?_, hfin, ?_, ?_⟩, ?_⟩
              · have := HBY.out; have := HOK.out; omega
              · rw [← HBY.out]; exact pow_step (by omega) HPW.out
              · show _ = _
                rw [← HQL.out]
                have h2 := HOK.out
                rw [quotL.eq_def by']
                rw [if_neg (by omega), if_neg (by omega), if_pos (by omega), if_pos HFT.out, HBY.out, show e1 - ((k + 1 : Nat) : Int) = e1 - (k : Int) - 1 by omega]
              · exact ((((hZ2.off (B' := W.heap.size) _ _ hne).off (B' := W.heap.size) _ _ hne).off (B' := W.heap.size) _ _ hne).off (B' := W.heap.size) _ _ hne).off (B' := W.heap.size) _ _ hne
              · repeat (refine below_set ?_ _ _ hle)
                exact hB2
              · have := HBY.out
                have := HOK.out
                rw [HCA.out]
                simp only [boolN, intOf, Int.toNat_natCast]
                omega
            · simp only [if_neg hfit] at hTm
              unfold pairV at hTm
              simp only [wv] at hTm
              have HFT : Hid (¬ n * 5 < M128) := hfit
              clear hfit hM hnh hnl
              go_wp2_with fail
              refine (hTm _).mono ?_
              rintro _ w2 ⟨rfl, hB3⟩
              have hQ2 := hQ.below hB3 hQ.lt
              have hZ2 := hZ.below hB3 hZ.lt
              have hB2 := hB.trans (hB3.mono hB.size)
              clear a0 a1 a2 a3 d0 d1 d2 d3 z0 z1 hTm hB3
              obtain ⟨g0, g1, g2, g3⟩ := hQ2.four
              have z2 := hQ2.frozen
              go_wp2
              have hfin : Row (((((w2.setCell ⟨W.heap.size, 0, none⟩ (.bool false)).setCell ⟨W.heap.size, 1, none⟩ (.int .u64 0)).setCell ⟨W.heap.size, 2, none⟩ (.int .u64 0)).setCell ⟨W.heap.size, 3, none⟩ (.int .i64 0)).setCell ⟨W.heap.size, 3, none⟩ (.int .i64 (-1))) W.heap.size 59 (Wd.cells ⟨false, 0, -1⟩) := (hQ2.set4 _ _ _ _).set 3 _
              refine ⟨Or.inr ⟨by2, by rw [← HCA.out], rfl, ?_, hfin, ?_, ?_⟩, ?_⟩
              · rw [← HQL.out]
                have h2 := HOK.out
                rw [quotL.eq_def by']
                rw [if_neg (by omega), if_neg (by omega), if_pos (by omega), if_neg HFT.out]
              · exact ((((hZ2.off (B' := W.heap.size) _ _ hne).off (B' := W.heap.size) _ _ hne).off (B' := W.heap.size) _ _ hne).off (B' := W.heap.size) _ _ hne).off (B' := W.heap.size) _ _ hne
              · repeat (refine below_set ?_ _ _ hle)
                exact hB2
              · have := HOK.out
                simp only [boolN, intOf, Int.toNat_natCast]
                omega
          · by_cases h5 : by' % 5 = 0
            · have HOK : Hid (1 < by' ∧ ¬ by' % 10 = 0 ∧ ¬ by' % 2 = 0 ∧ by' % 5 = 0 ∧ by' < 18446744073709551616) := ⟨hgt, h10, h2, h5, hby64⟩
              have t1 : ((by' : Int) % 10 == 0) = false := by simp; omega
              have t2 : ((by' : Int) % 2 == 0) = false := by simp; omega
              have t3 : ((by' : Int) % 5 == 0) = true := by simp; omega
              clear h10 h2 h5 hgt
              have hTm := times_W ⟨an != bn, n, e0⟩ 2 hM (by omega)
              simp only [Wd.val_eq] at hTm
              unfold Wd.cells at hTm
              simp only at hTm
              rw [hnh, hnl] at hTm
              obtain ⟨by2, hby2⟩ : ∃ q, by' / 5 = q := ⟨_, rfl⟩
              have HBY : Hid (by' / 5 = by2) := hby2
              have hcast : (by' : Int) / 5 = (by2 : Int) := by omega
              have HCA : Hid ((by' : Int) / 5 = (by2 : Int)) := hcast
              clear hby2 hcast
              by_cases hfit : n * 2 < M128
              · simp only [if_pos hfit] at hTm
                unfold pairV at hTm
                simp only [Wd.val_eq] at hTm
                unfold Wd.cells at hTm
                simp only at hTm
                obtain ⟨H, hH⟩ : ∃ H, n * 2 / 18446744073709551616 = H := ⟨_, rfl⟩
                obtain ⟨L, hL⟩ : ∃ L, n * 2 % 18446744073709551616 = L := ⟨_, rfl⟩
                simp only [hH, hL] at hTm
                have hH' : Hid (n * 2 / 18446744073709551616 = H) := hH
                have hL' : Hid (n * 2 % 18446744073709551616 = L) := hL
                have HFT : Hid (n * 2 < M128) := hfit
                clear hH hL hfit hM hnh hnl
                go_wp2_with fail
                refine (hTm _).mono ?_
                rintro _ w2 ⟨rfl, hB3⟩
                have hQ2 := hQ.below hB3 hQ.lt
                have hZ2 := hZ.below hB3 hZ.lt
                have hB2 := hB.trans (hB3.mono hB.size)
                clear a0 a1 a2 a3 d0 d1 d2 d3 z0 z1 hTm hB3
                obtain ⟨g0, g1, g2, g3⟩ := hQ2.four
                have z2 := hQ2.frozen
                go_wp2
                have hfin : Row (((((w2.setCell ⟨W.heap.size, 0, none⟩ (.bool (an != bn))).setCell ⟨W.heap.size, 1, none⟩ (.int .u64 (H : Int))).setCell ⟨W.heap.size, 2, none⟩ (.int .u64 (L : Int))).setCell ⟨W.heap.size, 3, none⟩ (.int .i64 e0)).setCell ⟨W.heap.size, 3, none⟩ (.int .i64 (e0 - 1))) W.heap.size 59 (Wd.cells ⟨an != bn, n * 2, e1 - ((k + 1 : Nat) : Int)⟩) := by
                  unfold Wd.cells
                  simp only
                  rw [hH'.out, hL'.out, show e1 - ((k + 1 : Nat) : Int) = e0 - 1 by have := HE0.out; omega]
                  exact (hQ2.set4 _ _ _ _).set 3 _
                refine ⟨Or.inl ⟨by2, n * 2, k + 1, by rw [← HCA.out], rfl, ?_, ?_, HFT.out, ?_, hfin, ?_, ?_⟩, ?_⟩
                · have := HBY.out; have := HOK.out; omega
                · rw [← HBY.out]; exact pow_step (by omega) HPW.out
                · show _ = _
                  rw [← HQL.out]
                  have h2 := HOK.out
                  rw [quotL.eq_def by']
                  rw [if_neg (by omega), if_neg (by omega), if_neg (by omega), if_pos (by omega), if_pos HFT.out, HBY.out, show e1 - ((k + 1 : Nat) : Int) = e1 - (k : Int) - 1 by omega]
                · exact ((((hZ2.off (B' := W.heap.size) _ _ hne).off (B' := W.heap.size) _ _ hne).off (B' := W.heap.size) _ _ hne).off (B' := W.heap.size) _ _ hne).off (B' := W.heap.size) _ _ hne
                · repeat (refine below_set ?_ _ _ hle)
                  exact hB2
                · have := HBY.out
                  have := HOK.out
                  rw [HCA.out]
                  simp only [boolN, intOf, Int.toNat_natCast]
                  omega
              · simp only [if_neg hfit] at hTm
                unfold pairV at hTm
                simp only [wv] at hTm
                have HFT : Hid (¬ n * 2 < M128) := hfit
                clear hfit hM hnh hnl
                go_wp2_with fail
                refine (hTm _).mono ?_
                rintro _ w2 ⟨rfl, hB3⟩
                have hQ2 := hQ.below hB3 hQ.lt
                have hZ2 := hZ.below hB3 hZ.lt
                have hB2 := hB.trans (hB3.mono hB.size)
                clear a0 a1 a2 a3 d0 d1 d2 d3 z0 z1 hTm hB3
                obtain ⟨g0, g1, g2, g3⟩ := hQ2.four
                have z2 := hQ2.frozen
                go_wp2
                have hfin : Row (((((w2.setCell ⟨W.heap.size, 0, none⟩ (.bool false)).setCell ⟨W.heap.size, 1, none⟩ (.int .u64 0)).setCell ⟨W.heap.size, 2, none⟩ (.int .u64 0)).setCell ⟨W.heap.size, 3, none⟩ (.int .i64 0)).setCell ⟨W.heap.size, 3, none⟩ (.int .i64 (-1))) W.heap.size 59 (Wd.cells ⟨false, 0, -1⟩) := (hQ2.set4 _ _ _ _).set 3 _
                refine ⟨Or.inr ⟨by2, by rw [← HCA.out], rfl, ?_, hfin, ?_, ?_⟩, ?_⟩
                · rw [← HQL.out]
                  have h2 := HOK.out
                  rw [quotL.eq_def by']
                  rw [if_neg (by omega), if_neg (by omega), if_neg (by omega), if_pos (by omega), if_neg HFT.out]
                · exact ((((hZ2.off (B' := W.heap.size) _ _ hne).off (B' := W.heap.size) _ _ hne).off (B' := W.heap.size) _ _ hne).off (B' := W.heap.size) _ _ hne).off (B' := W.heap.size) _ _ hne
                · repeat (refine below_set ?_ _ _ hle)
                  exact hB2
                · have := HOK.out
                  simp only [boolN, intOf, Int.toNat_natCast]
                  omega
            · have HOK : Hid (1 < by' ∧ ¬ by' % 10 = 0 ∧ ¬ by' % 2 = 0 ∧ ¬ by' % 5 = 0) := ⟨hgt, h10, h2, h5⟩
              have t1 : ((by' : Int) % 10 == 0) = false := by simp; omega
              have t2 : ((by' : Int) % 2 == 0) = false := by simp; omega
              have t3 : ((by' : Int) % 5 == 0) = false := by simp; omega
              clear h10 h2 h5 hgt
              clear hM hnh hnl
              go_wp2
              refine bodyPost_ret (ret_two rfl (g := w.heap.size + 2) rfl rfl (load57 (Row.set4 hZ _ _ _ _) rfl)) rfl ⟨?_, ?_⟩
              · have : quotL b1 n1 e1 = none := by
                  rw [← HQL.out]
                  have h2 := HOK.out
                  rw [quotL.eq_def by', if_neg (by omega), if_neg (by omega), if_neg (by omega), if_neg (by omega)]
                rw [this]
                exact ⟨⟨false, 0, 0⟩, false, rfl, by decide, by decide, by decide, rfl⟩
              · exact below_set4 hB (by omega) _ _ _ _
      · have t0 : ¬ (1 : Int) < (by' : Int) := by omega
        have HOK : Hid (by' ≤ 1) := by show _ ≤ _; omega
        have HMM : Hid (n < M128) := hM
        clear hgt
        clear hM
        go_wp2
        refine bodyPost_ret (ret_two rfl (g := w.heap.size + 2) rfl rfl (load57 (Row.set4 hZ _ _ _ _) rfl)) rfl ⟨?_, ?_⟩
        · have : quotL b1 n1 e1 = some (n, e1 - (k : Int)) := by
            rw [← HQL.out, quotL.eq_def by', if_pos HOK.out]
          rw [this]
          refine ⟨⟨an != bn, n, e1 - (k : Int)⟩, true, ?_, HMM.out, ?_, ?_, rfl⟩
          · rw [Wd.val_eq]; unfold Wd.cells; simp only; rw [hnh, hnl, HE0.out]; rfl
          · have := HE0.out; simp only; omega
          · have := HE0.out; simp only; omega
        · exact below_set4 hB (by omega) _ _ _ _
    · obtain ⟨a0, a1, a2, a3⟩ := hQ.four
      obtain ⟨d0, d1, d2, d3⟩ := hZ.four
      have z0 := hQ.frozen; have z1 := hZ.frozen
      have HNN : Hid (quotL b1 n1 e1 = none) := hnone
      clear hnone
      by_cases hgt : (1 : Int) < (by' : Int)
      · go_wp2
        refine bodyPost_ret (ret_two rfl (g := w.heap.size + 2) rfl rfl (load57 (Row.set4 hZ _ _ _ _) rfl)) rfl ⟨?_, ?_⟩
        · rw [HNN.out]
          exact ⟨⟨false, 0, -1⟩, false, rfl, by decide, by decide, by decide, rfl⟩
        · exact below_set4 hB (by omega) _ _ _ _
      · go_wp2
        refine bodyPost_ret (ret_two rfl (g := w.heap.size + 2) rfl rfl (load57 (Row.set4 hZ _ _ _ _) rfl)) rfl ⟨?_, ?_⟩
        · rw [HNN.out]
          exact ⟨⟨false, 0, -1⟩, false, rfl, by decide, by decide, by decide, rfl⟩
        · exact below_set4 hB (by omega) _ _ _ _
end Go.Proofs.YtfbhonjndepjbaaDoor
