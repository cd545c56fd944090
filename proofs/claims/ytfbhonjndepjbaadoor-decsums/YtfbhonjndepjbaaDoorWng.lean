import Derived.Test.YtfbhonjndepjbaaDoorWll
/- Neg. -/
namespace Go.Proofs.YtfbhonjndepjbaaDoor
open Go.RowKit

set_option maxRecDepth 100000 in
set_option maxHeartbeats 600000 in
theorem neg_ok (c e : Int) (hc : I64 c) (he : within e) (w : World) : Calls Tryd.prog 13 #[dv c e] w fun r w' => r = .returned (decV (tell (-V (-18) c e) (-18))) ∧ Below w.heap.size w w' := by
  have hT := fun K w (hK : Row w K 23 #[.int .i64 c, .int .i64 e]) => taken1 c e K w hc he hK
  obtain ⟨b1, b2, b3, b4⟩ := dec_bounds hc he
  have hs := turned_W (decW c e)
  have hTD := told_true (turnW (decW c e)) b2 b4.2 b4.1
  have hv : tellW (turnW (decW c e)).neg (turnW (decW c e)).n (turnW (decW c e)).e = tell (-V (-18) c e) (-18) := by
    rw [← tell_sc, sc_turn, show (turnW (decW c e)).e = (decW c e).e from rfl, ← tell_V (-18) _ _ (sh_dec c e he.1 he.2 hc.1 hc.2).lo, V_neg, VW_dec' c e he]
  rw [hv] at hTD
  obtain ⟨p, q, v, hdv⟩ := decV_form (tell (-V (-18) c e) (-18))
  rw [hdv] at hTD ⊢
  clear hdv hv b1 b2 b3 b4
  simp only [Wd.val_eq] at hs hTD
  obtain ⟨y0, y1, y2, y3, hy⟩ : ∃ y0 y1 y2 y3, (decW c e).cells = #[y0, y1, y2, y3] := ⟨_, _, _, _, rfl⟩
  obtain ⟨z0, z1, z2, z3, hz⟩ : ∃ y0 y1 y2 y3, (turnW (decW c e)).cells = #[y0, y1, y2, y3] := ⟨_, _, _, _, rfl⟩
  simp only [hy, hz] at hT hs hTD
  clear hy hz hc he
  unfold dv
  go_enter Tryd.func13, Tryd.ntmps13
  go_wp2_with fail
  obtain ⟨_, _, hK, _⟩ := three_rows w _ _ _ _ 23 23 23 (Below.refl _ (((w.alloc (.cells #[.int .i64 c, .int .i64 e] 23)).alloc (.cells #[.int .i64 0, .int .i64 0] 23)).alloc (.cells #[.int .i64 c, .int .i64 e] 23)))
  refine (hT _ _ hK).mono ?_
  rintro _ W ⟨h1, G, hG, rfl, hR⟩
  obtain ⟨_, hZ, _, hB⟩ := three_rows w W _ _ _ _ _ _ h1
  obtain ⟨x0, x1, x2, x3⟩ := hR.four
  clear h1 hG hK hT
  go_wp2_with fail
  refine (hs _).mono ?_
  rintro _ W2 ⟨rfl, h2⟩
  have hZ := hZ.below h2 hZ.lt
  have hB := hB.trans (h2.mono hB.size)
  clear h2 hs x0 x1 x2 x3
  go_wp2_with fail
  refine (hTD _).mono ?_
  rintro _ W3 ⟨rfl, h3⟩
  have hZ := hZ.below h3 hZ.lt
  have hB := hB.trans (h3.mono hB.size)
  obtain ⟨d0, d1⟩ := hZ.duo
  have z := hZ.frozen
  clear h3 hTD
  go_wp2
  refine bodyPost_ret (ret_two rfl (g := w.heap.size + 1) rfl rfl (load23 (Row.set2 hZ _ _) rfl)) rfl ⟨rfl, ?_⟩
  repeat (refine below_set ?_ _ _ (by omega))
  exact hB
set_option maxRecDepth 100000 in
set_option maxHeartbeats 400000 in
theorem neg_bad (c e : Int) (he : ¬ within e) (w : World) : Calls Tryd.prog 13 #[dv c e] w fun r w' => r = .returned argV ∧ Below w.heap.size w w' := by
  unfold argV dv
  go_enter Tryd.func13, Tryd.ntmps13
  go_wp2_with fail
  obtain ⟨_, _, hK, _⟩ := three_rows w _ _ _ _ 23 23 23 (Below.refl _ (((w.alloc (.cells #[.int .i64 c, .int .i64 e] 23)).alloc (.cells #[.int .i64 0, .int .i64 0] 23)).alloc (.cells #[.int .i64 c, .int .i64 e] 23)))
  refine (taken1_bad c e _ _ he hK).mono ?_
  rintro _ w1 ⟨h1, rfl⟩
  obtain ⟨_, hZ, _, hB⟩ := three_rows w w1 _ _ _ _ _ _ h1
  obtain ⟨d0, d1⟩ := hZ.duo
  have z := hZ.frozen
  clear h1
  go_wp2
  refine bodyPost_ret (ret_two rfl (g := w.heap.size + 1) rfl rfl (load23 (Row.set2 hZ _ _) rfl)) rfl ⟨rfl, ?_⟩
  repeat (refine below_set ?_ _ _ (by omega))
  exact hB
end Go.Proofs.YtfbhonjndepjbaaDoor
