import Derived.Test.YtfbhonjndepjbaaDoorWop
/- restOf and remainder, where both numbers have one exponent, as the chapter's example has them. -/
namespace Go.Proofs.YtfbhonjndepjbaaDoor
open Go.RowKit

set_option maxRecDepth 100000 in
set_option maxHeartbeats 400000 in
theorem restOf_eq (an bn : Bool) (ah bh x y r : Nat) (e : Int) (hy : y ≠ 0) (f1 : x % y = r) (hx : x < 18446744073709551616) (hy2 : y < 18446744073709551616) (w : World) :
    Calls Tryd.prog 87 #[wv an ah x e, wv bn bh y e] w fun q w' => q = .returned (wv an 0 r e) ∧ Below w.heap.size w w' := by
  have hy0 : ((y : Int) == 0) = false := by simp; omega
  have hy1 : ¬ (y : Int) = 0 := by omega
  have F1 : Hid ((x : Int) % (y : Int) = (r : Int)) := by show _ = _; rw [← f1, Int.natCast_emod]
  have F2 : Hid (IntKind.u64.wrap ((x : Int) % (y : Int)) = (r : Int)) := by
    show _ = _
    have : r < y := by rw [← f1]; exact Nat.mod_lt _ (by omega)
    rw [F1.out, u64_wrap]; omega
  clear f1
  unfold wv
  go_enter Tryd.func87, Tryd.ntmps87
  go_wp2_with fail
  refine wp_loop_once ?_
  go_wp2
  first | rw [F2.out] | rw [F1.out] | skip
  refine bodyPost_ret (ret_one rfl (g := w.heap.size + 2) rfl (load57 (three_rows w _ _ _ _ 59 59 59 (Below.refl _ _)).2.2.1 rfl)) rfl ⟨rfl, ?_⟩
  exact (((Below.refl _ w).alloc (Nat.le_refl _) _).alloc (by simp) _).alloc (by simp; omega) _
set_option maxRecDepth 100000 in
set_option maxHeartbeats 800000 in
theorem remainder_ex (w : World) : Calls Tryd.prog 60 #[wv true 0 7 0, wv false 0 3 0] w fun q w' => WayR (some ⟨false, 2, 0⟩) q ∧ Below w.heap.size w w' := by
  have hl : ∀ w, Calls Tryd.prog 71 #[wv false 0 3 0, .int .i64 0] w fun r w' => r = .returned (.tuple #[wv false 0 3 0, .bool true]) ∧ Below w.heap.size w w' := fun w => lowered_any ⟨false, 3, 0⟩ 0 (by decide) (by decide) (by decide) (by decide) w
  have hr : ∀ w, Calls Tryd.prog 87 #[wv true 0 7 0, wv false 0 3 0] w fun q w' => q = .returned (wv true 0 1 0) ∧ Below w.heap.size w w' := fun w => restOf_eq true false 0 0 7 3 1 0 (by decide) rfl (by decide) (by decide) w
  have hz : ∀ w, Calls Tryd.prog 61 #[wv true 0 1 0] w fun q w' => q = .returned (.bool false) ∧ Below w.heap.size w w' := fun w => zero_W ⟨true, 1, 0⟩ w
  have hs : ∀ w, Calls Tryd.prog 43 #[wv true 0 1 0, wv false 0 3 0] w fun q w' => WayR (some ⟨false, 2, 0⟩) q ∧ Below w.heap.size w w' := fun w => sum_any ⟨true, 1, 0⟩ ⟨false, 3, 0⟩ (by decide) (by decide) ⟨by decide, by decide⟩ ⟨by decide, by decide⟩ w
  unfold wv at *
  simp only [show ((0 : Nat) : Int) = 0 from rfl, show ((1 : Nat) : Int) = 1 from rfl, show ((3 : Nat) : Int) = 3 from rfl, show ((7 : Nat) : Int) = 7 from rfl] at *
  go_enter Tryd.func60, Tryd.ntmps60
  go_wp2_with fail
  refine (hl _).mono ?_
  rintro _ w1 ⟨rfl, h1⟩
  obtain ⟨hA, hC, hZ, hB⟩ := three_rows w w1 _ _ _ _ _ _ h1
  obtain ⟨a0, a1, a2, a3⟩ := hA.four
  obtain ⟨b0, b1, b2, b3⟩ := hC.four
  obtain ⟨d0, d1, d2, d3⟩ := hZ.four
  clear h1 hl
  have l2 : w.heap.size + 2 < w1.heap.size := hZ.lt
  have l1 : w.heap.size + 1 < w1.heap.size := by omega
  have l0 : w.heap.size < w1.heap.size := by omega
  have m2 : w.heap.size + 2 < w1.heap.size + 1 := by omega
  have m1 : w.heap.size + 1 < w1.heap.size + 1 := by omega
  have m0 : w.heap.size < w1.heap.size + 1 := by omega
  have hA := (hA.alloc (.cells #[.bool false, .int .u64 0, .int .u64 3, .int .i64 0] 59)).alloc (.cells #[.bool true, .int .u64 0, .int .u64 7, .int .i64 0] 59)
  have hC := (hC.alloc (.cells #[.bool false, .int .u64 0, .int .u64 3, .int .i64 0] 59)).alloc (.cells #[.bool true, .int .u64 0, .int .u64 7, .int .i64 0] 59)
  have hZ := (hZ.alloc (.cells #[.bool false, .int .u64 0, .int .u64 3, .int .i64 0] 59)).alloc (.cells #[.bool true, .int .u64 0, .int .u64 7, .int .i64 0] 59)
  have hY := (Row.new w1 59 #[.bool false, .int .u64 0, .int .u64 3, .int .i64 0]).alloc (.cells #[.bool true, .int .u64 0, .int .u64 7, .int .i64 0] 59)
  have hS := Row.new1 w1 (.cells #[.bool false, .int .u64 0, .int .u64 3, .int .i64 0] 59) 59 #[.bool true, .int .u64 0, .int .u64 7, .int .i64 0]
  have hB := (hB.alloc (by omega) (.cells #[.bool false, .int .u64 0, .int .u64 3, .int .i64 0] 59)).alloc (by simp; omega) (.cells #[.bool true, .int .u64 0, .int .u64 7, .int .i64 0] 59)
  go_wp2_with fail
  refine (hr _).mono ?_
  rintro _ w2 ⟨rfl, h2⟩
  have hA := hA.below h2 hA.lt
  have hC := hC.below h2 hC.lt
  have hZ := hZ.below h2 hZ.lt
  have hY := hY.below h2 hY.lt
  have hS := hS.below h2 hS.lt
  have hB := hB.trans (h2.mono hB.size)
  clear h2 hr a0 a1 a2 a3 b0 b1 b2 b3 d0 d1 d2 d3
  obtain ⟨s0, s1, s2, s3⟩ := hS.four
  have zs := hS.frozen
  have hA := hA.off4 (B' := w1.heap.size + 1) (by omega) (.bool true) (.int .u64 0) (.int .u64 1) (.int .i64 0)
  have hC := hC.off4 (B' := w1.heap.size + 1) (by omega) (.bool true) (.int .u64 0) (.int .u64 1) (.int .i64 0)
  have hZ := hZ.off4 (B' := w1.heap.size + 1) (by omega) (.bool true) (.int .u64 0) (.int .u64 1) (.int .i64 0)
  have hY := hY.off4 (B' := w1.heap.size + 1) (by omega) (.bool true) (.int .u64 0) (.int .u64 1) (.int .i64 0)
  have hS := hS.set4 (.bool true) (.int .u64 0) (.int .u64 1) (.int .i64 0)
  have hB := below_set4 hB (B' := w1.heap.size + 1) (by omega) (.bool true) (.int .u64 0) (.int .u64 1) (.int .i64 0)
  go_wp2_with fail
  refine (hz _).mono ?_
  rintro _ w3 ⟨rfl, h3⟩
  have hA := hA.below h3 hA.lt
  have hC := hC.below h3 hC.lt
  have hZ := hZ.below h3 hZ.lt
  have hY := hY.below h3 hY.lt
  have hS := hS.below h3 hS.lt
  have hB := hB.trans (h3.mono hB.size)
  clear h3 hz s0 s1 s2 s3 zs
  obtain ⟨a0, a1, a2, a3⟩ := hA.four
  obtain ⟨b0, b1, b2, b3⟩ := hC.four
  obtain ⟨s0, s1, s2, s3⟩ := hS.four
  obtain ⟨y0, y1, y2, y3⟩ := hY.four
  go_wp2_with fail
  refine (hs _).mono ?_
  rintro _ w4 ⟨⟨x, t, rfl, x1, x2, x3, x4⟩, h4⟩
  have hZ := hZ.below h4 hZ.lt
  have hB := hB.trans (h4.mono hB.size)
  clear h4 hs a0 a1 a2 a3 b0 b1 b2 b3 s0 s1 s2 s3 y0 y1 y2 y3
  obtain ⟨g0, g1, g2, g3, hxv⟩ := val_agg x
  have HR : Hid (WayR (some ⟨false, 2, 0⟩) (.returned (.tuple #[.agg #[.bool g0, .int .u64 g1, .int .u64 g2, .int .i64 g3], .bool t]))) := ⟨x, t, by rw [hxv], x1, x2, x3, x4⟩
  rw [hxv]
  clear x1 x2 x3 x4 hxv
  obtain ⟨d0, d1, d2, d3⟩ := hZ.four
  have z := hZ.frozen
  go_wp2
  refine bodyPost_ret (v := .tuple #[.agg #[.bool g0, .int .u64 g1, .int .u64 g2, .int .i64 g3], .bool t]) (ret_two rfl (g := w.heap.size + 2) rfl rfl (load57 (Row.set4 hZ _ _ _ _) rfl)) rfl ⟨HR.out, ?_⟩
  exact below_set4 hB (by omega) _ _ _ _
theorem mod_ex (w : World) : Calls Tryd.prog 20 #[dv (-7) 0, dv 3 0] w fun r w' => r = .returned (.tuple #[dv 2 0, .int .i64 0]) ∧ Below w.heap.size w w' := by
  refine op_20 (-7) 0 3 0 2 0 0 (fun w => ?_) w
  have h1 : decW (-7) 0 = ⟨true, 7, 0⟩ := by
    unfold decW shortW numW; rw [if_neg (by decide), show ((-7 : Int)).natAbs = 7 from rfl, strip_fix 7 0 (by decide)]; rfl
  have h2 : decW 3 0 = ⟨false, 3, 0⟩ := by
    unfold decW shortW numW; rw [if_neg (by decide), show ((3 : Int)).natAbs = 3 from rfl, strip_fix 3 0 (by decide)]; rfl
  have := divided_ok51 (-7) 0 3 0 (some ⟨false, 2, 0⟩) ⟨by decide, by decide⟩ ⟨by decide, by decide⟩ ⟨by decide, by decide⟩ ⟨by decide, by decide⟩ (by rw [h2]; decide) (fun w => by rw [h1, h2]; exact remainder_ex w) w
  refine this.mono ?_
  rintro r w' ⟨rfl, hB⟩
  refine ⟨?_, hB⟩
  have : toldW (some ⟨false, 2, 0⟩) = some (2, 0) := by
    show tellW false 2 0 = _
    unfold tellW; rw [if_neg (by decide), strip_fix 2 0 (by decide)]; rfl
  rw [this]; rfl
end Go.Proofs.YtfbhonjndepjbaaDoor
