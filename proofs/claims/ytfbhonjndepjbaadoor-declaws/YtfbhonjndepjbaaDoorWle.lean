/- less: a number less another one. -/
import Derived.Test.YtfbhonjndepjbaaDoorWsv
namespace Go.Proofs.YtfbhonjndepjbaaDoor
open Go.RowKit

theorem turned_W (x : Wd) (w : World) : Calls Tryd.prog 51 #[x.val] w fun r w' => r = .returned (turnW x).val ∧ Below w.heap.size w w' := turned_any x.neg _ _ x.e w
theorem val_agg (x : Wd) : ∃ a b c d, x.val = .agg #[.bool a, .int .u64 b, .int .u64 c, .int .i64 d] := ⟨_, _, _, _, rfl⟩
set_option maxRecDepth 100000 in
set_option maxHeartbeats 600000 in
theorem less_any (a b : Wd) (ha : a.n < M128) (hb : b.n < M128) (ea : EOk a) (eb : EOk b) (w : World) :
    Calls Tryd.prog 47 #[a.val, b.val] w fun r w' => WayR (sumW a (turnW b)) r ∧ Below w.heap.size w w' := by
  have k1 := turned_W b
  have k2 := sum_any a (turnW b) ha hb ea eb
  generalize sumW a (turnW b) = o at *
  obtain ⟨a0, a1, a2, a3, hav⟩ := val_agg a
  obtain ⟨b0, b1, b2, b3, hbv⟩ := val_agg b
  obtain ⟨c0, c1, c2, c3, hcv⟩ := val_agg (turnW b)
  rw [hav, hcv] at k2
  rw [hbv, hcv] at k1
  rw [hav, hbv]
  clear hav hbv hcv ha hb ea eb
  go_enter Tryd.func47, Tryd.ntmps47
  go_wp2_with fail
  obtain ⟨hA, hC, hZ, hB⟩ := three_rows w _ _ _ _ 59 59 59 (Below.refl _ (((w.alloc (.cells #[.bool a0, .int .u64 a1, .int .u64 a2, .int .i64 a3] 59)).alloc (.cells #[.bool b0, .int .u64 b1, .int .u64 b2, .int .i64 b3] 59)).alloc (.cells #[.bool false, .int .u64 0, .int .u64 0, .int .i64 0] 59)))
  generalize (((w.alloc (.cells #[.bool a0, .int .u64 a1, .int .u64 a2, .int .i64 a3] 59)).alloc (.cells #[.bool b0, .int .u64 b1, .int .u64 b2, .int .i64 b3] 59)).alloc (.cells #[.bool false, .int .u64 0, .int .u64 0, .int .i64 0] 59)) = W at *
  have hS0 : Below W.heap.size W W.drew := (Below.refl _ W).drew
  refine wp_region_M (fun wx : World => Below W.heap.size W wx) (fun j => decide (j < 4)) 8 rfl (by kernel_rfl) ?_
  refine wpM_held 0 (v := .agg #[.bool a0, .int .u64 a1, .int .u64 a2, .int .i64 a3]) rfl (by kernel_rfl) (by kernel_rfl) rfl (fun _ _ _ h => h) rfl (by intro wx hx; obtain ⟨g0, g1, g2, g3⟩ := (hA.below hx hA.lt).four; go_simp <;> rfl) hS0 ?_
  refine wpM_held 1 (v := .agg #[.bool b0, .int .u64 b1, .int .u64 b2, .int .i64 b3]) rfl (by kernel_rfl) (by kernel_rfl) rfl (fun _ _ _ h => h) rfl (by intro wx hx; obtain ⟨g0, g1, g2, g3⟩ := (hC.below hx hC.lt).four; go_simp <;> rfl) hS0 ?_
  refine wpM_one 2 rfl (by kernel_rfl) rfl ?_
  go_wp2_with fail
  refine (k1 _).mono ?_
  rintro _ w1 ⟨rfl, h1⟩
  have hS1 := hS0.trans h1
  clear h1 k1
  go_wp2_with fail
  refine ⟨fun _ => hS1, ?_⟩
  refine wpM_one 3 rfl (by kernel_rfl) rfl ?_
  go_wp2_with fail
  refine (k2 _).mono ?_
  rintro _ w2 ⟨⟨x, t, rfl, x1, x2, x3, x4⟩, h2⟩
  have hS2 := hS1.trans (h2.mono hS1.size)
  obtain ⟨d0, d1, d2, d3, hxv⟩ := val_agg x
  have HR : Hid (WayR o (.returned (.tuple #[.agg #[.bool d0, .int .u64 d1, .int .u64 d2, .int .i64 d3], .bool t]))) := ⟨x, t, by rw [hxv], x1, x2, x3, x4⟩
  rw [hxv]
  have hZ2 := hZ.below hS2 hZ.lt
  have hB2 := hB.trans (hS2.mono hB.size)
  clear h2 k2 x1 x2 x3 x4 hxv
  go_wp2_with fail
  refine ⟨fun _ => hS2, ?_⟩
  refine wpM_free 4 (v := ?_) rfl (by kernel_rfl) (by kernel_rfl) rfl (fun _ _ _ h => h) rfl (by intro wx; go_simp <;> rfl) ?_
  refine wpM_free 5 (v := ?_) rfl (by kernel_rfl) (by kernel_rfl) rfl (fun _ _ _ h => h) rfl (by intro wx; go_simp <;> rfl) ?_
  obtain ⟨g0, g1, g2, g3⟩ := hZ2.four
  have z := hZ2.frozen
  refine wpM_one 6 rfl (by kernel_rfl) rfl ?_
  go_wp2_with fail
  refine ⟨(fun h => by simp at h), ?_⟩
  refine wpM_one 7 rfl (by kernel_rfl) rfl ?_
  go_wp2_with fail
  refine ⟨(fun h => by simp at h), ?_⟩
  refine wpM_done (by kernel_rfl) ?_
  go_wp2
  refine bodyPost_ret (v := .tuple #[.agg #[.bool d0, .int .u64 d1, .int .u64 d2, .int .i64 d3], .bool t]) (ret_two rfl (g := w.heap.size + 2) rfl rfl (load57 (Row.set4 hZ2 _ _ _ _) rfl)) rfl ⟨HR.out, ?_⟩
  exact below_set4 hB2 (by omega) _ _ _ _
end Go.Proofs.YtfbhonjndepjbaaDoor
