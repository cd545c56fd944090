import Derived.Test.YtfbhonjndepjbaaDoorPinM
/- DecLooks' walk. -/
namespace Go.Proofs.YtfbhonjndepjbaaDoor
open Go.RowKit

set_option maxRecDepth 100000 in
set_option maxHeartbeats 1000000 in
theorem rint_bad (c e : Int) (hc : I64 c) (he : ¬ within e) (w : World) : Calls Tryd.prog 37 #[.agg #[.int .i64 c, .int .i64 e]] w fun r w' => r = .returned (.tuple #[.int .i64 0, .bool false]) ∧ Below w.heap.size w w' := by
  have HNU : ∀ V, Hid (Calls Tryd.prog 53 #[.agg #[.int .i64 c, .int .i64 e]] V _) := fun V => num_any c e hc V
  rw [decide_eq_false (show ¬ (-18 ≤ e ∧ e ≤ 18) from he)] at HNU
  have b0 := (Below.refl _ w).alloc (Nat.le_refl _) (.cells #[.int .i64 c, .int .i64 e] 23)
  clear hc he
  go_enter Tryd.func37, Tryd.ntmps37
  go_wp2_with fail
  generalize w.alloc (.cells #[.int .i64 c, .int .i64 e] 23) = W at *
  refine Calls.mono (HNU W).out ?_
  rintro _ w1 ⟨sv, rfl, hD, hN, b1⟩
  obtain ⟨_, a3, c3, rfl, _, _⟩ := id hD
  have hB1 := b0.trans (b1.mono b0.size)
  have hB2 : ∀ o, Below w.heap.size w (w1.alloc o) := fun o => hB1.alloc hB1.size o
  clear HNU b0 b1 hB1 hD hN
  go_wp2
  go_ret2
  exact ⟨rfl, hB2 _⟩
theorem looks_all (c e d f cc n : Int) (hc : I64 c) (hd : I64 d) (hcc : I64 cc) (hn : I64 n) (w : World) : Calls Tryd.prog 5 #[.agg #[.int .i64 c, .int .i64 e], .agg #[.int .i64 d, .int .i64 f], .int .i64 cc, .int .i64 n] w fun r w' => r = .returned (.bool true) ∧ Below w.heap.size w w' := by
  refine looks_any c e d f cc n hc hd hcc hn (fun W => ?_) w
  by_cases he : within e
  · exact rint_any c e hc he W
  · have := rint_bad c e hc he W
    unfold intV
    rw [if_neg (show ¬ (-18 ≤ e ∧ e ≤ 18) from he)]
    exact this
end Go.Proofs.YtfbhonjndepjbaaDoor
