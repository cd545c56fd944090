import Derived.Test.YtfbhonjndepjbaaDoorRadM
import Derived.Test.YtfbhonjndepjbaaDoorWop
/- The document's Add, Sub, where one of both is none; Neg. -/
namespace Go.Proofs.YtfbhonjndepjbaaDoor
open Go.RowKit

set_option maxRecDepth 100000 in
set_option maxHeartbeats 2000000 in
theorem radd_bad (c e d f : Int) (hc : I64 c) (hd : I64 d) (w : World) (hb : ¬((-18 ≤ e ∧ e ≤ 18) ∧ (-18 ≤ f ∧ f ≤ 18))) : Calls Tryd.prog 10 #[.agg #[.int .i64 c, .int .i64 e], .agg #[.int .i64 d, .int .i64 f]] w fun r w' => r = .returned argV ∧ Below w.heap.size w w' := by
  have HC : ∀ W, Hid (Calls Tryd.prog 44 #[.agg #[.int .i64 c, .int .i64 e], .agg #[.int .i64 d, .int .i64 f]] W _) := fun W => two_bad c e d f hc hd W hb
  go_enter Tryd.func10, Tryd.ntmps10
  go_wp2_with fail
  have r2 := Row.new ((w.alloc (.cells #[.int .i64 c, .int .i64 e] 23)).alloc (.cells #[.int .i64 d, .int .i64 f] 23)) 23 #[.int .i64 0, .int .i64 0]
  have hB := (((Below.refl _ w).alloc (Nat.le_refl _) (.cells #[.int .i64 c, .int .i64 e] 23)).alloc (by simp) (.cells #[.int .i64 d, .int .i64 f] 23)).alloc (by simp; omega) (.cells #[.int .i64 0, .int .i64 0] 23)
  have hWs : w.heap.size + 3 ≤ (((((w.alloc (.cells #[.int .i64 c, .int .i64 e] 23)).alloc (.cells #[.int .i64 d, .int .i64 f] 23)).alloc (.cells #[.int .i64 0, .int .i64 0] 23)))).heap.size := by simp
  simp only [World.size_alloc] at r2
  generalize ((((w.alloc (.cells #[.int .i64 c, .int .i64 e] 23)).alloc (.cells #[.int .i64 d, .int .i64 f] 23)).alloc (.cells #[.int .i64 0, .int .i64 0] 23))) = W at *
  refine Calls.mono (HC W).out ?_
  rintro _ w1 ⟨rfl, b1⟩
  clear HC
  unfold zeroC
  have b2 : Below w1.heap.size w1 ((w1.alloc (.cells #[.bool false, .slice none 0 0, .int .i64 0] 47)).alloc (.cells #[.bool false, .slice none 0 0, .int .i64 0] 47)) := ((Below.refl _ w1).alloc (Nat.le_refl _) _).alloc (by simp) _
  have hrx := (r2.below b1 r2.lt).below b2 (r2.below b1 r2.lt).lt
  have hBe := (hB.trans (b1.mono (by omega))).trans (b2.mono (Nat.le_trans (by omega) b1.size))
  clear r2 b1 b2 hB hWs
  obtain ⟨y0, y1⟩ := hrx.duo
  have zf := hrx.frozen
  have hZe := Row.set2 hrx (.int .i64 0) (.int .i64 0)
  have hBg := below_set (below_set hBe (B := w.heap.size + 1 + 1) 0 (.int .i64 0) (by omega)) (B := w.heap.size + 1 + 1) 1 (.int .i64 0) (by omega)
  go_wp2_with fail
  exact bodyPost_ret (ret_two rfl (g := w.heap.size + 1 + 1) rfl rfl (load23 hZe rfl)) rfl ⟨rfl, hBg⟩
set_option maxRecDepth 100000 in
set_option maxHeartbeats 2000000 in
theorem rsub_bad (c e d f : Int) (hc : I64 c) (hd : I64 d) (w : World) (hb : ¬((-18 ≤ e ∧ e ≤ 18) ∧ (-18 ≤ f ∧ f ≤ 18))) : Calls Tryd.prog 12 #[.agg #[.int .i64 c, .int .i64 e], .agg #[.int .i64 d, .int .i64 f]] w fun r w' => r = .returned argV ∧ Below w.heap.size w w' := by
  have HC : ∀ W, Hid (Calls Tryd.prog 44 #[.agg #[.int .i64 c, .int .i64 e], .agg #[.int .i64 d, .int .i64 f]] W _) := fun W => two_bad c e d f hc hd W hb
  go_enter Tryd.func12, Tryd.ntmps12
  go_wp2_with fail
  have r2 := Row.new ((w.alloc (.cells #[.int .i64 c, .int .i64 e] 23)).alloc (.cells #[.int .i64 d, .int .i64 f] 23)) 23 #[.int .i64 0, .int .i64 0]
  have hB := (((Below.refl _ w).alloc (Nat.le_refl _) (.cells #[.int .i64 c, .int .i64 e] 23)).alloc (by simp) (.cells #[.int .i64 d, .int .i64 f] 23)).alloc (by simp; omega) (.cells #[.int .i64 0, .int .i64 0] 23)
  have hWs : w.heap.size + 3 ≤ (((((w.alloc (.cells #[.int .i64 c, .int .i64 e] 23)).alloc (.cells #[.int .i64 d, .int .i64 f] 23)).alloc (.cells #[.int .i64 0, .int .i64 0] 23)))).heap.size := by simp
  simp only [World.size_alloc] at r2
  generalize ((((w.alloc (.cells #[.int .i64 c, .int .i64 e] 23)).alloc (.cells #[.int .i64 d, .int .i64 f] 23)).alloc (.cells #[.int .i64 0, .int .i64 0] 23))) = W at *
  refine Calls.mono (HC W).out ?_
  rintro _ w1 ⟨rfl, b1⟩
  clear HC
  unfold zeroC
  have b2 : Below w1.heap.size w1 ((w1.alloc (.cells #[.bool false, .slice none 0 0, .int .i64 0] 47)).alloc (.cells #[.bool false, .slice none 0 0, .int .i64 0] 47)) := ((Below.refl _ w1).alloc (Nat.le_refl _) _).alloc (by simp) _
  have hrx := (r2.below b1 r2.lt).below b2 (r2.below b1 r2.lt).lt
  have hBe := (hB.trans (b1.mono (by omega))).trans (b2.mono (Nat.le_trans (by omega) b1.size))
  clear r2 b1 b2 hB hWs
  obtain ⟨y0, y1⟩ := hrx.duo
  have zf := hrx.frozen
  have hZe := Row.set2 hrx (.int .i64 0) (.int .i64 0)
  have hBg := below_set (below_set hBe (B := w.heap.size + 1 + 1) 0 (.int .i64 0) (by omega)) (B := w.heap.size + 1 + 1) 1 (.int .i64 0) (by omega)
  go_wp2_with fail
  exact bodyPost_ret (ret_two rfl (g := w.heap.size + 1 + 1) rfl rfl (load23 hZe rfl)) rfl ⟨rfl, hBg⟩
/-- What the document's Sub answers. -/
def subD (c e d f : Int) : Value := if (-18 ≤ e ∧ e ≤ 18) ∧ (-18 ≤ f ∧ f ≤ 18) then decV (tell (V (-18) c e - V (-18) d f) (-18)) else argV
def addD (c e d f : Int) : Value := if (-18 ≤ e ∧ e ≤ 18) ∧ (-18 ≤ f ∧ f ≤ 18) then decV (tell (V (-18) c e + V (-18) d f) (-18)) else argV
theorem radd_any (c e d f : Int) (hc : I64 c) (hd : I64 d) (w : World) : Calls Tryd.prog 10 #[.agg #[.int .i64 c, .int .i64 e], .agg #[.int .i64 d, .int .i64 f]] w fun r w' => r = .returned (addD c e d f) ∧ Below w.heap.size w w' := by
  unfold addD
  split
  · rename_i h
    exact radd_ok c e d f hc hd w h.1.1 h.1.2 h.2.1 h.2.2
  · rename_i h
    exact radd_bad c e d f hc hd w h
theorem rsub_any (c e d f : Int) (hc : I64 c) (hd : I64 d) (w : World) : Calls Tryd.prog 12 #[.agg #[.int .i64 c, .int .i64 e], .agg #[.int .i64 d, .int .i64 f]] w fun r w' => r = .returned (subD c e d f) ∧ Below w.heap.size w w' := by
  unfold subD
  split
  · rename_i h
    exact rsub_ok c e d f hc hd w h.1.1 h.1.2 h.2.1 h.2.2
  · rename_i h
    exact rsub_bad c e d f hc hd w h
theorem subD_form (c e d f : Int) : ∃ p q s, subD c e d f = .tuple #[.agg #[.int .i64 p, .int .i64 q], .int .i64 s] := by
  unfold subD
  split
  · exact dec_form' _
  · exact ⟨_, _, _, rfl⟩
set_option maxRecDepth 100000 in
set_option maxHeartbeats 2000000 in
theorem rneg_any (c e : Int) (hc : I64 c) (w : World) : Calls Tryd.prog 14 #[.agg #[.int .i64 c, .int .i64 e]] w fun r w' => r = .returned (subD 0 0 c e) ∧ Below w.heap.size w w' := by
  have HC : ∀ W, Hid (Calls Tryd.prog 12 #[.agg #[.int .i64 0, .int .i64 0], .agg #[.int .i64 c, .int .i64 e]] W _) := fun W => rsub_any 0 0 c e ⟨by decide, by decide⟩ hc W
  obtain ⟨p, q, s, hs⟩ := subD_form 0 0 c e
  rw [hs] at HC
  rw [hs]
  go_enter Tryd.func14, Tryd.ntmps14
  go_wp2_with fail
  have r2 := Row.new1 w (.cells #[.int .i64 c, .int .i64 e] 23) 23 #[.int .i64 0, .int .i64 0]
  have hB := ((Below.refl _ w).alloc (Nat.le_refl _) (.cells #[.int .i64 c, .int .i64 e] 23)).alloc (by simp) (.cells #[.int .i64 0, .int .i64 0] 23)
  have hWs : w.heap.size + 2 ≤ ((w.alloc (.cells #[.int .i64 c, .int .i64 e] 23)).alloc (.cells #[.int .i64 0, .int .i64 0] 23)).heap.size := by simp
  generalize (w.alloc (.cells #[.int .i64 c, .int .i64 e] 23)).alloc (.cells #[.int .i64 0, .int .i64 0] 23) = W at *
  refine Calls.mono (HC W).out ?_
  rintro _ w1 ⟨rfl, b1⟩
  clear HC
  have hrx := r2.below b1 r2.lt
  have hBe := hB.trans (b1.mono (by omega))
  obtain ⟨y0, y1⟩ := hrx.duo
  have zf := hrx.frozen
  have hZe := Row.set2 hrx (.int .i64 p) (.int .i64 q)
  have hBg := below_set (below_set hBe (B := w.heap.size + 1) 0 (.int .i64 p) (by omega)) (B := w.heap.size + 1) 1 (.int .i64 q) (by omega)
  go_wp2_with fail
  exact bodyPost_ret (ret_two rfl (g := w.heap.size + 1) rfl rfl (load23 hZe rfl)) rfl ⟨rfl, hBg⟩
end Go.Proofs.YtfbhonjndepjbaaDoor
