import Derived.Test.YtfbhonjndepjbaaDoorRbd
import Derived.Test.YtfbhonjndepjbaaDoorWalM
import Derived.Test.YtfbhonjndepjbaaDoorWalM
/- The program's Add, Sub, Neg, Mul in the document's words. -/
namespace Go.Proofs.YtfbhonjndepjbaaDoor
open Go.RowKit

def mulD (c e d f : Int) : Value := if (-18 ≤ e ∧ e ≤ 18) ∧ (-18 ≤ f ∧ f ≤ 18) then decV (tell (V (-18) c e * V (-18) d f) (-36)) else argV
theorem padd_any (c e d f : Int) (hc : I64 c) (hd : I64 d) (w : World) : Calls Tryd.prog 9 #[.agg #[.int .i64 c, .int .i64 e], .agg #[.int .i64 d, .int .i64 f]] w fun r w' => r = .returned (addD c e d f) ∧ Below w.heap.size w w' := by
  have h := add_any c e d f hc hd w
  have hv : twoV e f (sumW (decW c e) (decW d f)) = addD c e d f := by
    unfold twoV addD
    split
    · rename_i h
      obtain ⟨he, hf⟩ := h
      rw [told_sum _ _ (sh_dec c e he.1 he.2 hc.1 hc.2) (sh_dec d f hf.1 hf.2 hd.1 hd.2), VW_dec' c e he, VW_dec' d f hf]
    · rfl
  rw [hv] at h
  exact h
theorem psub_any (c e d f : Int) (hc : I64 c) (hd : I64 d) (w : World) : Calls Tryd.prog 11 #[.agg #[.int .i64 c, .int .i64 e], .agg #[.int .i64 d, .int .i64 f]] w fun r w' => r = .returned (subD c e d f) ∧ Below w.heap.size w w' := by
  have h := sub_any c e d f hc hd w
  have hv : twoV e f (sumW (decW c e) (turnW (decW d f))) = subD c e d f := by
    unfold twoV subD
    split
    · rename_i h
      obtain ⟨he, hf⟩ := h
      rw [told_sum _ _ (sh_dec c e he.1 he.2 hc.1 hc.2) (sh_turn (sh_dec d f hf.1 hf.2 hd.1 hd.2)), sc_turn, V_neg, VW_dec' c e he]
      show decV (tell (V (-18) c e + -V (-18) (sc (decW d f)) (decW d f).e) (-18)) = _
      rw [VW_dec' d f hf]
      rfl
    · rfl
  rw [hv] at h
  exact h
theorem pmul_any (c e d f : Int) (hc : I64 c) (hd : I64 d) (w : World) : Calls Tryd.prog 15 #[.agg #[.int .i64 c, .int .i64 e], .agg #[.int .i64 d, .int .i64 f]] w fun r w' => r = .returned (mulD c e d f) ∧ Below w.heap.size w w' := by
  have h := mul_any c e d f hc hd w
  have hv : twoV e f (some (prodW (decW c e) (decW d f))) = mulD c e d f := by
    unfold twoV mulD
    split
    · rename_i h
      obtain ⟨he, hf⟩ := h
      rw [told_prod _ _ (sh_dec c e he.1 he.2 hc.1 hc.2) (sh_dec d f hf.1 hf.2 hd.1 hd.2), VW_dec' c e he, VW_dec' d f hf]
    · rfl
  rw [hv] at h
  exact h
theorem pneg_any (c e : Int) (hc : I64 c) (w : World) : Calls Tryd.prog 13 #[.agg #[.int .i64 c, .int .i64 e]] w fun r w' => r = .returned (subD 0 0 c e) ∧ Below w.heap.size w w' := by
  by_cases he : within e
  · have h := neg_ok c e hc he w
    have hv : subD 0 0 c e = decV (tell (-V (-18) c e) (-18)) := by
      unfold subD
      rw [if_pos ⟨by decide, he⟩, show V (-18) 0 0 = 0 by unfold V; rw [Int.zero_mul], Int.zero_sub]
    rw [hv]
    exact h
  · have h := neg_bad c e he w
    have hv : subD 0 0 c e = argV := by
      unfold subD
      rw [if_neg fun h => he h.2]
    rw [hv]
    exact h
end Go.Proofs.YtfbhonjndepjbaaDoor
