import Derived.Test.YtfbhonjndepjbaaDoorWrg
import Derived.Test.YtfbhonjndepjbaaDoorDpq
import Derived.Test.YtfbhonjndepjbaaDoorWcm
/- DecLaws: what its calls answer, and its walk. -/
namespace Go.Proofs.YtfbhonjndepjbaaDoor
open Go.RowKit

def Rt (p q : Int) : Prop := p % 10 ≠ 0 ∨ (q = 18 ∧ p ≠ 0) ∨ (p = 0 ∧ q = 0)
theorem tell_rt {c e C E : Int} (h : tell c e = some (C, E)) : Rt C E := by
  obtain ⟨_, _, _, _, h5, h6, _⟩ := tell_some h
  unfold Rt
  by_cases h0 : C = 0
  · have hc := h6.2 h0
    subst hc
    have : (C, E) = (0, 0) := by simpa [tell, tellW_zero] using h.symm
    cases this
    exact .inr (.inr ⟨rfl, rfl⟩)
  · omega
theorem right_rt {p q : Int} (hq : within q) (hr : Rt p q) : rightB p q = true := by
  unfold rightB
  have h1 : -18 ≤ q ∧ q ≤ 18 := hq
  unfold Rt at hr
  by_cases h0 : p = 0
  · rw [if_pos h0]; exact decide_eq_true (by omega)
  · rw [if_neg h0, decide_eq_true h1]
    by_cases h2 : p % 10 ≠ 0
    · rw [decide_eq_true h2]; rfl
    · rw [decide_eq_true (show q = 18 by omega)]; simp
theorem right_ok (p q : Int) (hp : I64 p) (hq : within q) (hr : Rt p q) (w : World) : Calls Tryd.prog 26 #[.agg #[.int .i64 p, .int .i64 q]] w fun r w' => r = .returned (.bool true) ∧ Below w.heap.size w w' := by
  have := right_any p q hp w
  rw [right_rt hq hr] at this
  exact this
set_option maxRecDepth 100000 in
set_option maxHeartbeats 400000 in
theorem sign_ok (c e : Int) (hc : I64 c) (he : within e) (w : World) : Calls Tryd.prog 30 #[.agg #[.int .i64 c, .int .i64 e]] w fun r w' => r = .returned (.int .i64 (sgW (decW c e))) ∧ Below w.heap.size w w' := by
  have hT := fun K w (hK : Row w K 23 #[.int .i64 c, .int .i64 e]) => taken1 c e K w hc he hK
  have hs := sign_W (decW c e)
  simp only [Wd.val_eq] at hs
  obtain ⟨y0, y1, y2, y3, hy⟩ : ∃ y0 y1 y2 y3, (decW c e).cells = #[y0, y1, y2, y3] := ⟨_, _, _, _, rfl⟩
  simp only [hy] at hT hs
  generalize sgW (decW c e) = sg at *
  clear hy
  go_enter Tryd.func30, Tryd.ntmps30
  go_wp2_with fail
  have hK := Row.new1 w (.cells #[.int .i64 c, .int .i64 e] 23) 23 #[.int .i64 c, .int .i64 e]
  refine (hT _ _ hK).mono ?_
  rintro _ W ⟨h1, G, hG, rfl, hR⟩
  obtain ⟨_, _, hB⟩ := two_rows w W _ _ _ _ h1
  obtain ⟨x0, x1, x2, x3⟩ := hR.four
  clear h1 hG hK hT
  go_wp2_with fail
  refine (hs _).mono ?_
  rintro _ W2 ⟨rfl, h2⟩
  go_wp2
  go_ret
  exact ⟨rfl, hB.trans (h2.mono hB.size)⟩
theorem told_fact2 (X m : Int) : ∃ p q v, decV (tell X m) = .tuple #[.agg #[.int .i64 p, .int .i64 q], .int .i64 v] ∧ (v = 0 → I64 p ∧ within q ∧ Rt p q ∧ tell X m = some (p, q)) := by
  cases h : tell X m with
  | none => exact ⟨0, 0, 30, rfl, fun h => by omega⟩
  | some d =>
    obtain ⟨C, E⟩ := d
    obtain ⟨h1, h2, h3, h4, h5, h6, h7⟩ := tell_some h
    exact ⟨C, E, 0, rfl, fun _ => ⟨⟨h3, h4⟩, ⟨h1, h2⟩, tell_rt h, rfl⟩⟩
theorem VW_dec' (c e : Int) (he : within e) : V (-18) (sc (decW c e)) (decW c e).e = V (-18) c e := sc_dec (-18) c e he.1
def D2 (p q : Int) : Value := .agg #[.int .i64 p, .int .i64 q]
theorem add_two (c e c2 e2 : Int) (hc : I64 c) (hc2 : I64 c2) : ∃ p q v, (∀ w, Calls Tryd.prog 9 #[D2 c e, D2 c2 e2] w fun r w' => r = .returned (.tuple #[D2 p q, .int .i64 v]) ∧ Below w.heap.size w w') ∧
    (∀ w, Calls Tryd.prog 9 #[D2 c2 e2, D2 c e] w fun r w' => r = .returned (.tuple #[D2 p q, .int .i64 v]) ∧ Below w.heap.size w w') ∧
    (v = 0 → within e ∧ within e2 ∧ I64 p ∧ within q ∧ Rt p q ∧ V (-18) p q = V (-18) c e + V (-18) c2 e2) := by
  by_cases hw : within e ∧ within e2
  · obtain ⟨he, he2⟩ := hw
    obtain ⟨p, q, v, h1, h2⟩ := told_fact2 (V (-18) c e + V (-18) c2 e2) (-18)
    refine ⟨p, q, v, fun w => ?_, fun w => ?_, fun hv => ?_⟩
    · have h := add_any c e c2 e2 hc hc2 w
      rw [two_ok _ _ _ he he2, told_sum _ _ (sh_dec c e he.1 he.2 hc.1 hc.2) (sh_dec c2 e2 he2.1 he2.2 hc2.1 hc2.2), VW_dec' c e he, VW_dec' c2 e2 he2, h1] at h
      exact h
    · have h := add_any c2 e2 c e hc2 hc w
      rw [two_ok _ _ _ he2 he, told_sum _ _ (sh_dec c2 e2 he2.1 he2.2 hc2.1 hc2.2) (sh_dec c e he.1 he.2 hc.1 hc.2), VW_dec' c e he, VW_dec' c2 e2 he2, Int.add_comm, h1] at h
      exact h
    · obtain ⟨i1, i2, i3, i4⟩ := h2 hv
      refine ⟨he, he2, i1, i2, i3, ?_⟩
      obtain ⟨_, _, _, _, _, _, h7⟩ := tell_some i4
      rw [h7 (-18) (Int.le_refl _) i2.1]
      simp [V]
  · refine ⟨0, 0, 1, fun w => ?_, fun w => ?_, fun hv => by omega⟩
    · have h := add_any c e c2 e2 hc hc2 w
      unfold twoV at h
      rw [if_neg (fun x => hw ⟨x.1, x.2⟩)] at h
      exact h
    · have h := add_any c2 e2 c e hc2 hc w
      unfold twoV at h
      rw [if_neg (fun x => hw ⟨x.2, x.1⟩)] at h
      exact h
theorem mul_two (c e c2 e2 : Int) (hc : I64 c) (hc2 : I64 c2) : ∃ p q v, (∀ w, Calls Tryd.prog 15 #[D2 c e, D2 c2 e2] w fun r w' => r = .returned (.tuple #[D2 p q, .int .i64 v]) ∧ Below w.heap.size w w') ∧
    (∀ w, Calls Tryd.prog 15 #[D2 c2 e2, D2 c e] w fun r w' => r = .returned (.tuple #[D2 p q, .int .i64 v]) ∧ Below w.heap.size w w') ∧
    (v = 0 → within e ∧ within e2 ∧ I64 p ∧ within q ∧ Rt p q ∧ V (-36) p q = V (-18) c e * V (-18) c2 e2) := by
  by_cases hw : within e ∧ within e2
  · obtain ⟨he, he2⟩ := hw
    obtain ⟨p, q, v, h1, h2⟩ := told_fact2 (V (-18) c e * V (-18) c2 e2) (-36)
    refine ⟨p, q, v, fun w => ?_, fun w => ?_, fun hv => ?_⟩
    · have h := mul_any c e c2 e2 hc hc2 w
      rw [two_ok _ _ _ he he2, told_prod _ _ (sh_dec c e he.1 he.2 hc.1 hc.2) (sh_dec c2 e2 he2.1 he2.2 hc2.1 hc2.2), VW_dec' c e he, VW_dec' c2 e2 he2, h1] at h
      exact h
    · have h := mul_any c2 e2 c e hc2 hc w
      rw [two_ok _ _ _ he2 he, told_prod _ _ (sh_dec c2 e2 he2.1 he2.2 hc2.1 hc2.2) (sh_dec c e he.1 he.2 hc.1 hc.2), VW_dec' c e he, VW_dec' c2 e2 he2, Int.mul_comm, h1] at h
      exact h
    · obtain ⟨i1, i2, i3, i4⟩ := h2 hv
      refine ⟨he, he2, i1, i2, i3, ?_⟩
      obtain ⟨_, _, _, _, _, _, h7⟩ := tell_some i4
      rw [h7 (-36) (Int.le_refl _) (by have := i2.1; omega)]
      simp [V]
  · refine ⟨0, 0, 1, fun w => ?_, fun w => ?_, fun hv => by omega⟩
    · have h := mul_any c e c2 e2 hc hc2 w
      unfold twoV at h
      rw [if_neg (fun x => hw ⟨x.1, x.2⟩)] at h
      exact h
    · have h := mul_any c2 e2 c e hc2 hc w
      unfold twoV at h
      rw [if_neg (fun x => hw ⟨x.2, x.1⟩)] at h
      exact h
theorem make_two (c e : Int) (hc : I64 c) (he : within e) : ∃ x y, tell c e = some (x, y) ∧ ∀ w, Calls Tryd.prog 24 #[.int .i64 c, .int .i64 e] w fun r w' => r = .returned (.tuple #[D2 x y, .int .i64 0]) ∧ Below w.heap.size w w' := by
  obtain ⟨x, y, h⟩ := tell_of_dec c e he.1 he.2 hc.1 hc.2
  refine ⟨x, y, h, fun w => ?_⟩
  have h1 := make_any c e hc ⟨by have := he.1; omega, by have := he.2; omega⟩ w
  rw [h] at h1
  exact h1
theorem sub_two (c e c2 e2 p q x y : Int) (hc2 : I64 c2) (hp : I64 p) (he : within e) (he2 : within e2) (hq : within q) (hV : V (-18) p q = V (-18) c e + V (-18) c2 e2) (ht : tell c e = some (x, y)) (w : World) :
    Calls Tryd.prog 11 #[D2 p q, D2 c2 e2] w fun r w' => r = .returned (.tuple #[D2 x y, .int .i64 0]) ∧ Below w.heap.size w w' := by
  have h := sub_any p q c2 e2 hp hc2 w
  rw [two_ok _ _ _ hq he2, told_sum _ _ (sh_dec p q hq.1 hq.2 hp.1 hp.2) (sh_turn (sh_dec c2 e2 he2.1 he2.2 hc2.1 hc2.2)), sc_turn, V_neg, VW_dec' p q hq,
    show V (-18) (sc (decW c2 e2)) (turnW (decW c2 e2)).e = V (-18) c2 e2 from VW_dec' c2 e2 he2, hV, show V (-18) c e + V (-18) c2 e2 + -V (-18) c2 e2 = V (-18) c e by omega, tell_V (-18) c e he.1, ht] at h
  exact h
theorem div_two (c e c2 e2 p q x y : Int) (hc : I64 c) (hc2 : I64 c2) (hp : I64 p) (he : within e) (he2 : within e2) (hq : within q) (h0 : c2 ≠ 0) (hV : V (-36) p q = V (-18) c e * V (-18) c2 e2) (ht : tell c e = some (x, y)) (w : World) :
    Calls Tryd.prog 18 #[D2 p q, D2 c2 e2] w fun r w' => r = .returned (.tuple #[D2 x y, .int .i64 0]) ∧ Below w.heap.size w w' := by
  have h := div_any p q c2 e2 hp hc2 h0 w
  have s1 := sh_dec p q hq.1 hq.2 hp.1 hp.2
  have s2 := sh_dec c2 e2 he2.1 he2.2 hc2.1 hc2.2
  have s3 := sh_dec c e he.1 he.2 hc.1 hc.2
  have l1 := s1.lo
  have l2 := s2.lo
  have l3 := s3.lo
  have hval : sc (decW p q) * 10 ^ ((decW p q).e + 36).toNat = sc (decW c e) * sc (decW c2 e2) * 10 ^ ((decW c e).e + (decW c2 e2).e + 36).toNat := by
    have e1 := sc_dec (-36) p q (by have := hq.1; omega)
    rw [hV, ← VW_dec' c e he, ← VW_dec' c2 e2 he2] at e1
    unfold V at e1
    rw [show ((decW p q).e - -36).toNat = ((decW p q).e + 36).toNat by omega] at e1
    rw [e1, show ((decW c e).e + (decW c2 e2).e + 36).toNat = ((decW c e).e - -18).toNat + ((decW c2 e2).e - -18).toNat by omega, Int.pow_add]
    rw [Int.mul_assoc, Int.mul_assoc, Int.mul_left_comm (10 ^ _)]
  have hq2 := told_quot (decW p q) (decW c2 e2) (decW c e) (by have := s2.big; omega) (fun hz => h0 ((dec_zero c2 e2).1 hz)) s3.big _ _ hval (by omega)
  rw [two_ok _ _ _ hq he2, hq2, ← tell_V (-18) _ _ l3, VW_dec' c e he, tell_V (-18) c e he.1, ht] at h
  exact h
end Go.Proofs.YtfbhonjndepjbaaDoor
