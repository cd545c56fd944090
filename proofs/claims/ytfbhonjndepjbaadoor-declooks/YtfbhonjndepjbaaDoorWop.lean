import Derived.Test.YtfbhonjndepjbaaDoorWleM
import Derived.Test.YtfbhonjndepjbaaDoorWdd
/- Add, Sub, Mul, Div, Mod: what they hand on. -/
namespace Go.Proofs.YtfbhonjndepjbaaDoor
open Go.RowKit

set_option maxRecDepth 100000 in
set_option maxHeartbeats 400000 in
theorem op_9 (c e c2 e2 p q v : Int) (h : ∀ w, Calls Tryd.prog 42 #[.func (.func 43) #[] #[], dv c e, dv c2 e2] w fun r w' => r = .returned (.tuple #[.agg #[.int .i64 p, .int .i64 q], .int .i64 v]) ∧ Below w.heap.size w w') (w : World) :
    Calls Tryd.prog 9 #[dv c e, dv c2 e2] w fun r w' => r = .returned (.tuple #[.agg #[.int .i64 p, .int .i64 q], .int .i64 v]) ∧ Below w.heap.size w w' := by
  unfold dv at *
  go_enter Tryd.func9, Tryd.ntmps9
  go_wp2_with fail
  refine (h _).mono ?_
  rintro _ w1 ⟨rfl, h1⟩
  obtain ⟨_, _, hZ, hB⟩ := three_rows w w1 _ _ _ _ _ _ h1
  obtain ⟨d0, d1⟩ := hZ.duo
  have z := hZ.frozen
  clear h1 h
  go_wp2
  refine bodyPost_ret (ret_two rfl (g := w.heap.size + 2) rfl rfl (load23 (Row.set2 hZ _ _) rfl)) rfl ⟨rfl, ?_⟩
  repeat (refine below_set ?_ _ _ (by omega))
  exact hB
set_option maxRecDepth 100000 in
set_option maxHeartbeats 400000 in
theorem op_11 (c e c2 e2 p q v : Int) (h : ∀ w, Calls Tryd.prog 42 #[.func (.func 47) #[] #[], dv c e, dv c2 e2] w fun r w' => r = .returned (.tuple #[.agg #[.int .i64 p, .int .i64 q], .int .i64 v]) ∧ Below w.heap.size w w') (w : World) :
    Calls Tryd.prog 11 #[dv c e, dv c2 e2] w fun r w' => r = .returned (.tuple #[.agg #[.int .i64 p, .int .i64 q], .int .i64 v]) ∧ Below w.heap.size w w' := by
  unfold dv at *
  go_enter Tryd.func11, Tryd.ntmps11
  go_wp2_with fail
  refine (h _).mono ?_
  rintro _ w1 ⟨rfl, h1⟩
  obtain ⟨_, _, hZ, hB⟩ := three_rows w w1 _ _ _ _ _ _ h1
  obtain ⟨d0, d1⟩ := hZ.duo
  have z := hZ.frozen
  clear h1 h
  go_wp2
  refine bodyPost_ret (ret_two rfl (g := w.heap.size + 2) rfl rfl (load23 (Row.set2 hZ _ _) rfl)) rfl ⟨rfl, ?_⟩
  repeat (refine below_set ?_ _ _ (by omega))
  exact hB
set_option maxRecDepth 100000 in
set_option maxHeartbeats 400000 in
theorem op_15 (c e c2 e2 p q v : Int) (h : ∀ w, Calls Tryd.prog 42 #[.func (.func 52) #[] #[], dv c e, dv c2 e2] w fun r w' => r = .returned (.tuple #[.agg #[.int .i64 p, .int .i64 q], .int .i64 v]) ∧ Below w.heap.size w w') (w : World) :
    Calls Tryd.prog 15 #[dv c e, dv c2 e2] w fun r w' => r = .returned (.tuple #[.agg #[.int .i64 p, .int .i64 q], .int .i64 v]) ∧ Below w.heap.size w w' := by
  unfold dv at *
  go_enter Tryd.func15, Tryd.ntmps15
  go_wp2_with fail
  refine (h _).mono ?_
  rintro _ w1 ⟨rfl, h1⟩
  obtain ⟨_, _, hZ, hB⟩ := three_rows w w1 _ _ _ _ _ _ h1
  obtain ⟨d0, d1⟩ := hZ.duo
  have z := hZ.frozen
  clear h1 h
  go_wp2
  refine bodyPost_ret (ret_two rfl (g := w.heap.size + 2) rfl rfl (load23 (Row.set2 hZ _ _) rfl)) rfl ⟨rfl, ?_⟩
  repeat (refine below_set ?_ _ _ (by omega))
  exact hB
set_option maxRecDepth 100000 in
set_option maxHeartbeats 400000 in
theorem op_18 (c e c2 e2 p q v : Int) (h : ∀ w, Calls Tryd.prog 55 #[.func (.func 56) #[] #[], dv c e, dv c2 e2] w fun r w' => r = .returned (.tuple #[.agg #[.int .i64 p, .int .i64 q], .int .i64 v]) ∧ Below w.heap.size w w') (w : World) :
    Calls Tryd.prog 18 #[dv c e, dv c2 e2] w fun r w' => r = .returned (.tuple #[.agg #[.int .i64 p, .int .i64 q], .int .i64 v]) ∧ Below w.heap.size w w' := by
  unfold dv at *
  go_enter Tryd.func18, Tryd.ntmps18
  go_wp2_with fail
  refine (h _).mono ?_
  rintro _ w1 ⟨rfl, h1⟩
  obtain ⟨_, _, hZ, hB⟩ := three_rows w w1 _ _ _ _ _ _ h1
  obtain ⟨d0, d1⟩ := hZ.duo
  have z := hZ.frozen
  clear h1 h
  go_wp2
  refine bodyPost_ret (ret_two rfl (g := w.heap.size + 2) rfl rfl (load23 (Row.set2 hZ _ _) rfl)) rfl ⟨rfl, ?_⟩
  repeat (refine below_set ?_ _ _ (by omega))
  exact hB
set_option maxRecDepth 100000 in
set_option maxHeartbeats 400000 in
theorem op_20 (c e c2 e2 p q v : Int) (h : ∀ w, Calls Tryd.prog 55 #[.func (.func 60) #[] #[], dv c e, dv c2 e2] w fun r w' => r = .returned (.tuple #[.agg #[.int .i64 p, .int .i64 q], .int .i64 v]) ∧ Below w.heap.size w w') (w : World) :
    Calls Tryd.prog 20 #[dv c e, dv c2 e2] w fun r w' => r = .returned (.tuple #[.agg #[.int .i64 p, .int .i64 q], .int .i64 v]) ∧ Below w.heap.size w w' := by
  unfold dv at *
  go_enter Tryd.func20, Tryd.ntmps20
  go_wp2_with fail
  refine (h _).mono ?_
  rintro _ w1 ⟨rfl, h1⟩
  obtain ⟨_, _, hZ, hB⟩ := three_rows w w1 _ _ _ _ _ _ h1
  obtain ⟨d0, d1⟩ := hZ.duo
  have z := hZ.frozen
  clear h1 h
  go_wp2
  refine bodyPost_ret (ret_two rfl (g := w.heap.size + 2) rfl rfl (load23 (Row.set2 hZ _ _) rfl)) rfl ⟨rfl, ?_⟩
  repeat (refine below_set ?_ _ _ (by omega))
  exact hB

theorem quotient_any (a b : Wd) (ha : a.n < 18446744073709551616) (hb : b.n < 18446744073709551616) (hb0 : b.n ≠ 0) (ea : -1000 ≤ a.e ∧ a.e ≤ 1000) (eb : -1000 ≤ b.e ∧ b.e ≤ 1000) (w : World) :
    Calls Tryd.prog 56 #[a.val, b.val] w fun r w' => WayR (quotW a b) r ∧ Below w.heap.size w w' := by
  have hd := divisor_any a.n b.n ha hb
  have hg : Nat.gcd a.n b.n ≠ 0 := fun h => hb0 (Nat.gcd_eq_zero_iff.1 h).2
  have h1 : Nat.gcd a.n b.n ≤ b.n := Nat.gcd_le_right _ (by omega)
  have h2 : 1 ≤ b.n / Nat.gcd a.n b.n := (Nat.le_div_iff_mul_le (by omega)).2 (by omega)
  have h3 : b.n / Nat.gcd a.n b.n ≤ b.n := Nat.div_le_self _ _
  have h4 : a.n / Nat.gcd a.n b.n ≤ a.n := Nat.div_le_self _ _
  unfold Wd.val
  rw [show a.n % 18446744073709551616 = a.n by omega, show b.n % 18446744073709551616 = b.n by omega]
  exact quot_raw a.neg b.neg _ a.n _ b.n (Nat.gcd a.n b.n) (b.n / Nat.gcd a.n b.n) (a.n / Nat.gcd a.n b.n) a.e b.e (a.e - b.e) hd hg
    (by rw [u64_wrap, ← Int.natCast_ediv]; exact Int.emod_eq_of_lt (Int.natCast_nonneg _) (by omega)) (by rw [u64_wrap, ← Int.natCast_ediv]; exact Int.emod_eq_of_lt (Int.natCast_nonneg _) (by omega)) (by simp [IntKind.wrap, IntKind.bits, IntKind.signed]; omega) h2 (by omega) (by omega) (by omega) w
/-- What the calls on two Decs answer. -/
def argV : Value := .tuple #[dv 0 0, .int .i64 1]
theorem dec_bounds {c e : Int} (hc : I64 c) (he : within e) : (decW c e).n < 18446744073709551616 ∧ (decW c e).n < M128 ∧ (-1000 ≤ (decW c e).e ∧ (decW c e).e ≤ 1000) ∧ EOk (decW c e) := by
  have h := sh_dec c e he.1 he.2 hc.1 hc.2
  have h1 := h.big
  have h2 := h.lo
  have h3 := h.hi
  refine ⟨by omega, by unfold M128; omega, ⟨by omega, by omega⟩, ⟨by omega, by omega⟩⟩
def twoV (e e2 : Int) (o : Option Wd) : Value := if (-18 ≤ e ∧ e ≤ 18) ∧ (-18 ≤ e2 ∧ e2 ≤ 18) then decV (toldW o) else argV
theorem two_form (e e2 : Int) (o : Option Wd) : ∃ p q v, twoV e e2 o = .tuple #[.agg #[.int .i64 p, .int .i64 q], .int .i64 v] := by
  unfold twoV
  split
  · exact decV_form _
  · exact ⟨0, 0, 1, rfl⟩
theorem add_any (c e c2 e2 : Int) (hc : I64 c) (hc2 : I64 c2) (w : World) :
    Calls Tryd.prog 9 #[dv c e, dv c2 e2] w fun r w' => r = .returned (twoV e e2 (sumW (decW c e) (decW c2 e2))) ∧ Below w.heap.size w w' := by
  obtain ⟨p, q, v, hv⟩ := two_form e e2 (sumW (decW c e) (decW c2 e2))
  rw [hv]
  refine op_9 c e c2 e2 p q v (fun w => ?_) w
  rw [← hv]
  unfold twoV
  by_cases he : within e
  · by_cases he2 : within e2
    · rw [if_pos ⟨he, he2⟩]
      obtain ⟨a1, a2, a3, a4⟩ := dec_bounds hc he
      obtain ⟨b1, b2, b3, b4⟩ := dec_bounds hc2 he2
      exact reckoned_ok34 c e c2 e2 _ hc he hc2 he2 (fun w => sum_any _ _ a2 b2 a4 b4 w) w
    · rw [if_neg (fun h => he2 h.2)]
      exact reckoned_bad2 43 c e c2 e2 hc he he2 w
  · rw [if_neg (fun h => he h.1)]
    exact reckoned_bad1 43 c e c2 e2 he w
theorem sub_any (c e c2 e2 : Int) (hc : I64 c) (hc2 : I64 c2) (w : World) :
    Calls Tryd.prog 11 #[dv c e, dv c2 e2] w fun r w' => r = .returned (twoV e e2 (sumW (decW c e) (turnW (decW c2 e2)))) ∧ Below w.heap.size w w' := by
  obtain ⟨p, q, v, hv⟩ := two_form e e2 (sumW (decW c e) (turnW (decW c2 e2)))
  rw [hv]
  refine op_11 c e c2 e2 p q v (fun w => ?_) w
  rw [← hv]
  unfold twoV
  by_cases he : within e
  · by_cases he2 : within e2
    · rw [if_pos ⟨he, he2⟩]
      obtain ⟨a1, a2, a3, a4⟩ := dec_bounds hc he
      obtain ⟨b1, b2, b3, b4⟩ := dec_bounds hc2 he2
      exact reckoned_ok38 c e c2 e2 _ hc he hc2 he2 (fun w => less_any _ _ a2 b2 a4 b4 w) w
    · rw [if_neg (fun h => he2 h.2)]
      exact reckoned_bad2 47 c e c2 e2 hc he he2 w
  · rw [if_neg (fun h => he h.1)]
    exact reckoned_bad1 47 c e c2 e2 he w
theorem mul_any (c e c2 e2 : Int) (hc : I64 c) (hc2 : I64 c2) (w : World) :
    Calls Tryd.prog 15 #[dv c e, dv c2 e2] w fun r w' => r = .returned (twoV e e2 (some (prodW (decW c e) (decW c2 e2)))) ∧ Below w.heap.size w w' := by
  obtain ⟨p, q, v, hv⟩ := two_form e e2 (some (prodW (decW c e) (decW c2 e2)))
  rw [hv]
  refine op_15 c e c2 e2 p q v (fun w => ?_) w
  rw [← hv]
  unfold twoV
  by_cases he : within e
  · by_cases he2 : within e2
    · rw [if_pos ⟨he, he2⟩]
      obtain ⟨a1, a2, a3, a4⟩ := dec_bounds hc he
      obtain ⟨b1, b2, b3, b4⟩ := dec_bounds hc2 he2
      exact reckoned_ok43 c e c2 e2 _ hc he hc2 he2 (fun w => product_any _ _ a1 b1 a3 b3 w) w
    · rw [if_neg (fun h => he2 h.2)]
      exact reckoned_bad2 52 c e c2 e2 hc he he2 w
  · rw [if_neg (fun h => he h.1)]
    exact reckoned_bad1 52 c e c2 e2 he w
theorem dec_zero (c e : Int) : (decW c e).n = 0 ↔ c = 0 := by
  unfold decW shortW numW
  by_cases h : c = 0
  · subst h; simp
  · rw [if_neg (by simp; omega)]
    obtain ⟨k, a1, a2, a3, a4, a5⟩ := strip_spec c.natAbs e (by omega)
    exact ⟨fun h0 => absurd h0 a5, fun h0 => absurd h0 h⟩
def divV : Value := .tuple #[dv 0 0, .int .i64 31]
theorem div_any (c e c2 e2 : Int) (hc : I64 c) (hc2 : I64 c2) (h0 : c2 ≠ 0) (w : World) :
    Calls Tryd.prog 18 #[dv c e, dv c2 e2] w fun r w' => r = .returned (twoV e e2 (quotW (decW c e) (decW c2 e2))) ∧ Below w.heap.size w w' := by
  obtain ⟨p, q, v, hv⟩ := two_form e e2 (quotW (decW c e) (decW c2 e2))
  rw [hv]
  refine op_18 c e c2 e2 p q v (fun w => ?_) w
  rw [← hv]
  unfold twoV
  by_cases he : within e
  · by_cases he2 : within e2
    · rw [if_pos ⟨he, he2⟩]
      obtain ⟨a1, a2, a3, a4⟩ := dec_bounds hc he
      obtain ⟨b1, b2, b3, b4⟩ := dec_bounds hc2 he2
      have hz : (decW c2 e2).n ≠ 0 := fun h => h0 ((dec_zero c2 e2).1 h)
      exact divided_ok47 c e c2 e2 _ hc he hc2 he2 hz (fun w => quotient_any _ _ a1 b1 hz a3 b3 w) w
    · rw [if_neg (fun h => he2 h.2)]
      exact divided_bad2 56 c e c2 e2 hc he he2 w
  · rw [if_neg (fun h => he h.1)]
    exact divided_bad1 56 c e c2 e2 he w
theorem div_zero (c e e2 : Int) (hc : I64 c) (he : within e) (he2 : within e2) (w : World) :
    Calls Tryd.prog 18 #[dv c e, dv 0 e2] w fun r w' => r = .returned divV ∧ Below w.heap.size w w' :=
  op_18 c e 0 e2 0 0 31 (fun w => divided_zero 56 c e 0 e2 hc he ⟨by omega, by omega⟩ he2 ((dec_zero 0 e2).2 rfl) w) w
end Go.Proofs.YtfbhonjndepjbaaDoor
