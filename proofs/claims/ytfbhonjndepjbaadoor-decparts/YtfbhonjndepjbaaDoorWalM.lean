import Derived.Test.YtfbhonjndepjbaaDoorWpp
import Derived.Test.YtfbhonjndepjbaaDoorWddM
import Derived.Test.YtfbhonjndepjbaaDoorWddM
/- alive: the chapter's examples. -/
namespace Go.Proofs.YtfbhonjndepjbaaDoor
open Go.RowKit

theorem dec_fix (c e : Int) (h0 : c ≠ 0) (h : c.natAbs % 10 ≠ 0 ∨ 18 ≤ e) : decW c e = ⟨decide (c < 0), c.natAbs, e⟩ := by
  unfold decW shortW numW
  rw [if_neg (by simp; omega), strip_fix c.natAbs e h]
theorem tellW_fix (neg : Bool) (n : Nat) (e : Int) (h0 : n ≠ 0) (h : n % 10 ≠ 0 ∨ e = 18) (hb : n ≤ 9223372036854775807) (h1 : -18 ≤ e) (h2 : e ≤ 18) : tellW neg n e = some (if neg then -(n : Int) else n, e) := by
  unfold tellW
  rw [if_neg h0, strip_fix n e (by omega)]
  have hr : raise (n, e) = (n, e) := by unfold raise; rw [if_neg (by simp only; omega)]
  rw [hr, if_pos ⟨by simp only; omega, h1⟩]
theorem al_make (w : World) : Calls Tryd.prog 24 #[.int .i64 120, .int .i64 0] w fun r w' => r = .returned (.tuple #[.agg #[.int .i64 12, .int .i64 1], .int .i64 0]) ∧ Below w.heap.size w w' := by
  have h := make_any 120 0 ⟨by decide, by decide⟩ ⟨by decide, by decide⟩ w
  have e1 : tell 120 0 = some (12, 1) := by
    have := tell_pow 12 1 1
    simp only [show (12 : Int) * 10 ^ 1 = 120 by decide, show (1 : Int) - ((1 : Nat) : Int) = 0 by decide] at this
    rw [this]
    exact tellW_fix false 12 1 (by decide) (by decide) (by decide) (by decide) (by decide)
  rw [e1] at h
  exact h
theorem two_ok (e e2 : Int) (o : Option Wd) (h : within e) (h2 : within e2) : twoV e e2 o = decV (toldW o) := by unfold twoV; rw [if_pos ⟨h, h2⟩]
theorem w0 : within 0 := ⟨by decide, by decide⟩
theorem w1' : within (-1) := ⟨by decide, by decide⟩
theorem al_add (w : World) : Calls Tryd.prog 9 #[.agg #[.int .i64 1, .int .i64 (-1)], .agg #[.int .i64 2, .int .i64 (-1)]] w fun r w' => r = .returned (.tuple #[.agg #[.int .i64 3, .int .i64 (-1)], .int .i64 0]) ∧ Below w.heap.size w w' := by
  have h := add_any 1 (-1) 2 (-1) ⟨by decide, by decide⟩ ⟨by decide, by decide⟩ w
  rw [two_ok _ _ _ w1' w1', dec_fix 1 (-1) (by decide) (by decide), dec_fix 2 (-1) (by decide) (by decide)] at h
  rw [show toldW (sumW ⟨decide ((1 : Int) < 0), (1 : Int).natAbs, -1⟩ ⟨decide ((2 : Int) < 0), (2 : Int).natAbs, -1⟩) = some (3, -1) from tellW_fix false 3 (-1) (by decide) (by decide) (by decide) (by decide) (by decide)] at h
  exact h
theorem al_div4 (w : World) : Calls Tryd.prog 18 #[.agg #[.int .i64 1, .int .i64 0], .agg #[.int .i64 4, .int .i64 0]] w fun r w' => r = .returned (.tuple #[.agg #[.int .i64 25, .int .i64 (-2)], .int .i64 0]) ∧ Below w.heap.size w w' := by
  have h := div_any 1 0 4 0 ⟨by decide, by decide⟩ ⟨by decide, by decide⟩ (by decide) w
  have hq : quotW ⟨decide ((1 : Int) < 0), (1 : Int).natAbs, 0⟩ ⟨decide ((4 : Int) < 0), (4 : Int).natAbs, 0⟩ = some ⟨false, 25, -2⟩ := by
    show (quotL 4 1 0).map _ = _
    rw [quotL.eq_def 4, if_neg (by decide), if_neg (by decide), if_pos (by decide), if_pos (by decide)]
    show (quotL 2 5 (-1)).map _ = _
    rw [quotL.eq_def 2, if_neg (by decide), if_neg (by decide), if_pos (by decide), if_pos (by decide)]
    show (quotL 1 25 (-2)).map _ = _
    rw [quotL.eq_def 1, if_pos (by decide)]
    rfl
  rw [two_ok _ _ _ w0 w0, dec_fix 1 0 (by decide) (by decide), dec_fix 4 0 (by decide) (by decide), hq] at h
  rw [show toldW (some ⟨false, 25, -2⟩) = some (25, -2) from tellW_fix false 25 (-2) (by decide) (by decide) (by decide) (by decide) (by decide)] at h
  exact h
theorem al_div3 (w : World) : Calls Tryd.prog 18 #[.agg #[.int .i64 1, .int .i64 0], .agg #[.int .i64 3, .int .i64 0]] w fun r w' => r = .returned (.tuple #[.agg #[.int .i64 0, .int .i64 0], .int .i64 30]) ∧ Below w.heap.size w w' := by
  have h := div_any 1 0 3 0 ⟨by decide, by decide⟩ ⟨by decide, by decide⟩ (by decide) w
  have hq : quotW ⟨decide ((1 : Int) < 0), (1 : Int).natAbs, 0⟩ ⟨decide ((3 : Int) < 0), (3 : Int).natAbs, 0⟩ = none := by
    show (quotL 3 1 0).map _ = _
    rw [quotL.eq_def 3, if_neg (by decide), if_neg (by decide), if_neg (by decide), if_neg (by decide)]
    rfl
  rw [two_ok _ _ _ w0 w0, dec_fix 1 0 (by decide) (by decide), dec_fix 3 0 (by decide) (by decide), hq] at h
  exact h
theorem al_div0 (w : World) : Calls Tryd.prog 18 #[.agg #[.int .i64 1, .int .i64 0], .agg #[.int .i64 0, .int .i64 0]] w fun r w' => r = .returned (.tuple #[.agg #[.int .i64 0, .int .i64 0], .int .i64 31]) ∧ Below w.heap.size w w' :=
  div_zero 1 0 0 ⟨by decide, by decide⟩ w0 w0 w
theorem al_mod (w : World) : Calls Tryd.prog 20 #[.agg #[.int .i64 (-7), .int .i64 0], .agg #[.int .i64 3, .int .i64 0]] w fun r w' => r = .returned (.tuple #[.agg #[.int .i64 2, .int .i64 0], .int .i64 0]) ∧ Below w.heap.size w w' := mod_ex w
theorem al_print (w : World) : Calls Tryd.prog 40 #[.agg #[.int .i64 5, .int .i64 (-3)]] w fun e w' => e = .returned (.string ⟨#[48, 46, 48, 48, 53]⟩) ∧ Below w.heap.size w w' := print5 w
set_option maxRecDepth 100000 in
set_option maxHeartbeats 1000000 in
theorem alive_any (w : World) : Calls Tryd.prog 17 #[] w fun r w' => r = .returned (.bool true) ∧ Below w.heap.size w w' := by
  go_enter Tryd.func17, Tryd.ntmps17
  go_wp2_with fail
  refine (al_make _).mono ?_
  rintro _ w1 ⟨rfl, hB⟩
  have r1 := Row.new w1 23 #[.int .i64 12, .int .i64 1]
  have hB := hB.alloc hB.size (.cells #[.int .i64 12, .int .i64 1] 23)
  go_wp2_with fail
  refine (al_add _).mono ?_
  rintro _ w2 ⟨rfl, hn⟩
  have r1 := r1.below hn r1.lt
  have hB := hB.trans (hn.mono hB.size)
  clear hn
  have r1 := r1.alloc (.cells #[.int .i64 3, .int .i64 (-1)] 23)
  have r2 := Row.new w2 23 #[.int .i64 3, .int .i64 (-1)]
  have hB := hB.alloc hB.size (.cells #[.int .i64 3, .int .i64 (-1)] 23)
  go_wp2_with fail
  refine (al_div4 _).mono ?_
  rintro _ w3 ⟨rfl, hn⟩
  have r1 := r1.below hn r1.lt
  have r2 := r2.below hn r2.lt
  have hB := hB.trans (hn.mono hB.size)
  clear hn
  have r1 := r1.alloc (.cells #[.int .i64 25, .int .i64 (-2)] 23)
  have r2 := r2.alloc (.cells #[.int .i64 25, .int .i64 (-2)] 23)
  have r3 := Row.new w3 23 #[.int .i64 25, .int .i64 (-2)]
  have hB := hB.alloc hB.size (.cells #[.int .i64 25, .int .i64 (-2)] 23)
  go_wp2_with fail
  refine (al_div3 _).mono ?_
  rintro _ w4 ⟨rfl, hn⟩
  have r1 := r1.below hn r1.lt
  have r2 := r2.below hn r2.lt
  have r3 := r3.below hn r3.lt
  have hB := hB.trans (hn.mono hB.size)
  clear hn
  have r1 := r1.alloc (.cells #[.int .i64 0, .int .i64 0] 23)
  have r2 := r2.alloc (.cells #[.int .i64 0, .int .i64 0] 23)
  have r3 := r3.alloc (.cells #[.int .i64 0, .int .i64 0] 23)
  have r4 := Row.new w4 23 #[.int .i64 0, .int .i64 0]
  have hB := hB.alloc hB.size (.cells #[.int .i64 0, .int .i64 0] 23)
  go_wp2_with fail
  refine (al_div0 _).mono ?_
  rintro _ w5 ⟨rfl, hn⟩
  have r1 := r1.below hn r1.lt
  have r2 := r2.below hn r2.lt
  have r3 := r3.below hn r3.lt
  have r4 := r4.below hn r4.lt
  have hB := hB.trans (hn.mono hB.size)
  clear hn
  have r1 := r1.alloc (.cells #[.int .i64 0, .int .i64 0] 23)
  have r2 := r2.alloc (.cells #[.int .i64 0, .int .i64 0] 23)
  have r3 := r3.alloc (.cells #[.int .i64 0, .int .i64 0] 23)
  have r4 := r4.alloc (.cells #[.int .i64 0, .int .i64 0] 23)
  have r5 := Row.new w5 23 #[.int .i64 0, .int .i64 0]
  have hB := hB.alloc hB.size (.cells #[.int .i64 0, .int .i64 0] 23)
  go_wp2_with fail
  refine (al_mod _).mono ?_
  rintro _ w6 ⟨rfl, hn⟩
  have r1 := r1.below hn r1.lt
  have r2 := r2.below hn r2.lt
  have r3 := r3.below hn r3.lt
  have r4 := r4.below hn r4.lt
  have r5 := r5.below hn r5.lt
  have hB := hB.trans (hn.mono hB.size)
  clear hn
  have r1 := r1.alloc (.cells #[.int .i64 2, .int .i64 0] 23)
  have r2 := r2.alloc (.cells #[.int .i64 2, .int .i64 0] 23)
  have r3 := r3.alloc (.cells #[.int .i64 2, .int .i64 0] 23)
  have r4 := r4.alloc (.cells #[.int .i64 2, .int .i64 0] 23)
  have r5 := r5.alloc (.cells #[.int .i64 2, .int .i64 0] 23)
  have r6 := Row.new w6 23 #[.int .i64 2, .int .i64 0]
  have hB := hB.alloc hB.size (.cells #[.int .i64 2, .int .i64 0] 23)
  obtain ⟨x0, x1⟩ := r1.duo
  obtain ⟨y0, y1⟩ := r2.duo
  obtain ⟨z0, z1⟩ := r3.duo
  obtain ⟨u0, u1⟩ := r6.duo
  go_wp2_with fail
  refine (al_print _).mono ?_
  rintro _ w7 ⟨rfl, h7⟩
  go_wp2
  go_ret
  exact ⟨rfl, hB.trans (h7.mono hB.size)⟩
end Go.Proofs.YtfbhonjndepjbaaDoor
/- Right, of any Dec. -/
namespace Go.Proofs.YtfbhonjndepjbaaDoor
open Go.RowKit

end Go.Proofs.YtfbhonjndepjbaaDoor
/- DecLaws: what its calls answer, and its walk. -/
namespace Go.Proofs.YtfbhonjndepjbaaDoor
open Go.RowKit

theorem VW_dec' (c e : Int) (he : within e) : V (-18) (sc (decW c e)) (decW c e).e = V (-18) c e := sc_dec (-18) c e he.1
def D2 (p q : Int) : Value := .agg #[.int .i64 p, .int .i64 q]
end Go.Proofs.YtfbhonjndepjbaaDoor
/- Neg. -/
namespace Go.Proofs.YtfbhonjndepjbaaDoor
open Go.RowKit

end Go.Proofs.YtfbhonjndepjbaaDoor
/- Cmp and Sign of any Decs, told by the numbers' signs. -/
namespace Go.Proofs.YtfbhonjndepjbaaDoor
open Go.RowKit

end Go.Proofs.YtfbhonjndepjbaaDoor
