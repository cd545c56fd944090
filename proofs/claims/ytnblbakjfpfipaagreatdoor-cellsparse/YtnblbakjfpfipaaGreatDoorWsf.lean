import Derived.Test.YtnblbakjfpfipaaGreatDoorRws
/- Shift. -/
namespace Go.Proofs.YtnblbakjfpfipaaGreatDoor
open Go.RowKit

/-- Where a reference moves. -/
def shiftR (x : Rf) (dc dr : Int) : Option Rf :=
  if rightB x && farB x.c (if x.ac then 0 else dc) 64 && farB x.r (if x.ar then 0 else dr) 512 then some ⟨x.s, x.c + (if x.ac then 0 else dc), x.r + (if x.ar then 0 else dr), x.ac, x.ar⟩ else none

set_option maxRecDepth 100000 in
set_option maxHeartbeats 1000000 in
theorem shift_bad (x : Rf) (dc dr : Int) (w : World) (h : rightB x = false) :
    Calls Tryz.prog 25 #[x.v, .int .i64 dc, .int .i64 dr] w fun e w' => e = .returned (.tuple #[Rf.zero.v, .bool false]) ∧ Below w.heap.size w w' := by
  have HR : ∀ W, Hid _ := fun W => right_any x W
  rw [h] at HR
  unfold Rf.v Rf.zero at *
  go_enter Tryz.func25, Tryz.ntmps25
  go_wp2_with fail
  refine Calls.mono (HR _).out ?_
  rintro _ w1 ⟨rfl, h1⟩
  obtain ⟨hA, hZ, hB⟩ := two_rows w w1 _ _ _ _ h1
  obtain ⟨a0, a1, a2, a3, a4⟩ := hA.five
  obtain ⟨d0, d1, d2, d3, d4⟩ := hZ.five
  have z1 := hA.frozen; have z2 := hZ.frozen
  clear h1 HR
  go_wp2
  refine bodyPost_ret (ret_two rfl (g := w.heap.size + 1) rfl rfl (load23 (Row.set5 hZ _ _ _ _ _) rfl)) rfl ⟨rfl, ?_⟩
  exact below_set5 hB (by omega) _ _ _ _ _
set_option maxRecDepth 100000 in
set_option maxHeartbeats 1000000 in
theorem shift_raw (s : ByteArray) (c r : Int) (ac ar : Bool) (dc dr dc' dr' c' r' : Int) (ic ir : Bool) (h : rightB ⟨s, c, r, ac, ar⟩ = true) (e1 : dc' = if ac then 0 else dc) (e2 : dr' = if ar then 0 else dr)
    (hc : ∀ w, Calls Tryz.prog 47 #[.int .i64 c, .int .i64 dc', .int .i64 64] w fun e w' => e = .returned (.tuple #[.int .i64 c', .bool ic]) ∧ w' = w)
    (hr : ∀ w, Calls Tryz.prog 47 #[.int .i64 r, .int .i64 dr', .int .i64 512] w fun e w' => e = .returned (.tuple #[.int .i64 r', .bool ir]) ∧ w' = w) (w : World) :
    Calls Tryz.prog 25 #[.agg #[.string s, .int .i64 c, .int .i64 r, .bool ac, .bool ar], .int .i64 dc, .int .i64 dr] w fun e w' => e = .returned (.tuple #[if ic && ir then .agg #[.string s, .int .i64 c', .int .i64 r', .bool ac, .bool ar] else .agg #[.string .empty, .int .i64 0, .int .i64 0, .bool false, .bool false], .bool (ic && ir)]) ∧ Below w.heap.size w w' := by
  have HR : ∀ W, Hid _ := fun W => right_any ⟨s, c, r, ac, ar⟩ W
  rw [h] at HR
  unfold Rf.v at HR
  simp only at HR
  have HC : Hid _ := hc
  have HW : Hid _ := hr
  clear hc hr h
  go_enter Tryz.func25, Tryz.ntmps25
  go_wp2_with fail
  refine Calls.mono (HR _).out ?_
  rintro _ w1 ⟨rfl, h1⟩
  obtain ⟨hA, hZ, hB⟩ := two_rows w w1 _ _ _ _ h1
  obtain ⟨a0, a1, a2, a3, a4⟩ := hA.five
  obtain ⟨d0, d1, d2, d3, d4⟩ := hZ.five
  have z1 := hA.frozen; have z2 := hZ.frozen
  clear h1 HR
  cases ac <;> cases ar
  all_goals
    simp only [if_true, if_false, Bool.false_eq_true] at e1 e2
    subst e1
    subst e2
    go_wp2_with fail
    refine Calls.mono (HC.out _) ?_
    rintro _ w2 ⟨rfl, rfl⟩
    go_wp2_with fail
    refine Calls.mono (HW.out _) ?_
    rintro _ w2 ⟨rfl, rfl⟩
    clear HC HW
    cases ic
    · go_wp2
      refine bodyPost_ret (ret_two rfl (g := w.heap.size + 1) rfl rfl (load23 (Row.set5 hZ _ _ _ _ _) rfl)) rfl ⟨rfl, ?_⟩
      exact below_set5 hB (by omega) _ _ _ _ _
    cases ir
    · go_wp2
      refine bodyPost_ret (ret_two rfl (g := w.heap.size + 1) rfl rfl (load23 (Row.set5 hZ _ _ _ _ _) rfl)) rfl ⟨rfl, ?_⟩
      exact below_set5 hB (by omega) _ _ _ _ _
    go_wp2
    refine bodyPost_ret (ret_two rfl (g := w.heap.size + 1) rfl rfl (load23 (Row.set5 ((hZ.off _ _ (by omega)).off _ _ (by omega)) _ _ _ _ _) rfl)) rfl ⟨rfl, ?_⟩
    exact below_set5 (below_set (below_set hB _ _ (by omega)) _ _ (by omega)) (by omega) _ _ _ _ _
theorem rightB_bounds {x : Rf} (h : rightB x = true) : 1 ≤ x.c ∧ x.c ≤ 64 ∧ 1 ≤ x.r ∧ x.r ≤ 512 := by
  simp [rightB, colB, rowB] at h
  omega
theorem shift_any (x : Rf) (dc dr : Int) (hc1 : -9223372036854775808 ≤ dc) (hc2 : dc ≤ 9223372036854775807) (hr1 : -9223372036854775808 ≤ dr) (hr2 : dr ≤ 9223372036854775807) (w : World) :
    Calls Tryz.prog 25 #[x.v, .int .i64 dc, .int .i64 dr] w fun e w' => e = .returned (.tuple #[((shiftR x dc dr).getD Rf.zero).v, .bool (shiftR x dc dr).isSome]) ∧ Below w.heap.size w w' := by
  cases h : rightB x
  · have e : shiftR x dc dr = none := by unfold shiftR; rw [h]; rfl
    rw [e]
    exact shift_bad x dc dr w h
  · obtain ⟨s, c, r, ac, ar⟩ := x
    have hb := rightB_bounds h
    simp only at hb
    have f1 := further_any c (if ac then 0 else dc) 64 (by omega) (by omega) (by omega) (by split <;> omega) (by split <;> omega)
    have f2 := further_any r (if ar then 0 else dr) 512 (by omega) (by omega) (by omega) (by split <;> omega) (by split <;> omega)
    have := shift_raw s c r ac ar dc dr _ _ _ _ _ _ h rfl rfl f1 f2 w
    refine this.mono ?_
    rintro e w' ⟨rfl, hB⟩
    refine ⟨?_, hB⟩
    unfold shiftR
    rw [h]
    simp only [Bool.true_and]
    cases h1 : farB c (if ac then 0 else dc) 64 <;> cases h2 : farB r (if ar then 0 else dr) 512 <;> rfl
end Go.Proofs.YtnblbakjfpfipaaGreatDoor
