import Derived.Test.YtfbhonjndepjbaaDoorPqpM
import Derived.Test.YtfbhonjndepjbaaDoorWit
/- dec: Pow. -/
namespace Go.Proofs.YtfbhonjndepjbaaDoor
open Go.RowKit

def numE : Value := .tuple #[dv 0 0, .int .i64 30]
def powA (y : Wd) (n : Int) : Value :=
  if n < -64 ∨ 64 < n then numE else if n < 0 then (if y.n = 0 then divV else decV (toldW ((quotW oneW y).bind fun f => if f.n < 18446744073709551616 then powW f n.natAbs else none))) else decV (toldW (powW y n.toNat))
/-- What Pow answers. -/
def powV (c e c2 e2 : Int) : Value := if (-18 ≤ e ∧ e ≤ 18) ∧ (-18 ≤ e2 ∧ e2 ≤ 18) then
  (if 0 ≤ (decW c2 e2).e ∧ (decW c2 e2).n * 10 ^ (decW c2 e2).e.toNat ≤ 9007199254740992 then powA (decW c e) (sc (decW c2 e2) * 10 ^ (decW c2 e2).e.toNat) else numE) else argV
theorem cells_small (y : Wd) (h : y.n < 18446744073709551616) : y.cells = #[.bool y.neg, .int .u64 0, .int .u64 (y.n : Int), .int .i64 y.e] := by
  unfold Wd.cells
  rw [show y.n / 18446744073709551616 = 0 by omega, show y.n % 18446744073709551616 = y.n by omega]
  rfl
set_option maxRecDepth 100000 in
set_option maxHeartbeats 800000 in
theorem pow_bad1 (c e c2 e2 : Int) (he : ¬ within e) (w : World) :
    Calls Tryd.prog 22 #[dv c e, dv c2 e2] w fun r w' => r = .returned (.tuple #[dv 0 0, .int .i64 1]) ∧ Below w.heap.size w w' := by
  unfold dv
  go_enter Tryd.func22, Tryd.ntmps22
  go_wp2_with fail
  obtain ⟨_, _, _, hK, _⟩ := four_rows w _ _ _ _ _ 23 23 23 23 (Below.refl _ ((((w.alloc (.cells #[.int .i64 c, .int .i64 e] 23)).alloc (.cells #[.int .i64 c2, .int .i64 e2] 23)).alloc (.cells #[.int .i64 0, .int .i64 0] 23)).alloc (.cells #[.int .i64 c, .int .i64 e, .int .i64 c2, .int .i64 e2] 23)))
  refine (taken2_bad1 c e c2 e2 _ _ he hK).mono ?_
  rintro _ w1 ⟨h1, rfl⟩
  obtain ⟨_, _, hZ, _, hB⟩ := four_rows w w1 _ _ _ _ _ _ _ _ h1
  obtain ⟨d0, d1⟩ := hZ.duo
  have z := hZ.frozen
  clear h1
  go_wp2
  refine bodyPost_ret (ret_two rfl (g := w.heap.size + 2) rfl rfl (load23 (Row.set2 hZ _ _) rfl)) rfl ⟨rfl, ?_⟩
  repeat (refine below_set ?_ _ _ (by omega))
  exact hB
set_option maxRecDepth 100000 in
set_option maxHeartbeats 800000 in
theorem pow_bad2 (c e c2 e2 : Int) (hc : I64 c) (he : within e) (he2 : ¬ within e2) (w : World) :
    Calls Tryd.prog 22 #[dv c e, dv c2 e2] w fun r w' => r = .returned (.tuple #[dv 0 0, .int .i64 1]) ∧ Below w.heap.size w w' := by
  unfold dv
  go_enter Tryd.func22, Tryd.ntmps22
  go_wp2_with fail
  obtain ⟨_, _, _, hK, _⟩ := four_rows w _ _ _ _ _ 23 23 23 23 (Below.refl _ ((((w.alloc (.cells #[.int .i64 c, .int .i64 e] 23)).alloc (.cells #[.int .i64 c2, .int .i64 e2] 23)).alloc (.cells #[.int .i64 0, .int .i64 0] 23)).alloc (.cells #[.int .i64 c, .int .i64 e, .int .i64 c2, .int .i64 e2] 23)))
  refine (taken2_bad2 c e c2 e2 _ _ hc he he2 hK).mono ?_
  rintro _ w1 ⟨h1, rfl⟩
  obtain ⟨_, _, hZ, _, hB⟩ := four_rows w w1 _ _ _ _ _ _ _ _ h1
  obtain ⟨d0, d1⟩ := hZ.duo
  have z := hZ.frozen
  clear h1
  go_wp2
  refine bodyPost_ret (ret_two rfl (g := w.heap.size + 2) rfl rfl (load23 (Row.set2 hZ _ _) rfl)) rfl ⟨rfl, ?_⟩
  repeat (refine below_set ?_ _ _ (by omega))
  exact hB
set_option maxRecDepth 100000 in
set_option maxHeartbeats 2000000 in
theorem pow_nowhole (c e c2 e2 : Int) (hc : I64 c) (he : within e) (hc2 : I64 c2) (he2 : within e2) (y : Wd) (hy : decW c e = y) (hm : y.n < 18446744073709551616) (hye : -1000 ≤ y.e ∧ y.e ≤ 1000) (HI : ∀ V, Hid (Calls Tryd.prog 36 #[.agg #[.int .i64 c2, .int .i64 e2]] V fun r w' => r = .returned (.tuple #[.int .i64 0, .bool false]) ∧ Below V.heap.size V w')) (w : World) :
    Calls Tryd.prog 22 #[dv c e, dv c2 e2] w fun r w' => r = .returned (.tuple #[dv 0 0, .int .i64 30]) ∧ Below w.heap.size w w' := by
  have hT := fun K w (hK : Row w K 23 #[.int .i64 c, .int .i64 e, .int .i64 c2, .int .i64 e2]) => taken2 c e c2 e2 K w hc he hc2 he2 hK
  obtain ⟨yn, m, ye⟩ := y
  rw [hy, cells_small _ hm] at hT
  simp only at hT hm hye
  obtain ⟨z0, z1, z2, z3, hz⟩ : ∃ y0 y1 y2 y3, (decW c2 e2).cells = #[y0, y1, y2, y3] := ⟨_, _, _, _, rfl⟩
  simp only [hz] at hT
  clear hc he hc2 he2 hy
  unfold dv
  go_enter Tryd.func22, Tryd.ntmps22
  go_wp2_with fail
  obtain ⟨_, _, _, hK, _⟩ := four_rows w _ _ _ _ _ 23 23 23 23 (Below.refl _ ((((w.alloc (.cells #[.int .i64 c, .int .i64 e] 23)).alloc (.cells #[.int .i64 c2, .int .i64 e2] 23)).alloc (.cells #[.int .i64 0, .int .i64 0] 23)).alloc (.cells #[.int .i64 c, .int .i64 e, .int .i64 c2, .int .i64 e2] 23)))
  refine (hT _ _ hK).mono ?_
  rintro _ W ⟨h1, G, hG, rfl, hR⟩
  obtain ⟨_, hC2, hZ, _, hB⟩ := four_rows w W _ _ _ _ _ _ _ _ h1
  have hGn : w.heap.size + 2 ≠ G := by simp at hG; omega
  have hR : Row W G 59 #[.bool yn, .int .u64 0, .int .u64 (m : Int), .int .i64 ye, z0, z1, z2, z3] := hR
  clear h1 hG hK hT
  obtain ⟨g0, g1, g2, g3, g4, g5, g6, g7⟩ := hR.eight
  obtain ⟨v0, v1⟩ := (hC2.alloc (.cells #[.bool yn, .int .u64 0, .int .u64 (m : Int), .int .i64 ye] 59)).duo
  have lC := hC2.lt
  have rF := Row.new W 59 #[.bool yn, .int .u64 0, .int .u64 (m : Int), .int .i64 ye]
  have rZ := hZ.alloc (.cells #[.bool yn, .int .u64 0, .int .u64 (m : Int), .int .i64 ye] 59)
  have rB := hB.alloc hB.size (.cells #[.bool yn, .int .u64 0, .int .u64 (m : Int), .int .i64 ye] 59)
  have hFl : w.heap.size + 2 < W.heap.size := hZ.lt
  go_wp2_with fail
  refine Calls.mono (HI _).out ?_
  rintro _ w2 ⟨rfl, b2⟩
  have hF := rF.below b2 rF.lt
  have hZ2 := rZ.below b2 rZ.lt
  have hB2 := rB.trans (b2.mono rB.size)
  generalize W.heap.size = F at *
  clear lC g0 g1 g2 g3 g4 g5 g6 g7 v0 v1 rF rZ rB hR hZ hC2 hB b2 HI hz
  obtain ⟨d0, d1⟩ := hZ2.duo
  have z := hZ2.frozen
  go_wp2
  refine bodyPost_ret (ret_two rfl (g := w.heap.size + 2) rfl rfl (load23 (Row.set2 hZ2 _ _) rfl)) rfl ⟨rfl, ?_⟩
  repeat (refine below_set ?_ _ _ (by omega))
  exact hB2
set_option maxRecDepth 100000 in
set_option maxHeartbeats 2000000 in
theorem pow_low (c e c2 e2 : Int) (hc : I64 c) (he : within e) (hc2 : I64 c2) (he2 : within e2) (y : Wd) (hy : decW c e = y) (hm : y.n < 18446744073709551616) (hye : -1000 ≤ y.e ∧ y.e ≤ 1000) (n : Int) (HI : ∀ V, Hid (Calls Tryd.prog 36 #[.agg #[.int .i64 c2, .int .i64 e2]] V fun r w' => r = .returned (.tuple #[.int .i64 n, .bool true]) ∧ Below V.heap.size V w')) (hn : n < -64) (w : World) :
    Calls Tryd.prog 22 #[dv c e, dv c2 e2] w fun r w' => r = .returned (.tuple #[dv 0 0, .int .i64 30]) ∧ Below w.heap.size w w' := by
  have hT := fun K w (hK : Row w K 23 #[.int .i64 c, .int .i64 e, .int .i64 c2, .int .i64 e2]) => taken2 c e c2 e2 K w hc he hc2 he2 hK
  obtain ⟨yn, m, ye⟩ := y
  rw [hy, cells_small _ hm] at hT
  simp only at hT hm hye
  obtain ⟨z0, z1, z2, z3, hz⟩ : ∃ y0 y1 y2 y3, (decW c2 e2).cells = #[y0, y1, y2, y3] := ⟨_, _, _, _, rfl⟩
  simp only [hz] at hT
  clear hc he hc2 he2 hy
  unfold dv
  go_enter Tryd.func22, Tryd.ntmps22
  go_wp2_with fail
  obtain ⟨_, _, _, hK, _⟩ := four_rows w _ _ _ _ _ 23 23 23 23 (Below.refl _ ((((w.alloc (.cells #[.int .i64 c, .int .i64 e] 23)).alloc (.cells #[.int .i64 c2, .int .i64 e2] 23)).alloc (.cells #[.int .i64 0, .int .i64 0] 23)).alloc (.cells #[.int .i64 c, .int .i64 e, .int .i64 c2, .int .i64 e2] 23)))
  refine (hT _ _ hK).mono ?_
  rintro _ W ⟨h1, G, hG, rfl, hR⟩
  obtain ⟨_, hC2, hZ, _, hB⟩ := four_rows w W _ _ _ _ _ _ _ _ h1
  have hGn : w.heap.size + 2 ≠ G := by simp at hG; omega
  have hR : Row W G 59 #[.bool yn, .int .u64 0, .int .u64 (m : Int), .int .i64 ye, z0, z1, z2, z3] := hR
  clear h1 hG hK hT
  obtain ⟨g0, g1, g2, g3, g4, g5, g6, g7⟩ := hR.eight
  obtain ⟨v0, v1⟩ := (hC2.alloc (.cells #[.bool yn, .int .u64 0, .int .u64 (m : Int), .int .i64 ye] 59)).duo
  have lC := hC2.lt
  have rF := Row.new W 59 #[.bool yn, .int .u64 0, .int .u64 (m : Int), .int .i64 ye]
  have rZ := hZ.alloc (.cells #[.bool yn, .int .u64 0, .int .u64 (m : Int), .int .i64 ye] 59)
  have rB := hB.alloc hB.size (.cells #[.bool yn, .int .u64 0, .int .u64 (m : Int), .int .i64 ye] 59)
  have hFl : w.heap.size + 2 < W.heap.size := hZ.lt
  go_wp2_with fail
  refine Calls.mono (HI _).out ?_
  rintro _ w2 ⟨rfl, b2⟩
  have hF := rF.below b2 rF.lt
  have hZ2 := rZ.below b2 rZ.lt
  have hB2 := rB.trans (b2.mono rB.size)
  generalize W.heap.size = F at *
  clear lC g0 g1 g2 g3 g4 g5 g6 g7 v0 v1 rF rZ rB hR hZ hC2 hB b2 HI hz
  obtain ⟨d0, d1⟩ := hZ2.duo
  have z := hZ2.frozen
  go_wp2
  refine bodyPost_ret (ret_two rfl (g := w.heap.size + 2) rfl rfl (load23 (Row.set2 hZ2 _ _) rfl)) rfl ⟨rfl, ?_⟩
  repeat (refine below_set ?_ _ _ (by omega))
  exact hB2
set_option maxRecDepth 100000 in
set_option maxHeartbeats 2000000 in
theorem pow_high (c e c2 e2 : Int) (hc : I64 c) (he : within e) (hc2 : I64 c2) (he2 : within e2) (y : Wd) (hy : decW c e = y) (hm : y.n < 18446744073709551616) (hye : -1000 ≤ y.e ∧ y.e ≤ 1000) (n : Int) (HI : ∀ V, Hid (Calls Tryd.prog 36 #[.agg #[.int .i64 c2, .int .i64 e2]] V fun r w' => r = .returned (.tuple #[.int .i64 n, .bool true]) ∧ Below V.heap.size V w')) (hn : 64 < n) (w : World) :
    Calls Tryd.prog 22 #[dv c e, dv c2 e2] w fun r w' => r = .returned (.tuple #[dv 0 0, .int .i64 30]) ∧ Below w.heap.size w w' := by
  have hT := fun K w (hK : Row w K 23 #[.int .i64 c, .int .i64 e, .int .i64 c2, .int .i64 e2]) => taken2 c e c2 e2 K w hc he hc2 he2 hK
  obtain ⟨yn, m, ye⟩ := y
  rw [hy, cells_small _ hm] at hT
  simp only at hT hm hye
  obtain ⟨z0, z1, z2, z3, hz⟩ : ∃ y0 y1 y2 y3, (decW c2 e2).cells = #[y0, y1, y2, y3] := ⟨_, _, _, _, rfl⟩
  simp only [hz] at hT
  clear hc he hc2 he2 hy
  unfold dv
  go_enter Tryd.func22, Tryd.ntmps22
  go_wp2_with fail
  obtain ⟨_, _, _, hK, _⟩ := four_rows w _ _ _ _ _ 23 23 23 23 (Below.refl _ ((((w.alloc (.cells #[.int .i64 c, .int .i64 e] 23)).alloc (.cells #[.int .i64 c2, .int .i64 e2] 23)).alloc (.cells #[.int .i64 0, .int .i64 0] 23)).alloc (.cells #[.int .i64 c, .int .i64 e, .int .i64 c2, .int .i64 e2] 23)))
  refine (hT _ _ hK).mono ?_
  rintro _ W ⟨h1, G, hG, rfl, hR⟩
  obtain ⟨_, hC2, hZ, _, hB⟩ := four_rows w W _ _ _ _ _ _ _ _ h1
  have hGn : w.heap.size + 2 ≠ G := by simp at hG; omega
  have hR : Row W G 59 #[.bool yn, .int .u64 0, .int .u64 (m : Int), .int .i64 ye, z0, z1, z2, z3] := hR
  clear h1 hG hK hT
  obtain ⟨g0, g1, g2, g3, g4, g5, g6, g7⟩ := hR.eight
  obtain ⟨v0, v1⟩ := (hC2.alloc (.cells #[.bool yn, .int .u64 0, .int .u64 (m : Int), .int .i64 ye] 59)).duo
  have lC := hC2.lt
  have rF := Row.new W 59 #[.bool yn, .int .u64 0, .int .u64 (m : Int), .int .i64 ye]
  have rZ := hZ.alloc (.cells #[.bool yn, .int .u64 0, .int .u64 (m : Int), .int .i64 ye] 59)
  have rB := hB.alloc hB.size (.cells #[.bool yn, .int .u64 0, .int .u64 (m : Int), .int .i64 ye] 59)
  have hFl : w.heap.size + 2 < W.heap.size := hZ.lt
  go_wp2_with fail
  refine Calls.mono (HI _).out ?_
  rintro _ w2 ⟨rfl, b2⟩
  have hF := rF.below b2 rF.lt
  have hZ2 := rZ.below b2 rZ.lt
  have hB2 := rB.trans (b2.mono rB.size)
  generalize W.heap.size = F at *
  clear lC g0 g1 g2 g3 g4 g5 g6 g7 v0 v1 rF rZ rB hR hZ hC2 hB b2 HI hz
  have hn2 : ¬ n < -64 := by omega
  obtain ⟨d0, d1⟩ := hZ2.duo
  have z := hZ2.frozen
  go_wp2
  refine bodyPost_ret (ret_two rfl (g := w.heap.size + 2) rfl rfl (load23 (Row.set2 hZ2 _ _) rfl)) rfl ⟨rfl, ?_⟩
  repeat (refine below_set ?_ _ _ (by omega))
  exact hB2
set_option maxRecDepth 100000 in
set_option maxHeartbeats 2000000 in
theorem pow_zero (c e c2 e2 : Int) (hc : I64 c) (he : within e) (hc2 : I64 c2) (he2 : within e2) (y : Wd) (hy : decW c e = y) (hm : y.n < 18446744073709551616) (hye : -1000 ≤ y.e ∧ y.e ≤ 1000) (n : Int) (HI : ∀ V, Hid (Calls Tryd.prog 36 #[.agg #[.int .i64 c2, .int .i64 e2]] V fun r w' => r = .returned (.tuple #[.int .i64 n, .bool true]) ∧ Below V.heap.size V w')) (hn : -64 ≤ n) (hn0 : n < 0) (hm0 : Hid (y.n = 0)) (w : World) :
    Calls Tryd.prog 22 #[dv c e, dv c2 e2] w fun r w' => r = .returned (.tuple #[dv 0 0, .int .i64 31]) ∧ Below w.heap.size w w' := by
  have hT := fun K w (hK : Row w K 23 #[.int .i64 c, .int .i64 e, .int .i64 c2, .int .i64 e2]) => taken2 c e c2 e2 K w hc he hc2 he2 hK
  obtain ⟨yn, m, ye⟩ := y
  rw [hy, cells_small _ hm] at hT
  simp only at hT hm hye
  obtain ⟨z0, z1, z2, z3, hz⟩ : ∃ y0 y1 y2 y3, (decW c2 e2).cells = #[y0, y1, y2, y3] := ⟨_, _, _, _, rfl⟩
  simp only [hz] at hT
  clear hc he hc2 he2 hy
  unfold dv
  go_enter Tryd.func22, Tryd.ntmps22
  go_wp2_with fail
  obtain ⟨_, _, _, hK, _⟩ := four_rows w _ _ _ _ _ 23 23 23 23 (Below.refl _ ((((w.alloc (.cells #[.int .i64 c, .int .i64 e] 23)).alloc (.cells #[.int .i64 c2, .int .i64 e2] 23)).alloc (.cells #[.int .i64 0, .int .i64 0] 23)).alloc (.cells #[.int .i64 c, .int .i64 e, .int .i64 c2, .int .i64 e2] 23)))
  refine (hT _ _ hK).mono ?_
  rintro _ W ⟨h1, G, hG, rfl, hR⟩
  obtain ⟨_, hC2, hZ, _, hB⟩ := four_rows w W _ _ _ _ _ _ _ _ h1
  have hGn : w.heap.size + 2 ≠ G := by simp at hG; omega
  have hR : Row W G 59 #[.bool yn, .int .u64 0, .int .u64 (m : Int), .int .i64 ye, z0, z1, z2, z3] := hR
  clear h1 hG hK hT
  obtain ⟨g0, g1, g2, g3, g4, g5, g6, g7⟩ := hR.eight
  obtain ⟨v0, v1⟩ := (hC2.alloc (.cells #[.bool yn, .int .u64 0, .int .u64 (m : Int), .int .i64 ye] 59)).duo
  have lC := hC2.lt
  have rF := Row.new W 59 #[.bool yn, .int .u64 0, .int .u64 (m : Int), .int .i64 ye]
  have rZ := hZ.alloc (.cells #[.bool yn, .int .u64 0, .int .u64 (m : Int), .int .i64 ye] 59)
  have rB := hB.alloc hB.size (.cells #[.bool yn, .int .u64 0, .int .u64 (m : Int), .int .i64 ye] 59)
  have hFl : w.heap.size + 2 < W.heap.size := hZ.lt
  go_wp2_with fail
  refine Calls.mono (HI _).out ?_
  rintro _ w2 ⟨rfl, b2⟩
  have hF := rF.below b2 rF.lt
  have hZ2 := rZ.below b2 rZ.lt
  have hB2 := rB.trans (b2.mono rB.size)
  generalize W.heap.size = F at *
  clear lC g0 g1 g2 g3 g4 g5 g6 g7 v0 v1 rF rZ rB hR hZ hC2 hB b2 HI hz
  have hm0 : Hid (m = 0) := hm0
  have HZC : ∀ V, Hid (Calls Tryd.prog 61 #[.agg #[.bool yn, .int .u64 0, .int .u64 (m : Int), .int .i64 ye]] V fun r w' => r = .returned (.bool true) ∧ Below V.heap.size V w') := fun V => by
    have := zero_any yn 0 m ye V
    rw [show decide ((0 : Nat) = 0 ∧ m = 0) = true by have := hm0.out; simp; omega] at this
    exact this
  obtain ⟨f0, f1, f2, f3⟩ := hF.four
  have hn1 : ¬ n < -64 := by omega
  have hn2 : ¬ 64 < n := by omega
  go_wp2_with fail
  refine Calls.mono (HZC _).out ?_
  rintro _ w3 ⟨rfl, b3⟩
  have hZ2 := hZ2.below b3 hZ2.lt
  have hB2 := hB2.trans (b3.mono hB2.size)
  clear b3 f0 f1 f2 f3 HZC
  obtain ⟨d0, d1⟩ := hZ2.duo
  have z := hZ2.frozen
  go_wp2
  refine bodyPost_ret (ret_two rfl (g := w.heap.size + 2) rfl rfl (load23 (Row.set2 hZ2 _ _) rfl)) rfl ⟨rfl, ?_⟩
  repeat (refine below_set ?_ _ _ (by omega))
  exact hB2
set_option maxRecDepth 100000 in
set_option maxHeartbeats 2000000 in
theorem pow_pos (c e c2 e2 : Int) (hc : I64 c) (he : within e) (hc2 : I64 c2) (he2 : within e2) (y : Wd) (hy : decW c e = y) (hm : y.n < 18446744073709551616) (hye : -1000 ≤ y.e ∧ y.e ≤ 1000) (n : Int) (o : Option Wd) (HI : ∀ V, Hid (Calls Tryd.prog 36 #[.agg #[.int .i64 c2, .int .i64 e2]] V fun r w' => r = .returned (.tuple #[.int .i64 n, .bool true]) ∧ Below V.heap.size V w')) (hn0 : 0 ≤ n) (hn : n ≤ 64) (HP : ∀ V, Hid (Calls Tryd.prog 63 #[.agg #[.bool y.neg, .int .u64 0, .int .u64 (y.n : Int), .int .i64 y.e], .int .i64 n] V fun r w' => WayR o r ∧ Below V.heap.size V w')) (w : World) :
    Calls Tryd.prog 22 #[dv c e, dv c2 e2] w fun r w' => r = .returned (decV (toldW o)) ∧ Below w.heap.size w w' := by
  obtain ⟨p, q, v, hdv⟩ := decV_form (toldW o)
  have HDV : Hid (decV (toldW o) = .tuple #[.agg #[.int .i64 p, .int .i64 q], .int .i64 v]) := hdv
  rw [hdv]
  clear hdv
  have hT := fun K w (hK : Row w K 23 #[.int .i64 c, .int .i64 e, .int .i64 c2, .int .i64 e2]) => taken2 c e c2 e2 K w hc he hc2 he2 hK
  obtain ⟨yn, m, ye⟩ := y
  rw [hy, cells_small _ hm] at hT
  simp only at hT hm hye
  obtain ⟨z0, z1, z2, z3, hz⟩ : ∃ y0 y1 y2 y3, (decW c2 e2).cells = #[y0, y1, y2, y3] := ⟨_, _, _, _, rfl⟩
  simp only [hz] at hT
  clear hc he hc2 he2 hy
  unfold dv
  go_enter Tryd.func22, Tryd.ntmps22
  go_wp2_with fail
  obtain ⟨_, _, _, hK, _⟩ := four_rows w _ _ _ _ _ 23 23 23 23 (Below.refl _ ((((w.alloc (.cells #[.int .i64 c, .int .i64 e] 23)).alloc (.cells #[.int .i64 c2, .int .i64 e2] 23)).alloc (.cells #[.int .i64 0, .int .i64 0] 23)).alloc (.cells #[.int .i64 c, .int .i64 e, .int .i64 c2, .int .i64 e2] 23)))
  refine (hT _ _ hK).mono ?_
  rintro _ W ⟨h1, G, hG, rfl, hR⟩
  obtain ⟨_, hC2, hZ, _, hB⟩ := four_rows w W _ _ _ _ _ _ _ _ h1
  have hGn : w.heap.size + 2 ≠ G := by simp at hG; omega
  have hR : Row W G 59 #[.bool yn, .int .u64 0, .int .u64 (m : Int), .int .i64 ye, z0, z1, z2, z3] := hR
  clear h1 hG hK hT
  obtain ⟨g0, g1, g2, g3, g4, g5, g6, g7⟩ := hR.eight
  obtain ⟨v0, v1⟩ := (hC2.alloc (.cells #[.bool yn, .int .u64 0, .int .u64 (m : Int), .int .i64 ye] 59)).duo
  have lC := hC2.lt
  have rF := Row.new W 59 #[.bool yn, .int .u64 0, .int .u64 (m : Int), .int .i64 ye]
  have rZ := hZ.alloc (.cells #[.bool yn, .int .u64 0, .int .u64 (m : Int), .int .i64 ye] 59)
  have rB := hB.alloc hB.size (.cells #[.bool yn, .int .u64 0, .int .u64 (m : Int), .int .i64 ye] 59)
  have hFl : w.heap.size + 2 < W.heap.size := hZ.lt
  go_wp2_with fail
  refine Calls.mono (HI _).out ?_
  rintro _ w2 ⟨rfl, b2⟩
  have hF := rF.below b2 rF.lt
  have hZ2 := rZ.below b2 rZ.lt
  have hB2 := rB.trans (b2.mono rB.size)
  generalize W.heap.size = F at *
  clear lC g0 g1 g2 g3 g4 g5 g6 g7 v0 v1 rF rZ rB hR hZ hC2 hB b2 HI hz
  try simp only at HP
  obtain ⟨f0, f1, f2, f3⟩ := hF.four
  have hn1 : ¬ n < -64 := by omega
  have hn2 : ¬ 64 < n := by omega
  have hn3 : ¬ n < 0 := by omega
  go_wp2_with fail
  refine Calls.mono (HP _).out ?_
  rintro _ w4 ⟨⟨x, t, rfl, x1, x2, x3, x4⟩, b4⟩
  have hZ4 := hZ2.below b4 hZ2.lt
  have hB4 := hB2.trans (b4.mono hB2.size)
  have hTD := told_any x t x1 x3 x2
  rw [show (if t = true then tellW x.neg x.n x.e else none) = toldW o by rw [x4]; cases t <;> rfl] at hTD
  rw [HDV.out] at hTD
  obtain ⟨d0, d1, d2, d3, hxv⟩ := val_agg x
  rw [hxv] at hTD ⊢
  clear b4 HP x1 x2 x3 x4 hxv hZ2 hB2
  go_wp2_with fail
  refine (hTD _).mono ?_
  rintro _ w5 ⟨rfl, b5⟩
  have hZ5 := hZ4.below b5 hZ4.lt
  have hB5 := hB4.trans (b5.mono hB4.size)
  clear b5 hTD hZ4 hB4
  obtain ⟨e0, e1⟩ := hZ5.duo
  have z := hZ5.frozen
  go_wp2
  refine bodyPost_ret (ret_two rfl (g := w.heap.size + 2) rfl rfl (load23 (Row.set2 hZ5 _ _) rfl)) rfl ⟨rfl, ?_⟩
  repeat (refine below_set ?_ _ _ (by omega))
  exact hB5
set_option maxRecDepth 100000 in
set_option maxHeartbeats 6000000 in
theorem pow_neg (c e c2 e2 : Int) (hc : I64 c) (he : within e) (hc2 : I64 c2) (he2 : within e2) (y : Wd) (hy : decW c e = y) (hm : y.n < 18446744073709551616) (hye : -1000 ≤ y.e ∧ y.e ≤ 1000) (n : Int) (o qo : Option Wd) (HI : ∀ V, Hid (Calls Tryd.prog 36 #[.agg #[.int .i64 c2, .int .i64 e2]] V fun r w' => r = .returned (.tuple #[.int .i64 n, .bool true]) ∧ Below V.heap.size V w')) (hn0 : n < 0) (hn : -64 ≤ n) (hm0 : Hid (y.n ≠ 0)) (HQ : ∀ V, Hid (Calls Tryd.prog 56 #[.agg #[.bool false, .int .u64 0, .int .u64 1, .int .i64 0], .agg #[.bool y.neg, .int .u64 0, .int .u64 (y.n : Int), .int .i64 y.e]] V fun r w' => WayR qo r ∧ Below V.heap.size V w')) (HO : Hid ((qo = none → o = none) ∧ ∀ x, qo = some x → ∀ V, Hid (Calls Tryd.prog 63 #[x.val, .int .i64 (-n)] V fun r w' => WayR o r ∧ Below V.heap.size V w'))) (w : World) :
    Calls Tryd.prog 22 #[dv c e, dv c2 e2] w fun r w' => r = .returned (decV (toldW o)) ∧ Below w.heap.size w w' := by
  obtain ⟨p, q, v, hdv⟩ := decV_form (toldW o)
  have HDV : Hid (decV (toldW o) = .tuple #[.agg #[.int .i64 p, .int .i64 q], .int .i64 v]) := hdv
  rw [hdv]
  clear hdv
  have hT := fun K w (hK : Row w K 23 #[.int .i64 c, .int .i64 e, .int .i64 c2, .int .i64 e2]) => taken2 c e c2 e2 K w hc he hc2 he2 hK
  obtain ⟨yn, m, ye⟩ := y
  rw [hy, cells_small _ hm] at hT
  simp only at hT hm hye
  obtain ⟨z0, z1, z2, z3, hz⟩ : ∃ y0 y1 y2 y3, (decW c2 e2).cells = #[y0, y1, y2, y3] := ⟨_, _, _, _, rfl⟩
  simp only [hz] at hT
  clear hc he hc2 he2 hy
  unfold dv
  go_enter Tryd.func22, Tryd.ntmps22
  go_wp2_with fail
  obtain ⟨_, _, _, hK, _⟩ := four_rows w _ _ _ _ _ 23 23 23 23 (Below.refl _ ((((w.alloc (.cells #[.int .i64 c, .int .i64 e] 23)).alloc (.cells #[.int .i64 c2, .int .i64 e2] 23)).alloc (.cells #[.int .i64 0, .int .i64 0] 23)).alloc (.cells #[.int .i64 c, .int .i64 e, .int .i64 c2, .int .i64 e2] 23)))
  refine (hT _ _ hK).mono ?_
  rintro _ W ⟨h1, G, hG, rfl, hR⟩
  obtain ⟨_, hC2, hZ, _, hB⟩ := four_rows w W _ _ _ _ _ _ _ _ h1
  have hGn : w.heap.size + 2 ≠ G := by simp at hG; omega
  have hR : Row W G 59 #[.bool yn, .int .u64 0, .int .u64 (m : Int), .int .i64 ye, z0, z1, z2, z3] := hR
  clear h1 hG hK hT
  obtain ⟨g0, g1, g2, g3, g4, g5, g6, g7⟩ := hR.eight
  obtain ⟨v0, v1⟩ := (hC2.alloc (.cells #[.bool yn, .int .u64 0, .int .u64 (m : Int), .int .i64 ye] 59)).duo
  have lC := hC2.lt
  have rF := Row.new W 59 #[.bool yn, .int .u64 0, .int .u64 (m : Int), .int .i64 ye]
  have rZ := hZ.alloc (.cells #[.bool yn, .int .u64 0, .int .u64 (m : Int), .int .i64 ye] 59)
  have rB := hB.alloc hB.size (.cells #[.bool yn, .int .u64 0, .int .u64 (m : Int), .int .i64 ye] 59)
  have hFl : w.heap.size + 2 < W.heap.size := hZ.lt
  go_wp2_with fail
  refine Calls.mono (HI _).out ?_
  rintro _ w2 ⟨rfl, b2⟩
  have hF := rF.below b2 rF.lt
  have hZ2 := rZ.below b2 rZ.lt
  have hB2 := rB.trans (b2.mono rB.size)
  generalize W.heap.size = F at *
  clear lC g0 g1 g2 g3 g4 g5 g6 g7 v0 v1 rF rZ rB hR hZ hC2 hB b2 HI hz
  have hm0 : Hid (m ≠ 0) := hm0
  try simp only at HQ
  have HZC : ∀ V, Hid (Calls Tryd.prog 61 #[.agg #[.bool yn, .int .u64 0, .int .u64 (m : Int), .int .i64 ye]] V fun r w' => r = .returned (.bool false) ∧ Below V.heap.size V w') := fun V => by
    have := zero_any yn 0 m ye V
    rw [show decide ((0 : Nat) = 0 ∧ m = 0) = false by have := hm0.out; simp; omega] at this
    exact this
  obtain ⟨f0, f1, f2, f3⟩ := hF.four
  have hn1 : ¬ n < -64 := by omega
  have hn2 : ¬ 64 < n := by omega
  have hn4 : wrap64 (-n) = -n := by unfold wrap64; omega
  go_wp2_with fail
  refine Calls.mono (HZC _).out ?_
  rintro _ w3 ⟨rfl, b3⟩
  have hF := hF.below b3 hF.lt
  have hZ2 := hZ2.below b3 hZ2.lt
  have hB2 := hB2.trans (b3.mono hB2.size)
  clear b3 f0 f1 f2 f3 HZC
  have HN : ∀ V, Hid (Calls Tryd.prog 62 #[.int .i64 1, .int .i64 0] V fun r w' => r = .returned (.agg #[.bool false, .int .u64 0, .int .u64 1, .int .i64 0]) ∧ Below V.heap.size V w') := fun V => number_any 1 0 (by decide) (by decide) V
  go_wp2_with fail
  have hS : Below w3.heap.size w3 w3.drew := (Below.refl _ w3).drew
  refine wp_region_M (fun wx : World => Below w3.heap.size w3 wx) (fun j => decide (j < 4)) 8 rfl (by kernel_rfl) ?_
  refine wpM_held 1 (v := .agg #[.bool yn, .int .u64 0, .int .u64 (m : Int), .int .i64 ye]) rfl (by kernel_rfl) (by kernel_rfl) rfl (fun _ _ _ h => h) rfl (by intro wx hx; obtain ⟨q0, q1, q2, q3⟩ := (hF.below hx hF.lt).four; go_simp <;> rfl) hS ?_
  refine wpM_one 0 rfl (by kernel_rfl) rfl ?_
  go_wp2_with fail
  refine Calls.mono (HN _).out ?_
  rintro _ w4 ⟨rfl, b4⟩
  have hS1 := hS.trans (b4.mono hS.size)
  clear b4
  go_wp2_with fail
  refine ⟨fun _ => hS1, ?_⟩
  refine wpM_one 2 rfl (by kernel_rfl) rfl ?_
  go_wp2_with fail
  refine Calls.mono (HQ _).out ?_
  rintro _ w5 ⟨⟨x, t, rfl, x1, x2, x3, x4⟩, b5⟩
  have hS2 := hS1.trans (b5.mono hS1.size)
  clear b5 HQ HN
  obtain ⟨a0, a1, a2, a3, hxv⟩ := val_agg x
  rw [hxv]
  go_wp2_with fail
  refine ⟨fun _ => hS2, ?_⟩
  refine wpM_held 3 (v := ?_) rfl (by kernel_rfl) (by kernel_rfl) rfl (fun _ _ _ h => h) rfl (by intro wx hx; go_simp <;> rfl) hS2 ?_
  refine wpM_free 4 (v := ?_) rfl (by kernel_rfl) (by kernel_rfl) rfl (fun _ _ _ h => h) rfl (by intro wx; go_simp <;> rfl) ?_
  refine wpM_free 5 (v := ?_) rfl (by kernel_rfl) (by kernel_rfl) rfl (fun _ _ _ h => h) rfl (by intro wx; go_simp <;> rfl) ?_
  have hF5 := hF.below hS2 hF.lt
  have hZ5 := hZ2.below hS2 hZ2.lt
  have hB5 := hB2.trans (hS2.mono hB2.size)
  obtain ⟨q0, q1, q2, q3⟩ := hF5.four
  have zF := hF5.frozen
  have lF := hF5.lt
  refine wpM_one 6 rfl (by kernel_rfl) rfl ?_
  go_wp2_with fail
  refine ⟨(fun h => absurd h (by decide)), ?_⟩
  refine wpM_one 7 rfl (by kernel_rfl) rfl ?_
  go_wp2_with fail
  refine ⟨(fun h => absurd h (by decide)), ?_⟩
  refine wpM_done (by kernel_rfl) ?_
  have hF6 := Row.set4 hF5 (.bool a0) (.int .u64 a1) (.int .u64 a2) (.int .i64 a3)
  have hZ6 := (((hZ5.off (B' := F) 0 (.bool a0) (by omega)).off (B' := F) 1 (.int .u64 a1) (by omega)).off (B' := F) 2 (.int .u64 a2) (by omega)).off (B' := F) 3 (.int .i64 a3) (by omega)
  have hB6 := below_set (below_set (below_set (below_set hB5 (B := F) 0 (.bool a0) (by omega)) (B := F) 1 (.int .u64 a1) (by omega)) (B := F) 2 (.int .u64 a2) (by omega)) (B := F) 3 (.int .i64 a3) (by omega)
  clear hF5 hZ5 hB5 hS hS1 hS2 hF hZ2 hB2 q0 q1 q2 q3 zF lF
  generalize ((((w5.setCell ⟨F, 0, none⟩ (.bool a0)).setCell ⟨F, 1, none⟩ (.int .u64 a1)).setCell ⟨F, 2, none⟩ (.int .u64 a2)).setCell ⟨F, 3, none⟩ (.int .i64 a3)) = w6 at *
  have hZ2 := hZ6
  have hB2 := hB6
  cases t with
  | false =>
    have ho : o = none := HO.out.1 (by rw [x4]; rfl)
    have hd2 : (.tuple #[.agg #[.int .i64 p, .int .i64 q], .int .i64 v] : Value) = .tuple #[dv 0 0, .int .i64 30] := by rw [← HDV.out, ho]; rfl
    have HD2 : Hid (_ = _) := hd2
    clear HDV ho hd2
    obtain ⟨d0, d1⟩ := hZ2.duo
    have z := hZ2.frozen
    go_wp2
    rw [HD2.out]
    refine bodyPost_ret (ret_two rfl (g := w.heap.size + 2) rfl rfl (load23 (Row.set2 hZ2 _ _) rfl)) rfl ⟨rfl, ?_⟩
    repeat (refine below_set ?_ _ _ (by omega))
    exact hB2
  | true =>
    have HP := HO.out.2 x (by rw [x4]; rfl)
    rw [hxv] at HP
    have HP : ∀ V, Hid (Calls Tryd.prog 63 #[.agg #[.bool a0, .int .u64 a1, .int .u64 a2, .int .i64 a3], .int .i64 (-n)] V fun r w' => WayR o r ∧ Below V.heap.size V w') := HP
    clear HO x1 x2 x3 x4 hxv
    obtain ⟨f0, f1, f2, f3⟩ := hF6.four
    go_wp2_with fail
    refine Calls.mono (HP _).out ?_
    rintro _ w4 ⟨⟨x, t, rfl, x1, x2, x3, x4⟩, b4⟩
    have hZ4 := hZ2.below b4 hZ2.lt
    have hB4 := hB2.trans (b4.mono hB2.size)
    have hTD := told_any x t x1 x3 x2
    rw [show (if t = true then tellW x.neg x.n x.e else none) = toldW o by rw [x4]; cases t <;> rfl] at hTD
    rw [HDV.out] at hTD
    obtain ⟨d0, d1, d2, d3, hxv⟩ := val_agg x
    rw [hxv] at hTD ⊢
    clear b4 HP x1 x2 x3 x4 hxv hZ2 hB2
    go_wp2_with fail
    refine (hTD _).mono ?_
    rintro _ w5 ⟨rfl, b5⟩
    have hZ5 := hZ4.below b5 hZ4.lt
    have hB5 := hB4.trans (b5.mono hB4.size)
    clear b5 hTD hZ4 hB4
    obtain ⟨e0, e1⟩ := hZ5.duo
    have z := hZ5.frozen
    go_wp2
    refine bodyPost_ret (ret_two rfl (g := w.heap.size + 2) rfl rfl (load23 (Row.set2 hZ5 _ _) rfl)) rfl ⟨rfl, ?_⟩
    repeat (refine below_set ?_ _ _ (by omega))
    exact hB5
end Go.Proofs.YtfbhonjndepjbaaDoor
/- dec: Pow of any two Decs. -/
namespace Go.Proofs.YtfbhonjndepjbaaDoor
open Go.RowKit

theorem quot_e : ∀ (k by' n : Nat) (e : Int) (p : Nat × Int), by' < 2 ^ k → quotL by' n e = some p → p.2 ≤ e ∧ e - (k : Int) ≤ p.2
  | 0, by', n, e, p, hb, h => by
    rw [quotL.eq_def, if_pos (by omega)] at h
    cases h
    simp only; omega
  | k + 1, by', n, e, p, hb, h => by
    have hp : 2 ^ (k + 1) = 2 * 2 ^ k := by rw [Nat.pow_succ, Nat.mul_comm]
    rw [quotL.eq_def] at h
    split at h
    · cases h
      simp only; omega
    · split at h
      · have := quot_e k _ _ _ _ (by omega) h
        omega
      · split at h
        · split at h
          · have := quot_e k _ _ _ _ (by omega) h
            omega
          · cases h
        · split at h
          · split at h
            · have := quot_e k _ _ _ _ (by omega) h
              omega
            · cases h
          · cases h
theorem val_small (y : Wd) (h : y.n < 18446744073709551616) : y.val = .agg #[.bool y.neg, .int .u64 0, .int .u64 (y.n : Int), .int .i64 y.e] := by
  rw [Wd.val_eq, cells_small y h]
theorem pow_any (c e c2 e2 : Int) (hc : I64 c) (hc2 : I64 c2) (w : World) :
    Calls Tryd.prog 22 #[dv c e, dv c2 e2] w fun r w' => r = .returned (powV c e c2 e2) ∧ Below w.heap.size w w' := by
  unfold powV
  by_cases he : within e
  · by_cases he2 : within e2
    · rw [if_pos ⟨he, he2⟩]
      have hS := sh_dec c e he.1 he.2 hc.1 hc.2
      obtain ⟨a1, a2, a3, a4⟩ := dec_bounds hc he
      have hlo := hS.lo
      have hhi := hS.hi
      by_cases hI : 0 ≤ (decW c2 e2).e ∧ (decW c2 e2).n * 10 ^ (decW c2 e2).e.toNat ≤ 9007199254740992
      · rw [if_pos hI]
        have HI : ∀ V, Hid (Calls Tryd.prog 36 #[.agg #[.int .i64 c2, .int .i64 e2]] V fun r w' => r = .returned (.tuple #[.int .i64 (sc (decW c2 e2) * 10 ^ (decW c2 e2).e.toNat), .bool true]) ∧ Below V.heap.size V w') := fun V => by
          have := int_ok c2 e2 hc2 he2 hI.1 V
          unfold intW at this
          rw [if_pos hI] at this
          exact this
        generalize sc (decW c2 e2) * 10 ^ (decW c2 e2).e.toNat = n at *
        unfold powA
        by_cases h1 : n < -64
        · rw [if_pos (.inl h1)]
          exact pow_low c e c2 e2 hc he hc2 he2 _ rfl a1 a3 n HI h1 w
        · by_cases h2 : 64 < n
          · rw [if_pos (.inr h2)]
            exact pow_high c e c2 e2 hc he hc2 he2 _ rfl a1 a3 n HI h2 w
          · rw [if_neg (by omega)]
            by_cases h3 : n < 0
            · rw [if_pos h3]
              by_cases h4 : (decW c e).n = 0
              · rw [if_pos h4]
                exact pow_zero c e c2 e2 hc he hc2 he2 _ rfl a1 a3 n HI (by omega) h3 h4 w
              · rw [if_neg h4]
                refine pow_neg c e c2 e2 hc he hc2 he2 _ rfl a1 a3 n _ (quotW oneW (decW c e)) HI h3 (by omega) h4 (fun V => ?_) ⟨fun h => by rw [h]; rfl, fun x hx V => ?_⟩ w
                · have := quotient_any oneW (decW c e) (by decide) a1 h4 (by decide) a3 V
                  rw [val_small _ a1, val_small oneW (by decide)] at this
                  exact this
                · rw [hx]
                  have hxe : -1000 ≤ x.e ∧ x.e ≤ 1000 := by
                    unfold quotW at hx
                    obtain ⟨p, hp, rfl⟩ := Option.map_eq_some_iff.1 hx
                    have hq := quot_e 64 _ _ _ _ (Nat.lt_of_le_of_lt (Nat.div_le_self _ _) a1) hp
                    have h0 : oneW.e = 0 := rfl
                    simp only
                    omega
                  show Calls _ _ _ _ _
                  rw [show ((some x).bind fun f => if f.n < 18446744073709551616 then powW f n.natAbs else none) = if x.n < 18446744073709551616 then powW x n.natAbs else none from rfl]
                  by_cases h5 : x.n < 18446744073709551616
                  · rw [if_pos h5, val_small x h5, show -n = ((n.natAbs : Nat) : Int) by omega]
                    exact power_ok x.neg x.n x.e h5 hxe n.natAbs (by omega) V
                  · rw [if_neg h5]
                    exact power_big x.neg (x.n / 18446744073709551616) (x.n % 18446744073709551616) x.e (by omega) (-n) (by omega) V
            · rw [if_neg h3]
              refine pow_pos c e c2 e2 hc he hc2 he2 _ rfl a1 a3 n _ HI (by omega) (by omega) (fun V => ?_) w
              have := power_ok (decW c e).neg (decW c e).n (decW c e).e a1 a3 n.toNat (by omega) V
              rw [show ((n.toNat : Nat) : Int) = n by omega] at this
              exact this
      · rw [if_neg hI]
        refine pow_nowhole c e c2 e2 hc he hc2 he2 _ rfl a1 a3 (fun V => ?_) w
        by_cases h0 : 0 ≤ (decW c2 e2).e
        · have := int_ok c2 e2 hc2 he2 h0 V
          unfold intW at this
          rw [if_neg hI] at this
          exact this
        · exact int_neg c2 e2 hc2 he2 (by omega) V
    · rw [if_neg (fun h => he2 h.2)]
      exact pow_bad2 c e c2 e2 hc he he2 w
  · rw [if_neg (fun h => he h.1)]
    exact pow_bad1 c e c2 e2 he w
end Go.Proofs.YtfbhonjndepjbaaDoor
