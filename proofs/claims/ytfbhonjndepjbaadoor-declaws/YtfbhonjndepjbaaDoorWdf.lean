/- difference: two numbers of unlike signs. -/
import Derived.Test.YtfbhonjndepjbaaDoorWbs
namespace Go.Proofs.YtfbhonjndepjbaaDoor
open Go.RowKit

theorem three_rows (w w1 : World) (o1 o2 o3 : Array Value) (t1 t2 t3 : TypeId) (h : Below ((((w.alloc (.cells o1 t1)).alloc (.cells o2 t2)).alloc (.cells o3 t3)).heap.size) (((w.alloc (.cells o1 t1)).alloc (.cells o2 t2)).alloc (.cells o3 t3)) w1) :
    Row w1 w.heap.size t1 o1 ∧ Row w1 (w.heap.size + 1) t2 o2 ∧ Row w1 (w.heap.size + 2) t3 o3 ∧ Below w.heap.size w w1 := by
  have r1 := ((Row.new w t1 o1).alloc (.cells o2 t2)).alloc (.cells o3 t3)
  have r2 := (Row.new1 w (.cells o1 t1) t2 o2).alloc (.cells o3 t3)
  have r3 : Row (((w.alloc (.cells o1 t1)).alloc (.cells o2 t2)).alloc (.cells o3 t3)) (w.heap.size + 2) t3 o3 := by
    have := Row.new ((w.alloc (.cells o1 t1)).alloc (.cells o2 t2)) t3 o3
    simpa using this
  refine ⟨r1.below h r1.lt, r2.below h r2.lt, r3.below h r3.lt, ?_⟩
  exact ((((Below.refl _ w).alloc (Nat.le_refl _) _).alloc (by simp) _).alloc (by simp; omega) _).trans (h.mono (by simp; omega))

set_option maxRecDepth 100000 in
set_option maxHeartbeats 1000000 in
theorem diff_ge (an bn : Bool) (ah al bh bl H L bo c2 : Nat) (ae be q : Int) (hk : ∀ w, Calls Tryd.prog 89 #[wv an ah al ae, wv bn bh bl be] w fun r w' => r = .returned (.int .i64 q) ∧ Below w.heap.size w w') (hq : ¬ q < 0)
    (s1 : ∀ w, (callFunc 97 #[.int .u64 (al : Int), .int .u64 (bl : Int), .int .u64 0]).run Tryd.prog w = .ok (.value (.tuple #[.int .u64 (L : Int), .int .u64 (bo : Int)])) w)
    (s2 : ∀ w, (callFunc 97 #[.int .u64 (ah : Int), .int .u64 (bh : Int), .int .u64 (bo : Int)]).run Tryd.prog w = .ok (.value (.tuple #[.int .u64 (H : Int), .int .u64 (c2 : Int)])) w) (w : World) :
    Calls Tryd.prog 77 #[wv an ah al ae, wv bn bh bl be] w fun r w' => r = .returned (wv an H L ae) ∧ Below w.heap.size w w' := by
  unfold wv at *
  go_enter Tryd.func77, Tryd.ntmps77
  go_wp2_with fail
  refine (hk _).mono ?_
  rintro _ w1 ⟨rfl, h1⟩
  obtain ⟨hA, hC, hZ, hB⟩ := three_rows w w1 _ _ _ _ _ _ h1
  obtain ⟨a0, a1, a2, a3⟩ := hA.four
  obtain ⟨b0, b1, b2, b3⟩ := hC.four
  obtain ⟨d0, d1, d2, d3⟩ := hZ.four
  have z1 := hZ.frozen
  clear h1 hk
  go_wp2
  refine bodyPost_ret (ret_one rfl (g := w.heap.size + 2) rfl (load57 (Row.set4 hZ _ _ _ _) rfl)) rfl ⟨rfl, ?_⟩
  repeat (refine below_set ?_ _ _ (by omega))
  exact hB
set_option maxRecDepth 100000 in
set_option maxHeartbeats 1000000 in
theorem diff_lt (an bn : Bool) (ah al bh bl H L bo c2 : Nat) (ae be q : Int) (hk : ∀ w, Calls Tryd.prog 89 #[wv an ah al ae, wv bn bh bl be] w fun r w' => r = .returned (.int .i64 q) ∧ Below w.heap.size w w') (hq : q < 0)
    (s1 : ∀ w, (callFunc 97 #[.int .u64 (bl : Int), .int .u64 (al : Int), .int .u64 0]).run Tryd.prog w = .ok (.value (.tuple #[.int .u64 (L : Int), .int .u64 (bo : Int)])) w)
    (s2 : ∀ w, (callFunc 97 #[.int .u64 (bh : Int), .int .u64 (ah : Int), .int .u64 (bo : Int)]).run Tryd.prog w = .ok (.value (.tuple #[.int .u64 (H : Int), .int .u64 (c2 : Int)])) w) (w : World) :
    Calls Tryd.prog 77 #[wv an ah al ae, wv bn bh bl be] w fun r w' => r = .returned (wv bn H L be) ∧ Below w.heap.size w w' := by
  unfold wv at *
  go_enter Tryd.func77, Tryd.ntmps77
  go_wp2_with fail
  refine (hk _).mono ?_
  rintro _ w1 ⟨rfl, h1⟩
  obtain ⟨hA, hC, hZ, hB⟩ := three_rows w w1 _ _ _ _ _ _ h1
  obtain ⟨a0, a1, a2, a3⟩ := hA.four
  obtain ⟨b0, b1, b2, b3⟩ := hC.four
  obtain ⟨d0, d1, d2, d3⟩ := hZ.four
  have z1 := hZ.frozen
  have z2 := hA.frozen
  have z3 := hC.frozen
  clear h1 hk
  go_wp2
  have hZ2 := (((((((hZ.off (B' := w.heap.size) 0 (.bool bn) (by omega)).off (B' := w.heap.size) 1 (.int .u64 (bh : Int)) (by omega)).off (B' := w.heap.size) 2 (.int .u64 (bl : Int)) (by omega)).off (B' := w.heap.size) 3 (.int .i64 be) (by omega)).off (B' := w.heap.size + 1) 0 (.bool an) (by omega)).off (B' := w.heap.size + 1) 1 (.int .u64 (ah : Int)) (by omega)).off (B' := w.heap.size + 1) 2 (.int .u64 (al : Int)) (by omega)).off (B' := w.heap.size + 1) 3 (.int .i64 ae) (by omega)
  refine bodyPost_ret (ret_one rfl (g := w.heap.size + 2) rfl (load57 (Row.set4 hZ2 _ _ _ _) rfl)) rfl ⟨rfl, ?_⟩
  repeat (refine below_set ?_ _ _ (by omega))
  exact hB
theorem diff_any (a b : Wd) (ha : a.n < M128) (hb : b.n < M128) (w : World) : Calls Tryd.prog 77 #[a.val, b.val] w fun r w' => r = .returned (diffW a b).val ∧ Below w.heap.size w w' := by
  have hk := bySize_any a b
  obtain ⟨an, x, ae⟩ := a
  obtain ⟨bn, y, be⟩ := b
  unfold M128 at ha hb
  simp only at ha hb
  unfold Wd.val at *
  simp only at *
  by_cases h : x < y
  · have e1 : diffW ⟨an, x, ae⟩ ⟨bn, y, be⟩ = ⟨bn, y - x, be⟩ := by unfold diffW; rw [if_pos h]
    rw [e1]
    have t1 := sub64 (y % 18446744073709551616) (x % 18446744073709551616) 0 (by omega)
    have t2 := sub64 (y / 18446744073709551616) (x / 18446744073709551616) (if y % 18446744073709551616 < x % 18446744073709551616 + 0 then 1 else 0) (by split <;> omega)
    simp only
    refine diff_lt an bn _ _ _ _ _ _ (if y % 18446744073709551616 < x % 18446744073709551616 + 0 then 1 else 0) (if y / 18446744073709551616 < x / 18446744073709551616 + (if y % 18446744073709551616 < x % 18446744073709551616 + 0 then 1 else 0) then 1 else 0) ae be _ hk (by unfold cN; rw [if_pos h]; omega) (fun w => ?_) (fun w => ?_) w
    · have := t1 w
      rw [show (y % 18446744073709551616 + 18446744073709551616 - x % 18446744073709551616 - 0) % 18446744073709551616 = (y - x) % 18446744073709551616 by omega] at this
      exact this
    · have := t2 w
      rw [show (y / 18446744073709551616 + 18446744073709551616 - x / 18446744073709551616 - (if y % 18446744073709551616 < x % 18446744073709551616 + 0 then 1 else 0)) % 18446744073709551616 = (y - x) / 18446744073709551616 by split <;> omega] at this
      exact this
  · have e1 : diffW ⟨an, x, ae⟩ ⟨bn, y, be⟩ = ⟨an, x - y, ae⟩ := by unfold diffW; rw [if_neg h]
    rw [e1]
    have t1 := sub64 (x % 18446744073709551616) (y % 18446744073709551616) 0 (by omega)
    have t2 := sub64 (x / 18446744073709551616) (y / 18446744073709551616) (if x % 18446744073709551616 < y % 18446744073709551616 + 0 then 1 else 0) (by split <;> omega)
    simp only
    refine diff_ge an bn _ _ _ _ _ _ (if x % 18446744073709551616 < y % 18446744073709551616 + 0 then 1 else 0) (if x / 18446744073709551616 < y / 18446744073709551616 + (if x % 18446744073709551616 < y % 18446744073709551616 + 0 then 1 else 0) then 1 else 0) ae be _ hk (by unfold cN; rw [if_neg h]; split <;> omega) (fun w => ?_) (fun w => ?_) w
    · have := t1 w
      rw [show (x % 18446744073709551616 + 18446744073709551616 - y % 18446744073709551616 - 0) % 18446744073709551616 = (x - y) % 18446744073709551616 by omega] at this
      exact this
    · have := t2 w
      rw [show (x / 18446744073709551616 + 18446744073709551616 - y / 18446744073709551616 - (if x % 18446744073709551616 < y % 18446744073709551616 + 0 then 1 else 0)) % 18446744073709551616 = (x - y) / 18446744073709551616 by split <;> omega] at this
      exact this
end Go.Proofs.YtfbhonjndepjbaaDoor
