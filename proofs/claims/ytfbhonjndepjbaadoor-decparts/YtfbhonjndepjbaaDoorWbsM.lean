import Derived.Test.YtfbhonjndepjbaaDoorWtkM
import Derived.Test.YtfbhonjndepjbaaDoorOrdM
/- bySize. -/
namespace Go.Proofs.YtfbhonjndepjbaaDoor
open Go.RowKit

set_option maxRecDepth 100000 in
set_option maxHeartbeats 1000000 in
theorem bySize_raw (an bn : Bool) (ah al bh bl : Nat) (ae be : Int) (w : World) : Calls Tryd.prog 89 #[wv an ah al ae, wv bn bh bl be] w fun r w' =>
    r = .returned (.int .i64 (if cN ah bh ≠ 0 then cN ah bh else cN al bl)) ∧ Below w.heap.size w w' := by
  have k1 := cmpU ah bh
  have k2 := cmpU al bl
  have k3 := or2 (cN ah bh) (cN al bl)
  unfold wv
  generalize cN ah bh = x at *
  generalize cN al bl = y at *
  generalize (if x ≠ 0 then x else y) = z at *
  go_enter Tryd.func89, Tryd.ntmps89
  go_wp2_with fail
  have hA := (Row.new w 59 #[.bool an, .int .u64 (ah : Int), .int .u64 (al : Int), .int .i64 ae]).alloc (.cells #[.bool bn, .int .u64 (bh : Int), .int .u64 (bl : Int), .int .i64 be] 59)
  have hZ := Row.new1 w (.cells #[.bool an, .int .u64 (ah : Int), .int .u64 (al : Int), .int .i64 ae] 59) 59 #[.bool bn, .int .u64 (bh : Int), .int .u64 (bl : Int), .int .i64 be]
  have hB := ((Below.refl _ w).alloc (Nat.le_refl _) (.cells #[.bool an, .int .u64 (ah : Int), .int .u64 (al : Int), .int .i64 ae] 59)).alloc (by simp) (.cells #[.bool bn, .int .u64 (bh : Int), .int .u64 (bl : Int), .int .i64 be] 59)
  generalize (w.alloc (.cells #[.bool an, .int .u64 (ah : Int), .int .u64 (al : Int), .int .i64 ae] 59)).alloc (.cells #[.bool bn, .int .u64 (bh : Int), .int .u64 (bl : Int), .int .i64 be] 59) = W at *
  obtain ⟨a0, a1, a2, a3⟩ := hA.four
  obtain ⟨b0, b1, b2, b3⟩ := hZ.four
  have HD : W.drew = W.drew := rfl
  have hlt : w.heap.size < W.heap.size := hA.lt
  refine wp_region_M (fun wx : World => wx = W.drew) (fun j => decide (j < 10)) 13 rfl (by kernel_rfl) ?_
  refine wpM_held 0 (v := ?_) rfl (by kernel_rfl) (by kernel_rfl) rfl (fun _ _ _ h => h) rfl (by rintro wx rfl; go_simp <;> rfl) HD ?_
  refine wpM_held 1 (v := .int .u64 (ah : Int)) rfl (by kernel_rfl) (by kernel_rfl) rfl (fun _ _ _ h => h) rfl (by rintro wx rfl; go_simp <;> rfl) HD ?_
  refine wpM_held 2 (v := ?_) rfl (by kernel_rfl) (by kernel_rfl) rfl (fun _ _ _ h => h) rfl (by rintro wx rfl; go_simp <;> rfl) HD ?_
  refine wpM_held 3 (v := .int .u64 (bh : Int)) rfl (by kernel_rfl) (by kernel_rfl) rfl (fun _ _ _ h => h) rfl (by rintro wx rfl; go_simp <;> rfl) HD ?_
  refine wpM_held 5 (v := ?_) rfl (by kernel_rfl) (by kernel_rfl) rfl (fun _ _ _ h => h) rfl (by rintro wx rfl; go_simp <;> rfl) HD ?_
  refine wpM_held 6 (v := .int .u64 (al : Int)) rfl (by kernel_rfl) (by kernel_rfl) rfl (fun _ _ _ h => h) rfl (by rintro wx rfl; go_simp <;> rfl) HD ?_
  refine wpM_held 7 (v := ?_) rfl (by kernel_rfl) (by kernel_rfl) rfl (fun _ _ _ h => h) rfl (by rintro wx rfl; go_simp <;> rfl) HD ?_
  refine wpM_held 8 (v := .int .u64 (bl : Int)) rfl (by kernel_rfl) (by kernel_rfl) rfl (fun _ _ _ h => h) rfl (by rintro wx rfl; go_simp <;> rfl) HD ?_
  refine wpM_one 4 rfl (by kernel_rfl) rfl ?_
  go_wp2_with fail
  refine (k1 _).mono ?_
  rintro _ w1 ⟨rfl, h1⟩
  rw [h1]
  clear h1 w1
  go_wp2_with fail
  refine ⟨fun _ => rfl, ?_⟩
  refine wpM_one 9 rfl (by kernel_rfl) rfl ?_
  go_wp2_with fail
  refine (k2 _).mono ?_
  rintro _ w1 ⟨rfl, h1⟩
  rw [h1]
  clear h1 w1
  go_wp2_with fail
  refine ⟨fun _ => rfl, ?_⟩
  refine wpM_one 10 rfl (by kernel_rfl) rfl ?_
  go_wp2_with fail
  refine ⟨(fun h => by simp at h), ?_⟩
  refine wpM_one 11 rfl (by kernel_rfl) rfl ?_
  go_wp2_with fail
  refine (k3 W.heap.size _ (Row.new W.drew 3 _)).mono ?_
  rintro _ w1 ⟨rfl, h1⟩
  rw [h1]
  clear h1 w1
  go_wp2_with fail
  refine ⟨(fun h => by simp at h), ?_⟩
  refine wpM_one 12 rfl (by kernel_rfl) rfl ?_
  go_wp2_with fail
  refine ⟨(fun h => by simp at h), ?_⟩
  refine wpM_done (by kernel_rfl) ?_
  go_wp2
  go_ret
  exact ⟨rfl, (hB.trans (Below.refl _ W).drew).alloc (by show _ ≤ W.heap.size; omega) _⟩
theorem bySize_any (a b : Wd) (w : World) : Calls Tryd.prog 89 #[a.val, b.val] w fun r w' => r = .returned (.int .i64 (cN a.n b.n)) ∧ Below w.heap.size w w' := by
  refine (bySize_raw a.neg b.neg _ _ _ _ a.e b.e w).mono ?_
  rintro r w' ⟨rfl, hB⟩
  refine ⟨?_, hB⟩
  congr 2
  unfold cN
  repeat' split
  all_goals first | omega | contradiction | skip
end Go.Proofs.YtfbhonjndepjbaaDoor
/- difference: two numbers of unlike signs. -/
namespace Go.Proofs.YtfbhonjndepjbaaDoor
open Go.RowKit

theorem three_rows (w w1 : World) (o1 o2 o3 : Array Value) (t1 t2 t3 : TypeId) (h : Below ((((w.alloc (.cells o1 t1)).alloc (.cells o2 t2)).alloc (.cells o3 t3)).heap.size) (((w.alloc (.cells o1 t1)).alloc (.cells o2 t2)).alloc (.cells o3 t3)) w1) :
    Row w1 w.heap.size t1 o1 ∧ Row w1 (w.heap.size + 1) t2 o2 ∧ Row w1 (w.heap.size + 2) t3 o3 ∧ Below w.heap.size w w1 := by
  have r1 := ((Row.new w t1 o1).alloc (.cells o2 t2)).alloc (.cells o3 t3)
  have r2 := (Row.new1 w (.cells o1 t1) t2 o2).alloc (.cells o3 t3)
  have r3 : Row (((w.alloc (.cells o1 t1)).alloc (.cells o2 t2)).alloc (.cells o3 t3)) (w.heap.size + 2) t3 o3 := by
    have := Row.new ((w.alloc (.cells o1 t1)).alloc (.cells o2 t2)) t3 o3
    simpa using this
  refine ⟨r1.below h r1.lt, r2.below h r2.lt, r3.below h r3.lt, ?_⟩
  exact ((((Below.refl _ w).alloc (Nat.le_refl _) _).alloc (by simp) _).alloc (by simp; omega) _).trans (h.mono (by simp; omega))

set_option maxRecDepth 100000 in
set_option maxHeartbeats 1000000 in
theorem diff_ge (an bn : Bool) (ah al bh bl H L bo c2 : Nat) (ae be q : Int) (hk : ∀ w, Calls Tryd.prog 89 #[wv an ah al ae, wv bn bh bl be] w fun r w' => r = .returned (.int .i64 q) ∧ Below w.heap.size w w') (hq : ¬ q < 0)
    (s1 : ∀ w, (callFunc 97 #[.int .u64 (al : Int), .int .u64 (bl : Int), .int .u64 0]).run Tryd.prog w = .ok (.value (.tuple #[.int .u64 (L : Int), .int .u64 (bo : Int)])) w)
    (s2 : ∀ w, (callFunc 97 #[.int .u64 (ah : Int), .int .u64 (bh : Int), .int .u64 (bo : Int)]).run Tryd.prog w = .ok (.value (.tuple #[.int .u64 (H : Int), .int .u64 (c2 : Int)])) w) (w : World) :
    Calls Tryd.prog 77 #[wv an ah al ae, wv bn bh bl be] w fun r w' => r = .returned (wv an H L ae) ∧ Below w.heap.size w w' := by
  unfold wv at *
  go_enter Tryd.func77, Tryd.ntmps77
  go_wp2_with fail
  refine (hk _).mono ?_
  rintro _ w1 ⟨rfl, h1⟩
  obtain ⟨hA, hC, hZ, hB⟩ := three_rows w w1 _ _ _ _ _ _ h1
  obtain ⟨a0, a1, a2, a3⟩ := hA.four
  obtain ⟨b0, b1, b2, b3⟩ := hC.four
  obtain ⟨d0, d1, d2, d3⟩ := hZ.four
  have z1 := hZ.frozen
  clear h1 hk
  go_wp2
  refine bodyPost_ret (ret_one rfl (g := w.heap.size + 2) rfl (load57 (Row.set4 hZ _ _ _ _) rfl)) rfl ⟨rfl, ?_⟩
  repeat (refine below_set ?_ _ _ (by omega))
  exact hB
set_option maxRecDepth 100000 in
set_option maxHeartbeats 1000000 in
theorem diff_lt (an bn : Bool) (ah al bh bl H L bo c2 : Nat) (ae be q : Int) (hk : ∀ w, Calls Tryd.prog 89 #[wv an ah al ae, wv bn bh bl be] w fun r w' => r = .returned (.int .i64 q) ∧ Below w.heap.size w w') (hq : q < 0)
    (s1 : ∀ w, (callFunc 97 #[.int .u64 (bl : Int), .int .u64 (al : Int), .int .u64 0]).run Tryd.prog w = .ok (.value (.tuple #[.int .u64 (L : Int), .int .u64 (bo : Int)])) w)
    (s2 : ∀ w, (callFunc 97 #[.int .u64 (bh : Int), .int .u64 (ah : Int), .int .u64 (bo : Int)]).run Tryd.prog w = .ok (.value (.tuple #[.int .u64 (H : Int), .int .u64 (c2 : Int)])) w) (w : World) :
    Calls Tryd.prog 77 #[wv an ah al ae, wv bn bh bl be] w fun r w' => r = .returned (wv bn H L be) ∧ Below w.heap.size w w' := by
  unfold wv at *
  go_enter Tryd.func77, Tryd.ntmps77
  go_wp2_with fail
  refine (hk _).mono ?_
  rintro _ w1 ⟨rfl, h1⟩
  obtain ⟨hA, hC, hZ, hB⟩ := three_rows w w1 _ _ _ _ _ _ h1
  obtain ⟨a0, a1, a2, a3⟩ := hA.four
  obtain ⟨b0, b1, b2, b3⟩ := hC.four
  obtain ⟨d0, d1, d2, d3⟩ := hZ.four
  have z1 := hZ.frozen
  have z2 := hA.frozen
  have z3 := hC.frozen
  clear h1 hk
  go_wp2
  have hZ2 := (((((((hZ.off (B' := w.heap.size) 0 (.bool bn) (by omega)).off (B' := w.heap.size) 1 (.int .u64 (bh : Int)) (by omega)).off (B' := w.heap.size) 2 (.int .u64 (bl : Int)) (by omega)).off (B' := w.heap.size) 3 (.int .i64 be) (by omega)).off (B' := w.heap.size + 1) 0 (.bool an) (by omega)).off (B' := w.heap.size + 1) 1 (.int .u64 (ah : Int)) (by omega)).off (B' := w.heap.size + 1) 2 (.int .u64 (al : Int)) (by omega)).off (B' := w.heap.size + 1) 3 (.int .i64 ae) (by omega)
  refine bodyPost_ret (ret_one rfl (g := w.heap.size + 2) rfl (load57 (Row.set4 hZ2 _ _ _ _) rfl)) rfl ⟨rfl, ?_⟩
  repeat (refine below_set ?_ _ _ (by omega))
  exact hB
theorem diff_any (a b : Wd) (ha : a.n < M128) (hb : b.n < M128) (w : World) : Calls Tryd.prog 77 #[a.val, b.val] w fun r w' => r = .returned (diffW a b).val ∧ Below w.heap.size w w' := by
  have hk := bySize_any a b
  obtain ⟨an, x, ae⟩ := a
  obtain ⟨bn, y, be⟩ := b
  unfold M128 at ha hb
  simp only at ha hb
  unfold Wd.val at *
  simp only at *
  by_cases h : x < y
  · have e1 : diffW ⟨an, x, ae⟩ ⟨bn, y, be⟩ = ⟨bn, y - x, be⟩ := by unfold diffW; rw [if_pos h]
    rw [e1]
    have t1 := sub64 (y % 18446744073709551616) (x % 18446744073709551616) 0 (by omega)
    have t2 := sub64 (y / 18446744073709551616) (x / 18446744073709551616) (if y % 18446744073709551616 < x % 18446744073709551616 + 0 then 1 else 0) (by split <;> omega)
    simp only
    refine diff_lt an bn _ _ _ _ _ _ (if y % 18446744073709551616 < x % 18446744073709551616 + 0 then 1 else 0) (if y / 18446744073709551616 < x / 18446744073709551616 + (if y % 18446744073709551616 < x % 18446744073709551616 + 0 then 1 else 0) then 1 else 0) ae be _ hk (by unfold cN; rw [if_pos h]; omega) (fun w => ?_) (fun w => ?_) w
    · have := t1 w
      rw [show (y % 18446744073709551616 + 18446744073709551616 - x % 18446744073709551616 - 0) % 18446744073709551616 = (y - x) % 18446744073709551616 by omega] at this
      exact this
    · have := t2 w
      rw [show (y / 18446744073709551616 + 18446744073709551616 - x / 18446744073709551616 - (if y % 18446744073709551616 < x % 18446744073709551616 + 0 then 1 else 0)) % 18446744073709551616 = (y - x) / 18446744073709551616 by split <;> omega] at this
      exact this
  · have e1 : diffW ⟨an, x, ae⟩ ⟨bn, y, be⟩ = ⟨an, x - y, ae⟩ := by unfold diffW; rw [if_neg h]
    rw [e1]
    have t1 := sub64 (x % 18446744073709551616) (y % 18446744073709551616) 0 (by omega)
    have t2 := sub64 (x / 18446744073709551616) (y / 18446744073709551616) (if x % 18446744073709551616 < y % 18446744073709551616 + 0 then 1 else 0) (by split <;> omega)
    simp only
    refine diff_ge an bn _ _ _ _ _ _ (if x % 18446744073709551616 < y % 18446744073709551616 + 0 then 1 else 0) (if x / 18446744073709551616 < y / 18446744073709551616 + (if x % 18446744073709551616 < y % 18446744073709551616 + 0 then 1 else 0) then 1 else 0) ae be _ hk (by unfold cN; rw [if_neg h]; split <;> omega) (fun w => ?_) (fun w => ?_) w
    · have := t1 w
      rw [show (x % 18446744073709551616 + 18446744073709551616 - y % 18446744073709551616 - 0) % 18446744073709551616 = (x - y) % 18446744073709551616 by omega] at this
      exact this
    · have := t2 w
      rw [show (x / 18446744073709551616 + 18446744073709551616 - y / 18446744073709551616 - (if x % 18446744073709551616 < y % 18446744073709551616 + 0 then 1 else 0)) % 18446744073709551616 = (x - y) / 18446744073709551616 by split <;> omega] at this
      exact this
end Go.Proofs.YtfbhonjndepjbaaDoor
