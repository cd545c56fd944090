import Derived.Test.YtnhflnpjepiceaaGreatDoorWtkM
import Derived.Test.YtnhflnpjepiceaaGreatDoorOrdM
/- bySize. -/
namespace Go.Proofs.YtnhflnpjepiceaaGreatDoor
open Go.RowKit

set_option maxRecDepth 100000 in
set_option maxHeartbeats 1000000 in
theorem bySize_raw (an bn : Bool) (ah al bh bl : Nat) (ae be : Int) (w : World) : Calls Tryz.prog 156 #[wv an ah al ae, wv bn bh bl be] w fun r w' =>
    r = .returned (.int .i64 (if cN ah bh ≠ 0 then cN ah bh else cN al bl)) ∧ Below w.heap.size w w' := by
  have k1 := cmpU ah bh
  have k2 := cmpU al bl
  have k3 := or2 (cN ah bh) (cN al bl)
  unfold wv
  generalize cN ah bh = x at *
  generalize cN al bl = y at *
  generalize (if x ≠ 0 then x else y) = z at *
  go_enter Tryz.func156, Tryz.ntmps156
  go_wp2_with fail
  have hA := (Row.new w 85 #[.bool an, .int .u64 (ah : Int), .int .u64 (al : Int), .int .i64 ae]).alloc (.cells #[.bool bn, .int .u64 (bh : Int), .int .u64 (bl : Int), .int .i64 be] 85)
  have hZ := Row.new1 w (.cells #[.bool an, .int .u64 (ah : Int), .int .u64 (al : Int), .int .i64 ae] 85) 85 #[.bool bn, .int .u64 (bh : Int), .int .u64 (bl : Int), .int .i64 be]
  have hB := ((Below.refl _ w).alloc (Nat.le_refl _) (.cells #[.bool an, .int .u64 (ah : Int), .int .u64 (al : Int), .int .i64 ae] 85)).alloc (by simp) (.cells #[.bool bn, .int .u64 (bh : Int), .int .u64 (bl : Int), .int .i64 be] 85)
  generalize (w.alloc (.cells #[.bool an, .int .u64 (ah : Int), .int .u64 (al : Int), .int .i64 ae] 85)).alloc (.cells #[.bool bn, .int .u64 (bh : Int), .int .u64 (bl : Int), .int .i64 be] 85) = W at *
  obtain ⟨a0, a1, a2, a3⟩ := hA.four
  obtain ⟨b0, b1, b2, b3⟩ := hZ.four
  have HD : W.drew = W.drew := rfl
  have hlt : w.heap.size < W.heap.size := hA.lt
  refine wp_region_M (fun wx : World => wx = W.drew) (fun j => decide (j < 10)) 13 rfl (by kernel_rfl) ?_
  refine wpM_held 0 (v := ?_) rfl (by kernel_rfl) (by kernel_rfl) rfl (fun _ _ _ h => h) rfl (by rintro wx rfl; go_simp <;> rfl) HD ?_
  refine wpM_held 1 (v := .int .u64 (ah : Int)) rfl (by kernel_rfl) (by kernel_rfl) rfl (fun _ _ _ h => h) rfl (by rintro wx rfl; go_simp <;> rfl) HD ?_
  refine wpM_held 2 (v := ?_) rfl (by kernel_rfl) (by kernel_rfl) rfl (fun _ _ _ h => h) rfl (by rintro wx rfl; go_simp <;> rfl) HD ?_
  refine wpM_held 3 (v := .int .u64 (bh : Int)) rfl (by kernel_rfl) (by kernel_rfl) rfl (fun _ _ _ h => h) rfl (by rintro wx rfl; go_simp <;> rfl) HD ?_
  refine wpM_held 5 (v := ?_) rfl (by kernel_rfl) (by kernel_rfl) rfl (fun _ _ _ h => h) rfl (by rintro wx rfl; go_simp <;> rfl) HD ?_
  refine wpM_held 6 (v := .int .u64 (al : Int)) rfl (by kernel_rfl) (by kernel_rfl) rfl (fun _ _ _ h => h) rfl (by rintro wx rfl; go_simp <;> rfl) HD ?_
  refine wpM_held 7 (v := ?_) rfl (by kernel_rfl) (by kernel_rfl) rfl (fun _ _ _ h => h) rfl (by rintro wx rfl; go_simp <;> rfl) HD ?_
  refine wpM_held 8 (v := .int .u64 (bl : Int)) rfl (by kernel_rfl) (by kernel_rfl) rfl (fun _ _ _ h => h) rfl (by rintro wx rfl; go_simp <;> rfl) HD ?_
  refine wpM_one 4 rfl (by kernel_rfl) rfl ?_
  go_wp2_with fail
  refine (k1 _).mono ?_
  rintro _ w1 ⟨rfl, h1⟩
  rw [h1]
  clear h1 w1
  go_wp2_with fail
  refine ⟨fun _ => rfl, ?_⟩
  refine wpM_one 9 rfl (by kernel_rfl) rfl ?_
  go_wp2_with fail
  refine (k2 _).mono ?_
  rintro _ w1 ⟨rfl, h1⟩
  rw [h1]
  clear h1 w1
  go_wp2_with fail
  refine ⟨fun _ => rfl, ?_⟩
  refine wpM_one 10 rfl (by kernel_rfl) rfl ?_
  go_wp2_with fail
  refine ⟨(fun h => by simp at h), ?_⟩
  refine wpM_one 11 rfl (by kernel_rfl) rfl ?_
  go_wp2_with fail
  refine (k3 W.heap.size _ (Row.new W.drew 3 _)).mono ?_
  rintro _ w1 ⟨rfl, h1⟩
  rw [h1]
  clear h1 w1
  go_wp2_with fail
  refine ⟨(fun h => by simp at h), ?_⟩
  refine wpM_one 12 rfl (by kernel_rfl) rfl ?_
  go_wp2_with fail
  refine ⟨(fun h => by simp at h), ?_⟩
  refine wpM_done (by kernel_rfl) ?_
  go_wp2
  go_ret
  exact ⟨rfl, (hB.trans (Below.refl _ W).drew).alloc (by show _ ≤ W.heap.size; omega) _⟩
theorem bySize_any (a b : Wd) (w : World) : Calls Tryz.prog 156 #[a.val, b.val] w fun r w' => r = .returned (.int .i64 (cN a.n b.n)) ∧ Below w.heap.size w w' := by
  refine (bySize_raw a.neg b.neg _ _ _ _ a.e b.e w).mono ?_
  rintro r w' ⟨rfl, hB⟩
  refine ⟨?_, hB⟩
  congr 2
  unfold cN
  repeat' split
  all_goals first | omega | contradiction | skip
end Go.Proofs.YtnhflnpjepiceaaGreatDoor
/- difference: two numbers of unlike signs. -/
namespace Go.Proofs.YtnhflnpjepiceaaGreatDoor
open Go.RowKit

theorem three_rows (w w1 : World) (o1 o2 o3 : Array Value) (t1 t2 t3 : TypeId) (h : Below ((((w.alloc (.cells o1 t1)).alloc (.cells o2 t2)).alloc (.cells o3 t3)).heap.size) (((w.alloc (.cells o1 t1)).alloc (.cells o2 t2)).alloc (.cells o3 t3)) w1) :
    Row w1 w.heap.size t1 o1 ∧ Row w1 (w.heap.size + 1) t2 o2 ∧ Row w1 (w.heap.size + 2) t3 o3 ∧ Below w.heap.size w w1 := by
  have r1 := ((Row.new w t1 o1).alloc (.cells o2 t2)).alloc (.cells o3 t3)
  have r2 := (Row.new1 w (.cells o1 t1) t2 o2).alloc (.cells o3 t3)
  have r3 : Row (((w.alloc (.cells o1 t1)).alloc (.cells o2 t2)).alloc (.cells o3 t3)) (w.heap.size + 2) t3 o3 := by
    have := Row.new ((w.alloc (.cells o1 t1)).alloc (.cells o2 t2)) t3 o3
    simpa using this
  refine ⟨r1.below h r1.lt, r2.below h r2.lt, r3.below h r3.lt, ?_⟩
  exact ((((Below.refl _ w).alloc (Nat.le_refl _) _).alloc (by simp) _).alloc (by simp; omega) _).trans (h.mono (by simp; omega))

set_option maxRecDepth 100000 in
set_option maxHeartbeats 1000000 in
theorem diff_ge (an bn : Bool) (ah al bh bl H L bo c2 : Nat) (ae be q : Int) (hk : ∀ w, Calls Tryz.prog 156 #[wv an ah al ae, wv bn bh bl be] w fun r w' => r = .returned (.int .i64 q) ∧ Below w.heap.size w w') (hq : ¬ q < 0)
    (s1 : ∀ w, (callFunc 168 #[.int .u64 (al : Int), .int .u64 (bl : Int), .int .u64 0]).run Tryz.prog w = .ok (.value (.tuple #[.int .u64 (L : Int), .int .u64 (bo : Int)])) w)
    (s2 : ∀ w, (callFunc 168 #[.int .u64 (ah : Int), .int .u64 (bh : Int), .int .u64 (bo : Int)]).run Tryz.prog w = .ok (.value (.tuple #[.int .u64 (H : Int), .int .u64 (c2 : Int)])) w) (w : World) :
    Calls Tryz.prog 146 #[wv an ah al ae, wv bn bh bl be] w fun r w' => r = .returned (wv an H L ae) ∧ Below w.heap.size w w' := by
  unfold wv at *
  go_enter Tryz.func146, Tryz.ntmps146
  go_wp2_with fail
  refine (hk _).mono ?_
  rintro _ w1 ⟨rfl, h1⟩
  obtain ⟨hA, hC, hZ, hB⟩ := three_rows w w1 _ _ _ _ _ _ h1
  obtain ⟨a0, a1, a2, a3⟩ := hA.four
  obtain ⟨b0, b1, b2, b3⟩ := hC.four
  obtain ⟨d0, d1, d2, d3⟩ := hZ.four
  have z1 := hZ.frozen
  clear h1 hk
  go_wp2
  refine bodyPost_ret (ret_one rfl (g := w.heap.size + 2) rfl (load57 (Row.set4 hZ _ _ _ _) rfl)) rfl ⟨rfl, ?_⟩
  repeat (refine below_set ?_ _ _ (by omega))
  exact hB
set_option maxRecDepth 100000 in
set_option maxHeartbeats 1000000 in
theorem diff_lt (an bn : Bool) (ah al bh bl H L bo c2 : Nat) (ae be q : Int) (hk : ∀ w, Calls Tryz.prog 156 #[wv an ah al ae, wv bn bh bl be] w fun r w' => r = .returned (.int .i64 q) ∧ Below w.heap.size w w') (hq : q < 0)
    (s1 : ∀ w, (callFunc 168 #[.int .u64 (bl : Int), .int .u64 (al : Int), .int .u64 0]).run Tryz.prog w = .ok (.value (.tuple #[.int .u64 (L : Int), .int .u64 (bo : Int)])) w)
    (s2 : ∀ w, (callFunc 168 #[.int .u64 (bh : Int), .int .u64 (ah : Int), .int .u64 (bo : Int)]).run Tryz.prog w = .ok (.value (.tuple #[.int .u64 (H : Int), .int .u64 (c2 : Int)])) w) (w : World) :
    Calls Tryz.prog 146 #[wv an ah al ae, wv bn bh bl be] w fun r w' => r = .returned (wv bn H L be) ∧ Below w.heap.size w w' := by
  unfold wv at *
  go_enter Tryz.func146, Tryz.ntmps146
  go_wp2_with fail
  refine (hk _).mono ?_
  rintro _ w1 ⟨rfl, h1⟩
  obtain ⟨hA, hC, hZ, hB⟩ := three_rows w w1 _ _ _ _ _ _ h1
  obtain ⟨a0, a1, a2, a3⟩ := hA.four
  obtain ⟨b0, b1, b2, b3⟩ := hC.four
  obtain ⟨d0, d1, d2, d3⟩ := hZ.four
  have z1 := hZ.frozen
  have z2 := hA.frozen
  have z3 := hC.frozen
  clear h1 hk
  go_wp2
  have hZ2 := (((((((hZ.off (B' := w.heap.size) 0 (.bool bn) (by omega)).off (B' := w.heap.size) 1 (.int .u64 (bh : Int)) (by omega)).off (B' := w.heap.size) 2 (.int .u64 (bl : Int)) (by omega)).off (B' := w.heap.size) 3 (.int .i64 be) (by omega)).off (B' := w.heap.size + 1) 0 (.bool an) (by omega)).off (B' := w.heap.size + 1) 1 (.int .u64 (ah : Int)) (by omega)).off (B' := w.heap.size + 1) 2 (.int .u64 (al : Int)) (by omega)).off (B' := w.heap.size + 1) 3 (.int .i64 ae) (by omega)
  refine bodyPost_ret (ret_one rfl (g := w.heap.size + 2) rfl (load57 (Row.set4 hZ2 _ _ _ _) rfl)) rfl ⟨rfl, ?_⟩
  repeat (refine below_set ?_ _ _ (by omega))
  exact hB
theorem diff_any (a b : Wd) (ha : a.n < M128) (hb : b.n < M128) (w : World) : Calls Tryz.prog 146 #[a.val, b.val] w fun r w' => r = .returned (diffW a b).val ∧ Below w.heap.size w w' := by
  have hk := bySize_any a b
  obtain ⟨an, x, ae⟩ := a
  obtain ⟨bn, y, be⟩ := b
  unfold M128 at ha hb
  simp only at ha hb
  unfold Wd.val at *
  simp only at *
  by_cases h : x < y
  · have e1 : diffW ⟨an, x, ae⟩ ⟨bn, y, be⟩ = ⟨bn, y - x, be⟩ := by unfold diffW; rw [if_pos h]
    rw [e1]
    have t1 := sub64 (y % 18446744073709551616) (x % 18446744073709551616) 0 (by omega)
    have t2 := sub64 (y / 18446744073709551616) (x / 18446744073709551616) (if y % 18446744073709551616 < x % 18446744073709551616 + 0 then 1 else 0) (by split <;> omega)
    simp only
    refine diff_lt an bn _ _ _ _ _ _ (if y % 18446744073709551616 < x % 18446744073709551616 + 0 then 1 else 0) (if y / 18446744073709551616 < x / 18446744073709551616 + (if y % 18446744073709551616 < x % 18446744073709551616 + 0 then 1 else 0) then 1 else 0) ae be _ hk (by unfold cN; rw [if_pos h]; omega) (fun w => ?_) (fun w => ?_) w
    · have := t1 w
      rw [show (y % 18446744073709551616 + 18446744073709551616 - x % 18446744073709551616 - 0) % 18446744073709551616 = (y - x) % 18446744073709551616 by omega] at this
      exact this
    · have := t2 w
      rw [show (y / 18446744073709551616 + 18446744073709551616 - x / 18446744073709551616 - (if y % 18446744073709551616 < x % 18446744073709551616 + 0 then 1 else 0)) % 18446744073709551616 = (y - x) / 18446744073709551616 by split <;> omega] at this
      exact this
  · have e1 : diffW ⟨an, x, ae⟩ ⟨bn, y, be⟩ = ⟨an, x - y, ae⟩ := by unfold diffW; rw [if_neg h]
    rw [e1]
    have t1 := sub64 (x % 18446744073709551616) (y % 18446744073709551616) 0 (by omega)
    have t2 := sub64 (x / 18446744073709551616) (y / 18446744073709551616) (if x % 18446744073709551616 < y % 18446744073709551616 + 0 then 1 else 0) (by split <;> omega)
    simp only
    refine diff_ge an bn _ _ _ _ _ _ (if x % 18446744073709551616 < y % 18446744073709551616 + 0 then 1 else 0) (if x / 18446744073709551616 < y / 18446744073709551616 + (if x % 18446744073709551616 < y % 18446744073709551616 + 0 then 1 else 0) then 1 else 0) ae be _ hk (by unfold cN; rw [if_neg h]; split <;> omega) (fun w => ?_) (fun w => ?_) w
    · have := t1 w
      rw [show (x % 18446744073709551616 + 18446744073709551616 - y % 18446744073709551616 - 0) % 18446744073709551616 = (x - y) % 18446744073709551616 by omega] at this
      exact this
    · have := t2 w
      rw [show (x / 18446744073709551616 + 18446744073709551616 - y / 18446744073709551616 - (if x % 18446744073709551616 < y % 18446744073709551616 + 0 then 1 else 0)) % 18446744073709551616 = (x - y) / 18446744073709551616 by split <;> omega] at this
      exact this
end Go.Proofs.YtnhflnpjepiceaaGreatDoor
/- sum: two numbers together. -/
namespace Go.Proofs.YtnhflnpjepiceaaGreatDoor
open Go.RowKit

theorem Row.off4 {W : World} {B : Nat} {t : TypeId} {cs : Array Value} (h : Row W B t cs) {B' : Nat} (hne : B ≠ B') (a b c d : Value) :
    Row ((((W.setCell ⟨B', 0, none⟩ a).setCell ⟨B', 1, none⟩ b).setCell ⟨B', 2, none⟩ c).setCell ⟨B', 3, none⟩ d) B t cs := (((h.off 0 a hne).off 1 b hne).off 2 c hne).off 3 d hne
theorem below_set4 {N : Nat} {x W : World} (h : Below N x W) {B' : Nat} (hN : N ≤ B') (a b c d : Value) :
    Below N x ((((W.setCell ⟨B', 0, none⟩ a).setCell ⟨B', 1, none⟩ b).setCell ⟨B', 2, none⟩ c).setCell ⟨B', 3, none⟩ d) := below_set (below_set (below_set (below_set h 0 a hN) 1 b hN) 2 c hN) 3 d hN
/-- What a way of two numbers answers: a number and whether it fits. -/
def WayR (o : Option Wd) (r : Ending) : Prop := ∃ (x : Wd) (b : Bool), r = .returned (.tuple #[x.val, .bool b]) ∧ x.n < M128 ∧ -9223372036854775808 ≤ x.e ∧ x.e ≤ 9223372036854775807 ∧ o = (if b then some x else none)
theorem lowW_some {x y : Wd} {t : Int} (h : lowW x t = some y) (hx : x.n < M128) : y.n < M128 ∧ y.neg = x.neg ∧ y.e ≤ t ∧ (y.e = x.e ∨ y.e = t) ∧ y.e ≤ x.e := by
  unfold lowW at h
  split at h
  · cases h; exact ⟨hx, rfl, by assumption, Or.inl rfl, Int.le_refl _⟩
  · split at h
    · cases h; exact ⟨by assumption, rfl, Int.le_refl _, Or.inr rfl, by simp only; omega⟩
    · cases h
def EOk (x : Wd) : Prop := -9223372036854775808 ≤ x.e ∧ x.e ≤ 9223372036854775807
set_option maxRecDepth 100000 in
set_option maxHeartbeats 600000 in
theorem sum_a0 (an bn : Bool) (ah al bh bl : Nat) (ae be : Int) (hza : ∀ w, Calls Tryz.prog 114 #[wv an ah al ae] w fun r w' => r = .returned (.bool true) ∧ Below w.heap.size w w') (w : World) :
    Calls Tryz.prog 105 #[wv an ah al ae, wv bn bh bl be] w fun r w' => r = .returned (.tuple #[wv bn bh bl be, .bool true]) ∧ Below w.heap.size w w' := by
  unfold wv at *

  go_enter Tryz.func105, Tryz.ntmps105
  go_wp2_with fail
  refine (hza _).mono ?_
  rintro _ w1 ⟨rfl, h1⟩
  obtain ⟨hA, hC, hZ, hB⟩ := three_rows w w1 _ _ _ _ _ _ h1
  obtain ⟨a0, a1, a2, a3⟩ := hA.four
  obtain ⟨b0, b1, b2, b3⟩ := hC.four
  obtain ⟨d0, d1, d2, d3⟩ := hZ.four
  have z1 := hA.frozen; have z2 := hC.frozen; have z3 := hZ.frozen
  clear h1 hza
  go_wp2
  refine bodyPost_ret (ret_two rfl (g := w.heap.size + 2) rfl rfl (load57 (Row.set4 hZ _ _ _ _) rfl)) rfl ⟨?_, ?_⟩
  · rfl
  · exact below_set4 hB (by omega) _ _ _ _
set_option maxRecDepth 100000 in
set_option maxHeartbeats 600000 in
theorem sum_b0 (an bn : Bool) (ah al bh bl : Nat) (ae be : Int) (hza : ∀ w, Calls Tryz.prog 114 #[wv an ah al ae] w fun r w' => r = .returned (.bool false) ∧ Below w.heap.size w w') (hzb : ∀ w, Calls Tryz.prog 114 #[wv bn bh bl be] w fun r w' => r = .returned (.bool true) ∧ Below w.heap.size w w') (w : World) :
    Calls Tryz.prog 105 #[wv an ah al ae, wv bn bh bl be] w fun r w' => r = .returned (.tuple #[wv an ah al ae, .bool true]) ∧ Below w.heap.size w w' := by
  unfold wv at *

  go_enter Tryz.func105, Tryz.ntmps105
  go_wp2_with fail
  refine (hza _).mono ?_
  rintro _ w1 ⟨rfl, h1⟩
  obtain ⟨hA, hC, hZ, hB⟩ := three_rows w w1 _ _ _ _ _ _ h1
  obtain ⟨a0, a1, a2, a3⟩ := hA.four
  obtain ⟨b0, b1, b2, b3⟩ := hC.four
  obtain ⟨d0, d1, d2, d3⟩ := hZ.four
  have z1 := hA.frozen; have z2 := hC.frozen; have z3 := hZ.frozen
  clear h1 hza
  go_wp2_with fail
  refine (hzb _).mono ?_
  rintro _ w2 ⟨rfl, h2⟩
  clear a0 a1 a2 a3 b0 b1 b2 b3 d0 d1 d2 d3 z1 z2 z3
  have hA := hA.below h2 hA.lt
  have hC := hC.below h2 hC.lt
  have hZ := hZ.below h2 hZ.lt
  have hB := hB.trans (h2.mono hB.size)
  obtain ⟨a0, a1, a2, a3⟩ := hA.four
  obtain ⟨b0, b1, b2, b3⟩ := hC.four
  obtain ⟨d0, d1, d2, d3⟩ := hZ.four
  have z1 := hA.frozen; have z2 := hC.frozen; have z3 := hZ.frozen
  clear h2 hzb
  go_wp2
  refine bodyPost_ret (ret_two rfl (g := w.heap.size + 2) rfl rfl (load57 (Row.set4 hZ _ _ _ _) rfl)) rfl ⟨?_, ?_⟩
  · rfl
  · exact below_set4 hB (by omega) _ _ _ _
set_option maxRecDepth 100000 in
set_option maxHeartbeats 600000 in
theorem sum_f1 (an bn : Bool) (ah al bh bl : Nat) (ae be : Int) (tn tb : Bool) (th tl : Nat) (te : Int) (hza : ∀ w, Calls Tryz.prog 114 #[wv an ah al ae] w fun r w' => r = .returned (.bool false) ∧ Below w.heap.size w w') (hzb : ∀ w, Calls Tryz.prog 114 #[wv bn bh bl be] w fun r w' => r = .returned (.bool false) ∧ Below w.heap.size w w') (hla : ∀ w, Calls Tryz.prog 145 #[wv an ah al ae, .int .i64 be] w fun r w' => r = .returned (.tuple #[.agg #[.bool false, .int .u64 0, .int .u64 0, .int .i64 0], .bool false]) ∧ Below w.heap.size w w') (hlb : ∀ w, Calls Tryz.prog 145 #[wv bn bh bl be, .int .i64 0] w fun r w' => r = .returned (.tuple #[wv tn th tl te, .bool tb]) ∧ Below w.heap.size w w') (w : World) :
    Calls Tryz.prog 105 #[wv an ah al ae, wv bn bh bl be] w fun r w' => r = .returned (.tuple #[.agg #[.bool false, .int .u64 0, .int .u64 0, .int .i64 0], .bool false]) ∧ Below w.heap.size w w' := by
  unfold wv at *

  go_enter Tryz.func105, Tryz.ntmps105
  go_wp2_with fail
  refine (hza _).mono ?_
  rintro _ w1 ⟨rfl, h1⟩
  obtain ⟨hA, hC, hZ, hB⟩ := three_rows w w1 _ _ _ _ _ _ h1
  obtain ⟨a0, a1, a2, a3⟩ := hA.four
  obtain ⟨b0, b1, b2, b3⟩ := hC.four
  obtain ⟨d0, d1, d2, d3⟩ := hZ.four
  have z1 := hA.frozen; have z2 := hC.frozen; have z3 := hZ.frozen
  clear h1 hza
  go_wp2_with fail
  refine (hzb _).mono ?_
  rintro _ w2 ⟨rfl, h2⟩
  clear a0 a1 a2 a3 b0 b1 b2 b3 d0 d1 d2 d3 z1 z2 z3
  have hA := hA.below h2 hA.lt
  have hC := hC.below h2 hC.lt
  have hZ := hZ.below h2 hZ.lt
  have hB := hB.trans (h2.mono hB.size)
  obtain ⟨a0, a1, a2, a3⟩ := hA.four
  obtain ⟨b0, b1, b2, b3⟩ := hC.four
  obtain ⟨d0, d1, d2, d3⟩ := hZ.four
  have z1 := hA.frozen; have z2 := hC.frozen; have z3 := hZ.frozen
  clear h2 hzb
  go_wp2_with fail
  refine (hla _).mono ?_
  rintro _ w3a ⟨rfl, h3⟩
  clear a0 a1 a2 a3 b0 b1 b2 b3 d0 d1 d2 d3 z1 z2 z3
  have hA := hA.below h3 hA.lt
  have hC := hC.below h3 hC.lt
  have hZ := hZ.below h3 hZ.lt
  have hB := hB.trans (h3.mono hB.size)
  obtain ⟨a0, a1, a2, a3⟩ := hA.four
  obtain ⟨b0, b1, b2, b3⟩ := hC.four
  obtain ⟨d0, d1, d2, d3⟩ := hZ.four
  have z1 := hA.frozen; have z2 := hC.frozen; have z3 := hZ.frozen
  clear h3 hla
  have hA := hA.set4 (.bool false) (.int .u64 0) (.int .u64 0) (.int .i64 0)
  have hC := hC.off4 (B' := w.heap.size) (by omega) (.bool false) (.int .u64 0) (.int .u64 0) (.int .i64 0)
  have hZ := hZ.off4 (B' := w.heap.size) (by omega) (.bool false) (.int .u64 0) (.int .u64 0) (.int .i64 0)
  have hB := below_set4 hB (B' := w.heap.size) (by omega) (.bool false) (.int .u64 0) (.int .u64 0) (.int .i64 0)
  go_wp2_with fail
  refine (hlb _).mono ?_
  rintro _ w3b ⟨rfl, h3⟩
  clear a0 a1 a2 a3 b0 b1 b2 b3 d0 d1 d2 d3 z1 z2 z3
  have hA := hA.below h3 hA.lt
  have hC := hC.below h3 hC.lt
  have hZ := hZ.below h3 hZ.lt
  have hB := hB.trans (h3.mono hB.size)
  obtain ⟨a0, a1, a2, a3⟩ := hA.four
  obtain ⟨b0, b1, b2, b3⟩ := hC.four
  obtain ⟨d0, d1, d2, d3⟩ := hZ.four
  have z1 := hA.frozen; have z2 := hC.frozen; have z3 := hZ.frozen
  clear h3 hlb
  have hC := hC.set4 (.bool tn) (.int .u64 (th : Int)) (.int .u64 (tl : Int)) (.int .i64 te)
  have hA := hA.off4 (B' := w.heap.size + 1) (by omega) (.bool tn) (.int .u64 (th : Int)) (.int .u64 (tl : Int)) (.int .i64 te)
  have hZ := hZ.off4 (B' := w.heap.size + 1) (by omega) (.bool tn) (.int .u64 (th : Int)) (.int .u64 (tl : Int)) (.int .i64 te)
  have hB := below_set4 hB (B' := w.heap.size + 1) (by omega) (.bool tn) (.int .u64 (th : Int)) (.int .u64 (tl : Int)) (.int .i64 te)
  go_wp2
  refine bodyPost_ret (ret_two rfl (g := w.heap.size + 2) rfl rfl (load57 (Row.set4 hZ _ _ _ _) rfl)) rfl ⟨?_, ?_⟩
  · rfl
  · exact below_set4 hB (by omega) _ _ _ _
set_option maxRecDepth 100000 in
set_option maxHeartbeats 600000 in
theorem sum_f2 (an bn : Bool) (ah al bh bl : Nat) (ae be : Int) (sn : Bool) (sh sl : Nat) (se : Int) (hza : ∀ w, Calls Tryz.prog 114 #[wv an ah al ae] w fun r w' => r = .returned (.bool false) ∧ Below w.heap.size w w') (hzb : ∀ w, Calls Tryz.prog 114 #[wv bn bh bl be] w fun r w' => r = .returned (.bool false) ∧ Below w.heap.size w w') (hla : ∀ w, Calls Tryz.prog 145 #[wv an ah al ae, .int .i64 be] w fun r w' => r = .returned (.tuple #[wv sn sh sl se, .bool true]) ∧ Below w.heap.size w w') (hlb : ∀ w, Calls Tryz.prog 145 #[wv bn bh bl be, .int .i64 se] w fun r w' => r = .returned (.tuple #[.agg #[.bool false, .int .u64 0, .int .u64 0, .int .i64 0], .bool false]) ∧ Below w.heap.size w w') (w : World) :
    Calls Tryz.prog 105 #[wv an ah al ae, wv bn bh bl be] w fun r w' => r = .returned (.tuple #[.agg #[.bool false, .int .u64 0, .int .u64 0, .int .i64 0], .bool false]) ∧ Below w.heap.size w w' := by
  unfold wv at *

  go_enter Tryz.func105, Tryz.ntmps105
  go_wp2_with fail
  refine (hza _).mono ?_
  rintro _ w1 ⟨rfl, h1⟩
  obtain ⟨hA, hC, hZ, hB⟩ := three_rows w w1 _ _ _ _ _ _ h1
  obtain ⟨a0, a1, a2, a3⟩ := hA.four
  obtain ⟨b0, b1, b2, b3⟩ := hC.four
  obtain ⟨d0, d1, d2, d3⟩ := hZ.four
  have z1 := hA.frozen; have z2 := hC.frozen; have z3 := hZ.frozen
  clear h1 hza
  go_wp2_with fail
  refine (hzb _).mono ?_
  rintro _ w2 ⟨rfl, h2⟩
  clear a0 a1 a2 a3 b0 b1 b2 b3 d0 d1 d2 d3 z1 z2 z3
  have hA := hA.below h2 hA.lt
  have hC := hC.below h2 hC.lt
  have hZ := hZ.below h2 hZ.lt
  have hB := hB.trans (h2.mono hB.size)
  obtain ⟨a0, a1, a2, a3⟩ := hA.four
  obtain ⟨b0, b1, b2, b3⟩ := hC.four
  obtain ⟨d0, d1, d2, d3⟩ := hZ.four
  have z1 := hA.frozen; have z2 := hC.frozen; have z3 := hZ.frozen
  clear h2 hzb
  go_wp2_with fail
  refine (hla _).mono ?_
  rintro _ w3a ⟨rfl, h3⟩
  clear a0 a1 a2 a3 b0 b1 b2 b3 d0 d1 d2 d3 z1 z2 z3
  have hA := hA.below h3 hA.lt
  have hC := hC.below h3 hC.lt
  have hZ := hZ.below h3 hZ.lt
  have hB := hB.trans (h3.mono hB.size)
  obtain ⟨a0, a1, a2, a3⟩ := hA.four
  obtain ⟨b0, b1, b2, b3⟩ := hC.four
  obtain ⟨d0, d1, d2, d3⟩ := hZ.four
  have z1 := hA.frozen; have z2 := hC.frozen; have z3 := hZ.frozen
  clear h3 hla
  have hA := hA.set4 (.bool sn) (.int .u64 (sh : Int)) (.int .u64 (sl : Int)) (.int .i64 se)
  have hC := hC.off4 (B' := w.heap.size) (by omega) (.bool sn) (.int .u64 (sh : Int)) (.int .u64 (sl : Int)) (.int .i64 se)
  have hZ := hZ.off4 (B' := w.heap.size) (by omega) (.bool sn) (.int .u64 (sh : Int)) (.int .u64 (sl : Int)) (.int .i64 se)
  have hB := below_set4 hB (B' := w.heap.size) (by omega) (.bool sn) (.int .u64 (sh : Int)) (.int .u64 (sl : Int)) (.int .i64 se)
  go_wp2_with fail
  refine (hlb _).mono ?_
  rintro _ w3b ⟨rfl, h3⟩
  clear a0 a1 a2 a3 b0 b1 b2 b3 d0 d1 d2 d3 z1 z2 z3
  have hA := hA.below h3 hA.lt
  have hC := hC.below h3 hC.lt
  have hZ := hZ.below h3 hZ.lt
  have hB := hB.trans (h3.mono hB.size)
  obtain ⟨a0, a1, a2, a3⟩ := hA.four
  obtain ⟨b0, b1, b2, b3⟩ := hC.four
  obtain ⟨d0, d1, d2, d3⟩ := hZ.four
  have z1 := hA.frozen; have z2 := hC.frozen; have z3 := hZ.frozen
  clear h3 hlb
  have hC := hC.set4 (.bool false) (.int .u64 0) (.int .u64 0) (.int .i64 0)
  have hA := hA.off4 (B' := w.heap.size + 1) (by omega) (.bool false) (.int .u64 0) (.int .u64 0) (.int .i64 0)
  have hZ := hZ.off4 (B' := w.heap.size + 1) (by omega) (.bool false) (.int .u64 0) (.int .u64 0) (.int .i64 0)
  have hB := below_set4 hB (B' := w.heap.size + 1) (by omega) (.bool false) (.int .u64 0) (.int .u64 0) (.int .i64 0)
  go_wp2
  refine bodyPost_ret (ret_two rfl (g := w.heap.size + 2) rfl rfl (load57 (Row.set4 hZ _ _ _ _) rfl)) rfl ⟨?_, ?_⟩
  · rfl
  · exact below_set4 hB (by omega) _ _ _ _
set_option maxRecDepth 100000 in
set_option maxHeartbeats 600000 in
theorem sum_tf (an bn : Bool) (ah al bh bl : Nat) (ae be : Int) (dn : Bool) (sh sl th tl dh dl : Nat) (se te de : Int) (hza : ∀ w, Calls Tryz.prog 114 #[wv an ah al ae] w fun r w' => r = .returned (.bool false) ∧ Below w.heap.size w w') (hzb : ∀ w, Calls Tryz.prog 114 #[wv bn bh bl be] w fun r w' => r = .returned (.bool false) ∧ Below w.heap.size w w') (hla : ∀ w, Calls Tryz.prog 145 #[wv an ah al ae, .int .i64 be] w fun r w' => r = .returned (.tuple #[wv true sh sl se, .bool true]) ∧ Below w.heap.size w w') (hlb : ∀ w, Calls Tryz.prog 145 #[wv bn bh bl be, .int .i64 se] w fun r w' => r = .returned (.tuple #[wv false th tl te, .bool true]) ∧ Below w.heap.size w w') (hd : ∀ w, Calls Tryz.prog 146 #[wv true sh sl se, wv false th tl te] w fun r w' => r = .returned (wv dn dh dl de) ∧ Below w.heap.size w w') (w : World) :
    Calls Tryz.prog 105 #[wv an ah al ae, wv bn bh bl be] w fun r w' => r = .returned (.tuple #[wv dn dh dl de, .bool true]) ∧ Below w.heap.size w w' := by
  unfold wv at *

  go_enter Tryz.func105, Tryz.ntmps105
  go_wp2_with fail
  refine (hza _).mono ?_
  rintro _ w1 ⟨rfl, h1⟩
  obtain ⟨hA, hC, hZ, hB⟩ := three_rows w w1 _ _ _ _ _ _ h1
  obtain ⟨a0, a1, a2, a3⟩ := hA.four
  obtain ⟨b0, b1, b2, b3⟩ := hC.four
  obtain ⟨d0, d1, d2, d3⟩ := hZ.four
  have z1 := hA.frozen; have z2 := hC.frozen; have z3 := hZ.frozen
  clear h1 hza
  go_wp2_with fail
  refine (hzb _).mono ?_
  rintro _ w2 ⟨rfl, h2⟩
  clear a0 a1 a2 a3 b0 b1 b2 b3 d0 d1 d2 d3 z1 z2 z3
  have hA := hA.below h2 hA.lt
  have hC := hC.below h2 hC.lt
  have hZ := hZ.below h2 hZ.lt
  have hB := hB.trans (h2.mono hB.size)
  obtain ⟨a0, a1, a2, a3⟩ := hA.four
  obtain ⟨b0, b1, b2, b3⟩ := hC.four
  obtain ⟨d0, d1, d2, d3⟩ := hZ.four
  have z1 := hA.frozen; have z2 := hC.frozen; have z3 := hZ.frozen
  clear h2 hzb
  go_wp2_with fail
  refine (hla _).mono ?_
  rintro _ w3a ⟨rfl, h3⟩
  clear a0 a1 a2 a3 b0 b1 b2 b3 d0 d1 d2 d3 z1 z2 z3
  have hA := hA.below h3 hA.lt
  have hC := hC.below h3 hC.lt
  have hZ := hZ.below h3 hZ.lt
  have hB := hB.trans (h3.mono hB.size)
  obtain ⟨a0, a1, a2, a3⟩ := hA.four
  obtain ⟨b0, b1, b2, b3⟩ := hC.four
  obtain ⟨d0, d1, d2, d3⟩ := hZ.four
  have z1 := hA.frozen; have z2 := hC.frozen; have z3 := hZ.frozen
  clear h3 hla
  have hA := hA.set4 (.bool true) (.int .u64 (sh : Int)) (.int .u64 (sl : Int)) (.int .i64 se)
  have hC := hC.off4 (B' := w.heap.size) (by omega) (.bool true) (.int .u64 (sh : Int)) (.int .u64 (sl : Int)) (.int .i64 se)
  have hZ := hZ.off4 (B' := w.heap.size) (by omega) (.bool true) (.int .u64 (sh : Int)) (.int .u64 (sl : Int)) (.int .i64 se)
  have hB := below_set4 hB (B' := w.heap.size) (by omega) (.bool true) (.int .u64 (sh : Int)) (.int .u64 (sl : Int)) (.int .i64 se)
  go_wp2_with fail
  refine (hlb _).mono ?_
  rintro _ w3b ⟨rfl, h3⟩
  clear a0 a1 a2 a3 b0 b1 b2 b3 d0 d1 d2 d3 z1 z2 z3
  have hA := hA.below h3 hA.lt
  have hC := hC.below h3 hC.lt
  have hZ := hZ.below h3 hZ.lt
  have hB := hB.trans (h3.mono hB.size)
  obtain ⟨a0, a1, a2, a3⟩ := hA.four
  obtain ⟨b0, b1, b2, b3⟩ := hC.four
  obtain ⟨d0, d1, d2, d3⟩ := hZ.four
  have z1 := hA.frozen; have z2 := hC.frozen; have z3 := hZ.frozen
  clear h3 hlb
  have hC := hC.set4 (.bool false) (.int .u64 (th : Int)) (.int .u64 (tl : Int)) (.int .i64 te)
  have hA := hA.off4 (B' := w.heap.size + 1) (by omega) (.bool false) (.int .u64 (th : Int)) (.int .u64 (tl : Int)) (.int .i64 te)
  have hZ := hZ.off4 (B' := w.heap.size + 1) (by omega) (.bool false) (.int .u64 (th : Int)) (.int .u64 (tl : Int)) (.int .i64 te)
  have hB := below_set4 hB (B' := w.heap.size + 1) (by omega) (.bool false) (.int .u64 (th : Int)) (.int .u64 (tl : Int)) (.int .i64 te)
  go_wp2_with fail
  refine (hd _).mono ?_
  rintro _ w5 ⟨rfl, h5⟩
  have hZ := hZ.below h5 hZ.lt
  have hB := hB.trans (h5.mono hB.size)
  clear a0 a1 a2 a3 b0 b1 b2 b3 d0 d1 d2 d3 z1 z2 z3 h5 hd
  obtain ⟨d0, d1, d2, d3⟩ := hZ.four
  have z3 := hZ.frozen
  go_wp2
  refine bodyPost_ret (ret_two rfl (g := w.heap.size + 2) rfl rfl (load57 (Row.set4 hZ _ _ _ _) rfl)) rfl ⟨?_, ?_⟩
  · rfl
  · exact below_set4 hB (by omega) _ _ _ _
set_option maxRecDepth 100000 in
set_option maxHeartbeats 600000 in
theorem sum_ft (an bn : Bool) (ah al bh bl : Nat) (ae be : Int) (dn : Bool) (sh sl th tl dh dl : Nat) (se te de : Int) (hza : ∀ w, Calls Tryz.prog 114 #[wv an ah al ae] w fun r w' => r = .returned (.bool false) ∧ Below w.heap.size w w') (hzb : ∀ w, Calls Tryz.prog 114 #[wv bn bh bl be] w fun r w' => r = .returned (.bool false) ∧ Below w.heap.size w w') (hla : ∀ w, Calls Tryz.prog 145 #[wv an ah al ae, .int .i64 be] w fun r w' => r = .returned (.tuple #[wv false sh sl se, .bool true]) ∧ Below w.heap.size w w') (hlb : ∀ w, Calls Tryz.prog 145 #[wv bn bh bl be, .int .i64 se] w fun r w' => r = .returned (.tuple #[wv true th tl te, .bool true]) ∧ Below w.heap.size w w') (hd : ∀ w, Calls Tryz.prog 146 #[wv false sh sl se, wv true th tl te] w fun r w' => r = .returned (wv dn dh dl de) ∧ Below w.heap.size w w') (w : World) :
    Calls Tryz.prog 105 #[wv an ah al ae, wv bn bh bl be] w fun r w' => r = .returned (.tuple #[wv dn dh dl de, .bool true]) ∧ Below w.heap.size w w' := by
  unfold wv at *

  go_enter Tryz.func105, Tryz.ntmps105
  go_wp2_with fail
  refine (hza _).mono ?_
  rintro _ w1 ⟨rfl, h1⟩
  obtain ⟨hA, hC, hZ, hB⟩ := three_rows w w1 _ _ _ _ _ _ h1
  obtain ⟨a0, a1, a2, a3⟩ := hA.four
  obtain ⟨b0, b1, b2, b3⟩ := hC.four
  obtain ⟨d0, d1, d2, d3⟩ := hZ.four
  have z1 := hA.frozen; have z2 := hC.frozen; have z3 := hZ.frozen
  clear h1 hza
  go_wp2_with fail
  refine (hzb _).mono ?_
  rintro _ w2 ⟨rfl, h2⟩
  clear a0 a1 a2 a3 b0 b1 b2 b3 d0 d1 d2 d3 z1 z2 z3
  have hA := hA.below h2 hA.lt
  have hC := hC.below h2 hC.lt
  have hZ := hZ.below h2 hZ.lt
  have hB := hB.trans (h2.mono hB.size)
  obtain ⟨a0, a1, a2, a3⟩ := hA.four
  obtain ⟨b0, b1, b2, b3⟩ := hC.four
  obtain ⟨d0, d1, d2, d3⟩ := hZ.four
  have z1 := hA.frozen; have z2 := hC.frozen; have z3 := hZ.frozen
  clear h2 hzb
  go_wp2_with fail
  refine (hla _).mono ?_
  rintro _ w3a ⟨rfl, h3⟩
  clear a0 a1 a2 a3 b0 b1 b2 b3 d0 d1 d2 d3 z1 z2 z3
  have hA := hA.below h3 hA.lt
  have hC := hC.below h3 hC.lt
  have hZ := hZ.below h3 hZ.lt
  have hB := hB.trans (h3.mono hB.size)
  obtain ⟨a0, a1, a2, a3⟩ := hA.four
  obtain ⟨b0, b1, b2, b3⟩ := hC.four
  obtain ⟨d0, d1, d2, d3⟩ := hZ.four
  have z1 := hA.frozen; have z2 := hC.frozen; have z3 := hZ.frozen
  clear h3 hla
  have hA := hA.set4 (.bool false) (.int .u64 (sh : Int)) (.int .u64 (sl : Int)) (.int .i64 se)
  have hC := hC.off4 (B' := w.heap.size) (by omega) (.bool false) (.int .u64 (sh : Int)) (.int .u64 (sl : Int)) (.int .i64 se)
  have hZ := hZ.off4 (B' := w.heap.size) (by omega) (.bool false) (.int .u64 (sh : Int)) (.int .u64 (sl : Int)) (.int .i64 se)
  have hB := below_set4 hB (B' := w.heap.size) (by omega) (.bool false) (.int .u64 (sh : Int)) (.int .u64 (sl : Int)) (.int .i64 se)
  go_wp2_with fail
  refine (hlb _).mono ?_
  rintro _ w3b ⟨rfl, h3⟩
  clear a0 a1 a2 a3 b0 b1 b2 b3 d0 d1 d2 d3 z1 z2 z3
  have hA := hA.below h3 hA.lt
  have hC := hC.below h3 hC.lt
  have hZ := hZ.below h3 hZ.lt
  have hB := hB.trans (h3.mono hB.size)
  obtain ⟨a0, a1, a2, a3⟩ := hA.four
  obtain ⟨b0, b1, b2, b3⟩ := hC.four
  obtain ⟨d0, d1, d2, d3⟩ := hZ.four
  have z1 := hA.frozen; have z2 := hC.frozen; have z3 := hZ.frozen
  clear h3 hlb
  have hC := hC.set4 (.bool true) (.int .u64 (th : Int)) (.int .u64 (tl : Int)) (.int .i64 te)
  have hA := hA.off4 (B' := w.heap.size + 1) (by omega) (.bool true) (.int .u64 (th : Int)) (.int .u64 (tl : Int)) (.int .i64 te)
  have hZ := hZ.off4 (B' := w.heap.size + 1) (by omega) (.bool true) (.int .u64 (th : Int)) (.int .u64 (tl : Int)) (.int .i64 te)
  have hB := below_set4 hB (B' := w.heap.size + 1) (by omega) (.bool true) (.int .u64 (th : Int)) (.int .u64 (tl : Int)) (.int .i64 te)
  go_wp2_with fail
  refine (hd _).mono ?_
  rintro _ w5 ⟨rfl, h5⟩
  have hZ := hZ.below h5 hZ.lt
  have hB := hB.trans (h5.mono hB.size)
  clear a0 a1 a2 a3 b0 b1 b2 b3 d0 d1 d2 d3 z1 z2 z3 h5 hd
  obtain ⟨d0, d1, d2, d3⟩ := hZ.four
  have z3 := hZ.frozen
  go_wp2
  refine bodyPost_ret (ret_two rfl (g := w.heap.size + 2) rfl rfl (load57 (Row.set4 hZ _ _ _ _) rfl)) rfl ⟨?_, ?_⟩
  · rfl
  · exact below_set4 hB (by omega) _ _ _ _
set_option maxRecDepth 100000 in
set_option maxHeartbeats 600000 in
theorem sum_ad (an bn : Bool) (ah al bh bl : Nat) (ae be : Int) (sn : Bool) (sh sl th tl H L cy ov : Nat) (se te : Int) (hza : ∀ w, Calls Tryz.prog 114 #[wv an ah al ae] w fun r w' => r = .returned (.bool false) ∧ Below w.heap.size w w') (hzb : ∀ w, Calls Tryz.prog 114 #[wv bn bh bl be] w fun r w' => r = .returned (.bool false) ∧ Below w.heap.size w w') (hla : ∀ w, Calls Tryz.prog 145 #[wv an ah al ae, .int .i64 be] w fun r w' => r = .returned (.tuple #[wv sn sh sl se, .bool true]) ∧ Below w.heap.size w w') (hlb : ∀ w, Calls Tryz.prog 145 #[wv bn bh bl be, .int .i64 se] w fun r w' => r = .returned (.tuple #[wv sn th tl te, .bool true]) ∧ Below w.heap.size w w') (s1 : ∀ w, (callFunc 147 #[.int .u64 (sl : Int), .int .u64 (tl : Int), .int .u64 0]).run Tryz.prog w = .ok (.value (.tuple #[.int .u64 (L : Int), .int .u64 (cy : Int)])) w) (s2 : ∀ w, (callFunc 147 #[.int .u64 (sh : Int), .int .u64 (th : Int), .int .u64 (cy : Int)]).run Tryz.prog w = .ok (.value (.tuple #[.int .u64 (H : Int), .int .u64 (ov : Int)])) w) (w : World) :
    Calls Tryz.prog 105 #[wv an ah al ae, wv bn bh bl be] w fun r w' => r = .returned (.tuple #[wv sn H L se, .bool ((ov : Int) == 0)]) ∧ Below w.heap.size w w' := by
  unfold wv at *

  go_enter Tryz.func105, Tryz.ntmps105
  go_wp2_with fail
  refine (hza _).mono ?_
  rintro _ w1 ⟨rfl, h1⟩
  obtain ⟨hA, hC, hZ, hB⟩ := three_rows w w1 _ _ _ _ _ _ h1
  obtain ⟨a0, a1, a2, a3⟩ := hA.four
  obtain ⟨b0, b1, b2, b3⟩ := hC.four
  obtain ⟨d0, d1, d2, d3⟩ := hZ.four
  have z1 := hA.frozen; have z2 := hC.frozen; have z3 := hZ.frozen
  clear h1 hza
  go_wp2_with fail
  refine (hzb _).mono ?_
  rintro _ w2 ⟨rfl, h2⟩
  clear a0 a1 a2 a3 b0 b1 b2 b3 d0 d1 d2 d3 z1 z2 z3
  have hA := hA.below h2 hA.lt
  have hC := hC.below h2 hC.lt
  have hZ := hZ.below h2 hZ.lt
  have hB := hB.trans (h2.mono hB.size)
  obtain ⟨a0, a1, a2, a3⟩ := hA.four
  obtain ⟨b0, b1, b2, b3⟩ := hC.four
  obtain ⟨d0, d1, d2, d3⟩ := hZ.four
  have z1 := hA.frozen; have z2 := hC.frozen; have z3 := hZ.frozen
  clear h2 hzb
  go_wp2_with fail
  refine (hla _).mono ?_
  rintro _ w3a ⟨rfl, h3⟩
  clear a0 a1 a2 a3 b0 b1 b2 b3 d0 d1 d2 d3 z1 z2 z3
  have hA := hA.below h3 hA.lt
  have hC := hC.below h3 hC.lt
  have hZ := hZ.below h3 hZ.lt
  have hB := hB.trans (h3.mono hB.size)
  obtain ⟨a0, a1, a2, a3⟩ := hA.four
  obtain ⟨b0, b1, b2, b3⟩ := hC.four
  obtain ⟨d0, d1, d2, d3⟩ := hZ.four
  have z1 := hA.frozen; have z2 := hC.frozen; have z3 := hZ.frozen
  clear h3 hla
  have hA := hA.set4 (.bool sn) (.int .u64 (sh : Int)) (.int .u64 (sl : Int)) (.int .i64 se)
  have hC := hC.off4 (B' := w.heap.size) (by omega) (.bool sn) (.int .u64 (sh : Int)) (.int .u64 (sl : Int)) (.int .i64 se)
  have hZ := hZ.off4 (B' := w.heap.size) (by omega) (.bool sn) (.int .u64 (sh : Int)) (.int .u64 (sl : Int)) (.int .i64 se)
  have hB := below_set4 hB (B' := w.heap.size) (by omega) (.bool sn) (.int .u64 (sh : Int)) (.int .u64 (sl : Int)) (.int .i64 se)
  go_wp2_with fail
  refine (hlb _).mono ?_
  rintro _ w3b ⟨rfl, h3⟩
  clear a0 a1 a2 a3 b0 b1 b2 b3 d0 d1 d2 d3 z1 z2 z3
  have hA := hA.below h3 hA.lt
  have hC := hC.below h3 hC.lt
  have hZ := hZ.below h3 hZ.lt
  have hB := hB.trans (h3.mono hB.size)
  obtain ⟨a0, a1, a2, a3⟩ := hA.four
  obtain ⟨b0, b1, b2, b3⟩ := hC.four
  obtain ⟨d0, d1, d2, d3⟩ := hZ.four
  have z1 := hA.frozen; have z2 := hC.frozen; have z3 := hZ.frozen
  clear h3 hlb
  have hC := hC.set4 (.bool sn) (.int .u64 (th : Int)) (.int .u64 (tl : Int)) (.int .i64 te)
  have hA := hA.off4 (B' := w.heap.size + 1) (by omega) (.bool sn) (.int .u64 (th : Int)) (.int .u64 (tl : Int)) (.int .i64 te)
  have hZ := hZ.off4 (B' := w.heap.size + 1) (by omega) (.bool sn) (.int .u64 (th : Int)) (.int .u64 (tl : Int)) (.int .i64 te)
  have hB := below_set4 hB (B' := w.heap.size + 1) (by omega) (.bool sn) (.int .u64 (th : Int)) (.int .u64 (tl : Int)) (.int .i64 te)
  go_wp2
  refine bodyPost_ret (ret_two rfl (g := w.heap.size + 2) rfl rfl (load57 (Row.set4 hZ _ _ _ _) rfl)) rfl ⟨?_, ?_⟩
  · rfl
  · exact below_set4 hB (by omega) _ _ _ _
end Go.Proofs.YtnhflnpjepiceaaGreatDoor
/- sum, less, product: what they answer. -/
namespace Go.Proofs.YtnhflnpjepiceaaGreatDoor
open Go.RowKit

theorem wayR_some {x : Wd} (h : x.n < M128) (he : EOk x) : WayR (some x) (.returned (.tuple #[x.val, .bool true])) := ⟨x, true, rfl, h, he.1, he.2, rfl⟩
theorem wayR_none : WayR none (.returned (.tuple #[.agg #[.bool false, .int .u64 0, .int .u64 0, .int .i64 0], .bool false])) := ⟨⟨false, 0, 0⟩, false, rfl, by decide, by decide, by decide, rfl⟩
theorem low_val (x : Wd) (t : Int) (h : x.n < M128) (he : EOk x) (ht : -9223372036854775808 ≤ t) :
    (lowW x t = none ∧ ∀ w, Calls Tryz.prog 145 #[x.val, .int .i64 t] w fun r w' => r = .returned (.tuple #[.agg #[.bool false, .int .u64 0, .int .u64 0, .int .i64 0], .bool false]) ∧ Below w.heap.size w w') ∨
    ∃ y, lowW x t = some y ∧ ∀ w, Calls Tryz.prog 145 #[x.val, .int .i64 t] w fun r w' => r = .returned (.tuple #[y.val, .bool true]) ∧ Below w.heap.size w w' := by
  have := lowered_any x t h he.2 he.1 ht
  cases hl : lowW x t with
  | none => rw [hl] at this; exact Or.inl ⟨rfl, this⟩
  | some y => rw [hl] at this; exact Or.inr ⟨y, rfl, this⟩
theorem sum_any (a b : Wd) (ha : a.n < M128) (hb : b.n < M128) (ea : EOk a) (eb : EOk b) (w : World) :
    Calls Tryz.prog 105 #[a.val, b.val] w fun r w' => WayR (sumW a b) r ∧ Below w.heap.size w w' := by
  have hza := zero_W a
  have hzb := zero_W b
  unfold sumW
  by_cases ha0 : a.n = 0
  · rw [decide_eq_true ha0] at hza
    rw [if_pos ha0]
    refine (sum_a0 a.neg b.neg _ _ _ _ a.e b.e hza w).mono ?_
    rintro r w' ⟨rfl, hB⟩
    exact ⟨wayR_some hb eb, hB⟩
  · rw [decide_eq_false ha0] at hza
    rw [if_neg ha0]
    by_cases hb0 : b.n = 0
    · rw [decide_eq_true hb0] at hzb
      rw [if_pos hb0]
      refine (sum_b0 a.neg b.neg _ _ _ _ a.e b.e hza hzb w).mono ?_
      rintro r w' ⟨rfl, hB⟩
      exact ⟨wayR_some ha ea, hB⟩
    · rw [decide_eq_false hb0] at hzb
      rw [if_neg hb0]
      rcases low_val a b.e ha ea eb.1 with ⟨hl, hla⟩ | ⟨a', hl, hla⟩
      · rw [hl]
        simp only
        rcases low_val b 0 hb eb (by omega) with ⟨_, hlb⟩ | ⟨y, _, hlb⟩
        · refine (sum_f1 a.neg b.neg _ _ _ _ a.e b.e false false 0 0 0 hza hzb hla hlb w).mono ?_
          rintro r w' ⟨rfl, hB⟩
          exact ⟨wayR_none, hB⟩
        · refine (sum_f1 a.neg b.neg _ _ _ _ a.e b.e y.neg true _ _ y.e hza hzb hla hlb w).mono ?_
          rintro r w' ⟨rfl, hB⟩
          exact ⟨wayR_none, hB⟩
      · rw [hl]
        simp only
        obtain ⟨p1, p2, p3, p4, p5⟩ := lowW_some hl ha
        have ea' : EOk a' := by unfold EOk at *; omega
        rcases low_val b a'.e hb eb ea'.1 with ⟨hl2, hlb⟩ | ⟨b', hl2, hlb⟩
        · rw [hl2]
          simp only
          refine (sum_f2 a.neg b.neg _ _ _ _ a.e b.e a'.neg _ _ a'.e hza hzb hla hlb w).mono ?_
          rintro r w' ⟨rfl, hB⟩
          exact ⟨wayR_none, hB⟩
        · rw [hl2]
          simp only
          obtain ⟨q1, q2, q3, q4, q5⟩ := lowW_some hl2 hb
          have eb' : EOk b' := by unfold EOk at *; omega
          unfold addW
          by_cases hs : a'.neg = b'.neg
          · rw [if_pos hs]
            have t1 := add64 (a'.n % 18446744073709551616) (b'.n % 18446744073709551616) 0 (by omega)
            have t2 := add64 (a'.n / 18446744073709551616) (b'.n / 18446744073709551616) ((a'.n % 18446744073709551616 + b'.n % 18446744073709551616 + 0) / 18446744073709551616) (by omega)
            unfold M128 at p1 q1
            have hlb' : ∀ w, Calls Tryz.prog 145 #[b.val, .int .i64 a'.e] w fun r w' => r = .returned (.tuple #[wv a'.neg (b'.n / 18446744073709551616) (b'.n % 18446744073709551616) b'.e, .bool true]) ∧ Below w.heap.size w w' := by rw [hs]; exact hlb
            refine (sum_ad a.neg b.neg _ _ _ _ a.e b.e a'.neg _ _ _ _ _ _ _ _ a'.e b'.e hza hzb hla hlb' t1 t2 w).mono ?_
            rintro r w' ⟨rfl, hB⟩
            refine ⟨?_, hB⟩
            have e1 : (a'.n % 18446744073709551616 + b'.n % 18446744073709551616 + 0) % 18446744073709551616 = ((a'.n + b'.n) % 340282366920938463463374607431768211456) % 18446744073709551616 := by omega
            have e2 : (a'.n / 18446744073709551616 + b'.n / 18446744073709551616 + (a'.n % 18446744073709551616 + b'.n % 18446744073709551616 + 0) / 18446744073709551616) % 18446744073709551616 = ((a'.n + b'.n) % 340282366920938463463374607431768211456) / 18446744073709551616 := by omega
            rw [e1, e2]
            refine ⟨⟨a'.neg, (a'.n + b'.n) % 340282366920938463463374607431768211456, a'.e⟩, decide (a'.n + b'.n < M128), ?_, ?_, ea'.1, ea'.2, ?_⟩
            · congr 4
              unfold M128
              by_cases hc : a'.n + b'.n < 340282366920938463463374607431768211456
              · rw [show (a'.n / 18446744073709551616 + b'.n / 18446744073709551616 + (a'.n % 18446744073709551616 + b'.n % 18446744073709551616 + 0) / 18446744073709551616) / 18446744073709551616 = 0 by omega]
                simp [hc]
              · rw [show (a'.n / 18446744073709551616 + b'.n / 18446744073709551616 + (a'.n % 18446744073709551616 + b'.n % 18446744073709551616 + 0) / 18446744073709551616) / 18446744073709551616 = 1 by omega]
                simp [hc]
            · show (a'.n + b'.n) % 340282366920938463463374607431768211456 < M128
              unfold M128; omega
            · by_cases hc : a'.n + b'.n < M128
              · rw [if_pos hc, decide_eq_true hc]
                simp only [if_true]
                unfold M128 at hc
                rw [Nat.mod_eq_of_lt hc]
              · rw [if_neg hc, decide_eq_false hc]
                simp
          · rw [if_neg hs]
            have hd := diff_any a' b' p1 q1
            have hdn : (diffW a' b').n < M128 ∧ EOk (diffW a' b') := by
              unfold diffW EOk at *
              split <;> (simp only; omega)
            cases hna : a'.neg <;> cases hnb : b'.neg
            · exact absurd (hna.trans hnb.symm) hs
            · unfold Wd.val at hla hlb hd
              rw [hna] at hla hd
              rw [hnb] at hlb hd
              refine (sum_ft a.neg b.neg _ _ _ _ a.e b.e _ _ _ _ _ _ _ a'.e b'.e _ hza hzb hla hlb hd w).mono ?_
              rintro r w' ⟨rfl, hB⟩
              exact ⟨wayR_some hdn.1 hdn.2, hB⟩
            · unfold Wd.val at hla hlb hd
              rw [hna] at hla hd
              rw [hnb] at hlb hd
              refine (sum_tf a.neg b.neg _ _ _ _ a.e b.e _ _ _ _ _ _ _ a'.e b'.e _ hza hzb hla hlb hd w).mono ?_
              rintro r w' ⟨rfl, hB⟩
              exact ⟨wayR_some hdn.1 hdn.2, hB⟩
            · exact absurd (hna.trans hnb.symm) hs
set_option maxRecDepth 100000 in
set_option maxHeartbeats 600000 in
theorem product_raw (an bn : Bool) (ah al bh bl H L : Nat) (ae be ee : Int) (m : ∀ w, Calls Tryz.prog 150 #[.int .u64 (al : Int), .int .u64 (bl : Int)] w fun e w' => e = .returned (.tuple #[.int .u64 (H : Int), .int .u64 (L : Int)]) ∧ w' = w) (he : wrap64 (ae + be) = ee) (w : World) :
    Calls Tryz.prog 110 #[wv an ah al ae, wv bn bh bl be] w fun r w' => r = .returned (.tuple #[wv (an != bn) H L ee, .bool true]) ∧ Below w.heap.size w w' := by
  unfold wv
  have HE : Hid (wrap64 (ae + be) = ee) := he
  clear he
  go_enter Tryz.func110, Tryz.ntmps110
  go_wp2_with fail
  refine (m _).mono ?_
  rintro _ w1 ⟨rfl, hw1⟩
  rw [hw1]
  clear hw1 w1
  go_wp2
  try rw [HE.out]
  refine bodyPost_ret (ret_two rfl (g := w.heap.size + 2) rfl rfl (load57 (three_rows w _ _ _ _ 85 85 85 (Below.refl _ _)).2.2.1 rfl)) rfl ⟨rfl, ?_⟩
  exact (((Below.refl _ w).alloc (Nat.le_refl _) _).alloc (by simp) _).alloc (by simp; omega) _
theorem product_any (a b : Wd) (ha : a.n < 18446744073709551616) (hb : b.n < 18446744073709551616) (ea : -1000 ≤ a.e ∧ a.e ≤ 1000) (eb : -1000 ≤ b.e ∧ b.e ≤ 1000) (w : World) :
    Calls Tryz.prog 110 #[a.val, b.val] w fun r w' => WayR (some (prodW a b)) r ∧ Below w.heap.size w w' := by
  have m := Tryz.bits_Mul64 (a.n % 18446744073709551616) (b.n % 18446744073709551616) (by omega) (by omega)
  rw [show a.n % 18446744073709551616 = a.n by omega, show b.n % 18446744073709551616 = b.n by omega] at m
  have hM : a.n * b.n < M128 := by
    unfold M128
    have := Nat.mul_lt_mul'' ha hb
    omega
  have := product_raw a.neg b.neg (a.n / 18446744073709551616) a.n (b.n / 18446744073709551616) b.n _ _ a.e b.e (a.e + b.e) m (by unfold wrap64; omega) w
  unfold Wd.val
  rw [show a.n % 18446744073709551616 = a.n by omega, show b.n % 18446744073709551616 = b.n by omega]
  refine this.mono ?_
  rintro r w' ⟨rfl, hB⟩
  exact ⟨wayR_some (x := prodW a b) hM ⟨by unfold prodW; simp only; omega, by unfold prodW; simp only; omega⟩, hB⟩
end Go.Proofs.YtnhflnpjepiceaaGreatDoor
/- less: a number less another one. -/
namespace Go.Proofs.YtnhflnpjepiceaaGreatDoor
open Go.RowKit

theorem turned_W (x : Wd) (w : World) : Calls Tryz.prog 126 #[x.val] w fun r w' => r = .returned (turnW x).val ∧ Below w.heap.size w w' := turned_any x.neg _ _ x.e w
theorem val_agg (x : Wd) : ∃ a b c d, x.val = .agg #[.bool a, .int .u64 b, .int .u64 c, .int .i64 d] := ⟨_, _, _, _, rfl⟩
set_option maxRecDepth 100000 in
set_option maxHeartbeats 600000 in
theorem less_any (a b : Wd) (ha : a.n < M128) (hb : b.n < M128) (ea : EOk a) (eb : EOk b) (w : World) :
    Calls Tryz.prog 109 #[a.val, b.val] w fun r w' => WayR (sumW a (turnW b)) r ∧ Below w.heap.size w w' := by
  have k1 := turned_W b
  have k2 := sum_any a (turnW b) ha hb ea eb
  generalize sumW a (turnW b) = o at *
  obtain ⟨a0, a1, a2, a3, hav⟩ := val_agg a
  obtain ⟨b0, b1, b2, b3, hbv⟩ := val_agg b
  obtain ⟨c0, c1, c2, c3, hcv⟩ := val_agg (turnW b)
  rw [hav, hcv] at k2
  rw [hbv, hcv] at k1
  rw [hav, hbv]
  clear hav hbv hcv ha hb ea eb
  go_enter Tryz.func109, Tryz.ntmps109
  go_wp2_with fail
  obtain ⟨hA, hC, hZ, hB⟩ := three_rows w _ _ _ _ 85 85 85 (Below.refl _ (((w.alloc (.cells #[.bool a0, .int .u64 a1, .int .u64 a2, .int .i64 a3] 85)).alloc (.cells #[.bool b0, .int .u64 b1, .int .u64 b2, .int .i64 b3] 85)).alloc (.cells #[.bool false, .int .u64 0, .int .u64 0, .int .i64 0] 85)))
  generalize (((w.alloc (.cells #[.bool a0, .int .u64 a1, .int .u64 a2, .int .i64 a3] 85)).alloc (.cells #[.bool b0, .int .u64 b1, .int .u64 b2, .int .i64 b3] 85)).alloc (.cells #[.bool false, .int .u64 0, .int .u64 0, .int .i64 0] 85)) = W at *
  have hS0 : Below W.heap.size W W.drew := (Below.refl _ W).drew
  refine wp_region_M (fun wx : World => Below W.heap.size W wx) (fun j => decide (j < 4)) 8 rfl (by kernel_rfl) ?_
  refine wpM_held 0 (v := .agg #[.bool a0, .int .u64 a1, .int .u64 a2, .int .i64 a3]) rfl (by kernel_rfl) (by kernel_rfl) rfl (fun _ _ _ h => h) rfl (by intro wx hx; obtain ⟨g0, g1, g2, g3⟩ := (hA.below hx hA.lt).four; go_simp <;> rfl) hS0 ?_
  refine wpM_held 1 (v := .agg #[.bool b0, .int .u64 b1, .int .u64 b2, .int .i64 b3]) rfl (by kernel_rfl) (by kernel_rfl) rfl (fun _ _ _ h => h) rfl (by intro wx hx; obtain ⟨g0, g1, g2, g3⟩ := (hC.below hx hC.lt).four; go_simp <;> rfl) hS0 ?_
  refine wpM_one 2 rfl (by kernel_rfl) rfl ?_
  go_wp2_with fail
  refine (k1 _).mono ?_
  rintro _ w1 ⟨rfl, h1⟩
  have hS1 := hS0.trans h1
  clear h1 k1
  go_wp2_with fail
  refine ⟨fun _ => hS1, ?_⟩
  refine wpM_one 3 rfl (by kernel_rfl) rfl ?_
  go_wp2_with fail
  refine (k2 _).mono ?_
  rintro _ w2 ⟨⟨x, t, rfl, x1, x2, x3, x4⟩, h2⟩
  have hS2 := hS1.trans (h2.mono hS1.size)
  obtain ⟨d0, d1, d2, d3, hxv⟩ := val_agg x
  have HR : Hid (WayR o (.returned (.tuple #[.agg #[.bool d0, .int .u64 d1, .int .u64 d2, .int .i64 d3], .bool t]))) := ⟨x, t, by rw [hxv], x1, x2, x3, x4⟩
  rw [hxv]
  have hZ2 := hZ.below hS2 hZ.lt
  have hB2 := hB.trans (hS2.mono hB.size)
  clear h2 k2 x1 x2 x3 x4 hxv
  go_wp2_with fail
  refine ⟨fun _ => hS2, ?_⟩
  refine wpM_free 4 (v := ?_) rfl (by kernel_rfl) (by kernel_rfl) rfl (fun _ _ _ h => h) rfl (by intro wx; go_simp <;> rfl) ?_
  refine wpM_free 5 (v := ?_) rfl (by kernel_rfl) (by kernel_rfl) rfl (fun _ _ _ h => h) rfl (by intro wx; go_simp <;> rfl) ?_
  obtain ⟨g0, g1, g2, g3⟩ := hZ2.four
  have z := hZ2.frozen
  refine wpM_one 6 rfl (by kernel_rfl) rfl ?_
  go_wp2_with fail
  refine ⟨(fun h => by simp at h), ?_⟩
  refine wpM_one 7 rfl (by kernel_rfl) rfl ?_
  go_wp2_with fail
  refine ⟨(fun h => by simp at h), ?_⟩
  refine wpM_done (by kernel_rfl) ?_
  go_wp2
  refine bodyPost_ret (v := .tuple #[.agg #[.bool d0, .int .u64 d1, .int .u64 d2, .int .i64 d3], .bool t]) (ret_two rfl (g := w.heap.size + 2) rfl rfl (load57 (Row.set4 hZ2 _ _ _ _) rfl)) rfl ⟨HR.out, ?_⟩
  exact below_set4 hB2 (by omega) _ _ _ _
end Go.Proofs.YtnhflnpjepiceaaGreatDoor
/- reckoned: what a way makes of two Decs. -/
namespace Go.Proofs.YtnhflnpjepiceaaGreatDoor
open Go.RowKit

theorem four_rows (w w1 : World) (o1 o2 o3 o4 : Array Value) (t1 t2 t3 t4 : TypeId) (h : Below (((((w.alloc (.cells o1 t1)).alloc (.cells o2 t2)).alloc (.cells o3 t3)).alloc (.cells o4 t4)).heap.size) ((((w.alloc (.cells o1 t1)).alloc (.cells o2 t2)).alloc (.cells o3 t3)).alloc (.cells o4 t4)) w1) :
    Row w1 w.heap.size t1 o1 ∧ Row w1 (w.heap.size + 1) t2 o2 ∧ Row w1 (w.heap.size + 2) t3 o3 ∧ Row w1 (w.heap.size + 3) t4 o4 ∧ Below w.heap.size w w1 := by
  have r4 : Row ((((w.alloc (.cells o1 t1)).alloc (.cells o2 t2)).alloc (.cells o3 t3)).alloc (.cells o4 t4)) (w.heap.size + 3) t4 o4 := by
    have := Row.new (((w.alloc (.cells o1 t1)).alloc (.cells o2 t2)).alloc (.cells o3 t3)) t4 o4
    simpa using this
  obtain ⟨r1, r2, r3, hB⟩ := three_rows w w1 o1 o2 o3 t1 t2 t3 (((Below.refl _ _).alloc (Nat.le_refl _) (.cells o4 t4)).trans (h.mono (by simp)))
  exact ⟨r1, r2, r3, r4.below h r4.lt, hB⟩
theorem Row.eight {W : World} {B : Nat} {t : TypeId} {a b c d e f g h : Value} (hr : Row W B t #[a, b, c, d, e, f, g, h]) :
    W.cell? ⟨B, 0, none⟩ = some a ∧ W.cell? ⟨B, 1, none⟩ = some b ∧ W.cell? ⟨B, 2, none⟩ = some c ∧ W.cell? ⟨B, 3, none⟩ = some d ∧ W.cell? ⟨B, 4, none⟩ = some e ∧ W.cell? ⟨B, 5, none⟩ = some f ∧ W.cell? ⟨B, 6, none⟩ = some g ∧ W.cell? ⟨B, 7, none⟩ = some h :=
  ⟨hr.cell rfl, hr.cell rfl, hr.cell rfl, hr.cell rfl, hr.cell rfl, hr.cell rfl, hr.cell rfl, hr.cell rfl⟩
theorem decV_form (o : Option (Int × Int)) : ∃ a b v, decV o = .tuple #[.agg #[.int .i64 a, .int .i64 b], .int .i64 v] := by
  cases o with
  | none => exact ⟨_, _, _, rfl⟩
  | some p => exact ⟨_, _, _, rfl⟩
set_option maxRecDepth 100000 in
set_option maxHeartbeats 800000 in
theorem reckoned_bad1 (f : FuncId) (c e c2 e2 : Int) (he : ¬ within e) (w : World) :
    Calls Tryz.prog 108 #[.func (.func f) #[] #[], dv c e, dv c2 e2] w fun r w' => r = .returned (.tuple #[dv 0 0, .int .i64 1]) ∧ Below w.heap.size w w' := by
  unfold dv
  go_enter Tryz.func108, Tryz.ntmps108
  go_wp2_with fail
  obtain ⟨_, _, _, hK, _⟩ := four_rows w _ _ _ _ _ 23 23 23 23 (Below.refl _ ((((w.alloc (.cells #[.int .i64 c, .int .i64 e] 23)).alloc (.cells #[.int .i64 c2, .int .i64 e2] 23)).alloc (.cells #[.int .i64 0, .int .i64 0] 23)).alloc (.cells #[.int .i64 c, .int .i64 e, .int .i64 c2, .int .i64 e2] 23)))
  refine (taken2_bad1 c e c2 e2 _ _ he hK).mono ?_
  rintro _ w1 ⟨h1, rfl⟩
  obtain ⟨_, _, hZ, _, hB⟩ := four_rows w w1 _ _ _ _ _ _ _ _ h1
  obtain ⟨d0, d1⟩ := hZ.duo
  have z := hZ.frozen
  clear h1
  go_wp2
  refine bodyPost_ret (ret_two rfl (g := w.heap.size + 2) rfl rfl (load23 (Row.set2 hZ _ _) rfl)) rfl ⟨rfl, ?_⟩
  repeat (refine below_set ?_ _ _ (by omega))
  exact hB
set_option maxRecDepth 100000 in
set_option maxHeartbeats 800000 in
theorem reckoned_bad2 (f : FuncId) (c e c2 e2 : Int) (hc : I64 c) (he : within e) (he2 : ¬ within e2) (w : World) :
    Calls Tryz.prog 108 #[.func (.func f) #[] #[], dv c e, dv c2 e2] w fun r w' => r = .returned (.tuple #[dv 0 0, .int .i64 1]) ∧ Below w.heap.size w w' := by
  unfold dv
  go_enter Tryz.func108, Tryz.ntmps108
  go_wp2_with fail
  obtain ⟨_, _, _, hK, _⟩ := four_rows w _ _ _ _ _ 23 23 23 23 (Below.refl _ ((((w.alloc (.cells #[.int .i64 c, .int .i64 e] 23)).alloc (.cells #[.int .i64 c2, .int .i64 e2] 23)).alloc (.cells #[.int .i64 0, .int .i64 0] 23)).alloc (.cells #[.int .i64 c, .int .i64 e, .int .i64 c2, .int .i64 e2] 23)))
  refine (taken2_bad2 c e c2 e2 _ _ hc he he2 hK).mono ?_
  rintro _ w1 ⟨h1, rfl⟩
  obtain ⟨_, _, hZ, _, hB⟩ := four_rows w w1 _ _ _ _ _ _ _ _ h1
  obtain ⟨d0, d1⟩ := hZ.duo
  have z := hZ.frozen
  clear h1
  go_wp2
  refine bodyPost_ret (ret_two rfl (g := w.heap.size + 2) rfl rfl (load23 (Row.set2 hZ _ _) rfl)) rfl ⟨rfl, ?_⟩
  repeat (refine below_set ?_ _ _ (by omega))
  exact hB
set_option maxRecDepth 100000 in
set_option maxHeartbeats 800000 in
theorem reckoned_ok34 (c e c2 e2 : Int) (o : Option Wd) (hc : I64 c) (he : within e) (hc2 : I64 c2) (he2 : within e2) 
    (hw : ∀ w, Calls Tryz.prog 105 #[(decW c e).val, (decW c2 e2).val] w fun r w' => WayR o r ∧ Below w.heap.size w w') (w : World) :
    Calls Tryz.prog 108 #[.func (.func 105) #[] #[], dv c e, dv c2 e2] w fun r w' => r = .returned (decV (toldW o)) ∧ Below w.heap.size w w' := by
  have hT := fun K w (hK : Row w K 23 #[.int .i64 c, .int .i64 e, .int .i64 c2, .int .i64 e2]) => taken2 c e c2 e2 K w hc he hc2 he2 hK
  simp only [Wd.val_eq] at *
  obtain ⟨y0, y1, y2, y3, hy⟩ : ∃ y0 y1 y2 y3, (decW c e).cells = #[y0, y1, y2, y3] := ⟨_, _, _, _, rfl⟩
  obtain ⟨z0, z1, z2, z3, hz⟩ : ∃ y0 y1 y2 y3, (decW c2 e2).cells = #[y0, y1, y2, y3] := ⟨_, _, _, _, rfl⟩
  rw [hy, hz] at hw
  simp only [hy, hz] at hT
  clear hc he hc2 he2
  obtain ⟨p, q, v, hdv⟩ := decV_form (toldW o)
  rw [hdv]
  have HDV : Hid (decV (toldW o) = .tuple #[.agg #[.int .i64 p, .int .i64 q], .int .i64 v]) := hdv
  clear hdv
  unfold dv
  go_enter Tryz.func108, Tryz.ntmps108
  go_wp2_with fail
  obtain ⟨_, _, _, hK, _⟩ := four_rows w _ _ _ _ _ 23 23 23 23 (Below.refl _ ((((w.alloc (.cells #[.int .i64 c, .int .i64 e] 23)).alloc (.cells #[.int .i64 c2, .int .i64 e2] 23)).alloc (.cells #[.int .i64 0, .int .i64 0] 23)).alloc (.cells #[.int .i64 c, .int .i64 e, .int .i64 c2, .int .i64 e2] 23)))
  refine (hT _ _ hK).mono ?_
  rintro _ W ⟨h1, G, hG, rfl, hR⟩
  obtain ⟨_, _, hZ, _, hB⟩ := four_rows w W _ _ _ _ _ _ _ _ h1
  have hGn : w.heap.size + 2 ≠ G := by simp at hG; omega
  have hR : Row W G 85 #[y0, y1, y2, y3, z0, z1, z2, z3] := hR
  clear h1 hG hK hT
  go_wp2_with fail
  have hS0 : Below W.heap.size W W.drew := (Below.refl _ W).drew
  refine wp_region_M (fun wx : World => Below W.heap.size W wx) (fun j => decide (j < 10)) 15 rfl (by kernel_rfl) ?_
  refine wpM_held 0 (v := ?_) rfl (by kernel_rfl) (by kernel_rfl) rfl (fun _ _ _ h => h) rfl (by intro wx hx; go_simp <;> rfl) hS0 ?_
  refine wpM_held 1 (v := ?_) rfl (by kernel_rfl) (by kernel_rfl) rfl (fun _ _ _ h => h) rfl (by intro wx hx; go_simp <;> rfl) hS0 ?_
  refine wpM_held 2 (v := .pointer (some ⟨G, 0, none⟩)) rfl (by kernel_rfl) (by kernel_rfl) rfl (fun _ _ _ h => h) rfl (by intro wx hx; go_simp <;> rfl) hS0 ?_
  refine wpM_held 3 (v := .agg #[y0, y1, y2, y3]) rfl (by kernel_rfl) (by kernel_rfl) rfl (fun _ _ _ h => h) rfl (by intro wx hx; obtain ⟨g0, g1, g2, g3, g4, g5, g6, g7⟩ := (hR.below hx hR.lt).eight; go_simp <;> rfl) hS0 ?_
  refine wpM_held 4 (v := ?_) rfl (by kernel_rfl) (by kernel_rfl) rfl (fun _ _ _ h => h) rfl (by intro wx hx; go_simp <;> rfl) hS0 ?_
  refine wpM_held 5 (v := .pointer (some ⟨G, 4, none⟩)) rfl (by kernel_rfl) (by kernel_rfl) rfl (fun _ _ _ h => h) rfl (by intro wx hx; go_simp <;> rfl) hS0 ?_
  refine wpM_held 6 (v := .agg #[z0, z1, z2, z3]) rfl (by kernel_rfl) (by kernel_rfl) rfl (fun _ _ _ h => h) rfl (by intro wx hx; obtain ⟨g0, g1, g2, g3, g4, g5, g6, g7⟩ := (hR.below hx hR.lt).eight; go_simp <;> rfl) hS0 ?_
  refine wpM_one 7 rfl (by kernel_rfl) rfl ?_
  go_wp2_with fail
  refine (hw _).mono ?_
  rintro _ w1 ⟨⟨x, t, rfl, x1, x2, x3, x4⟩, h1⟩
  have hS1 := hS0.trans h1
  have hTD := told_any x t x1 x3 x2
  rw [show (if t = true then tellW x.neg x.n x.e else none) = toldW o by rw [x4]; cases t <;> rfl] at hTD
  rw [HDV.out] at hTD
  obtain ⟨d0, d1, d2, d3, hxv⟩ := val_agg x
  rw [hxv] at hTD ⊢
  clear h1 hw x1 x2 x3 x4 hxv
  go_wp2_with fail
  refine ⟨fun _ => hS1, ?_⟩
  refine wpM_held 8 (v := ?_) rfl (by kernel_rfl) (by kernel_rfl) rfl (fun _ _ _ h => h) rfl (by intro wx hx; go_simp <;> rfl) hS1 ?_
  refine wpM_held 9 (v := ?_) rfl (by kernel_rfl) (by kernel_rfl) rfl (fun _ _ _ h => h) rfl (by intro wx hx; go_simp <;> rfl) hS1 ?_
  refine wpM_one 10 rfl (by kernel_rfl) rfl ?_
  go_wp2_with fail
  refine (hTD _).mono ?_
  rintro _ w2 ⟨rfl, h2⟩
  have hS2 := hS1.trans (h2.mono hS1.size)
  have hZ2 := hZ.below hS2 hZ.lt
  have hB2 := hB.trans (hS2.mono hB.size)
  clear h2 hTD
  go_wp2_with fail
  refine ⟨(fun h => by simp at h), ?_⟩
  refine wpM_free 11 (v := ?_) rfl (by kernel_rfl) (by kernel_rfl) rfl (fun _ _ _ h => h) rfl (by intro wx; go_simp <;> rfl) ?_
  refine wpM_free 12 (v := ?_) rfl (by kernel_rfl) (by kernel_rfl) rfl (fun _ _ _ h => h) rfl (by intro wx; go_simp <;> rfl) ?_
  obtain ⟨g0, g1⟩ := hZ2.duo
  have z := hZ2.frozen
  refine wpM_one 13 rfl (by kernel_rfl) rfl ?_
  go_wp2_with fail
  refine ⟨(fun h => by simp at h), ?_⟩
  refine wpM_one 14 rfl (by kernel_rfl) rfl ?_
  go_wp2_with fail
  refine ⟨(fun h => by simp at h), ?_⟩
  refine wpM_done (by kernel_rfl) ?_
  go_wp2
  refine bodyPost_ret (v := .tuple #[.agg #[.int .i64 p, .int .i64 q], .int .i64 v]) (ret_two rfl (g := w.heap.size + 2) rfl rfl (load23 (Row.set2 hZ2 _ _) rfl)) rfl ⟨rfl, ?_⟩
  repeat (refine below_set ?_ _ _ (by omega))
  exact hB2
set_option maxRecDepth 100000 in
set_option maxHeartbeats 800000 in
theorem reckoned_ok38 (c e c2 e2 : Int) (o : Option Wd) (hc : I64 c) (he : within e) (hc2 : I64 c2) (he2 : within e2) 
    (hw : ∀ w, Calls Tryz.prog 109 #[(decW c e).val, (decW c2 e2).val] w fun r w' => WayR o r ∧ Below w.heap.size w w') (w : World) :
    Calls Tryz.prog 108 #[.func (.func 109) #[] #[], dv c e, dv c2 e2] w fun r w' => r = .returned (decV (toldW o)) ∧ Below w.heap.size w w' := by
  have hT := fun K w (hK : Row w K 23 #[.int .i64 c, .int .i64 e, .int .i64 c2, .int .i64 e2]) => taken2 c e c2 e2 K w hc he hc2 he2 hK
  simp only [Wd.val_eq] at *
  obtain ⟨y0, y1, y2, y3, hy⟩ : ∃ y0 y1 y2 y3, (decW c e).cells = #[y0, y1, y2, y3] := ⟨_, _, _, _, rfl⟩
  obtain ⟨z0, z1, z2, z3, hz⟩ : ∃ y0 y1 y2 y3, (decW c2 e2).cells = #[y0, y1, y2, y3] := ⟨_, _, _, _, rfl⟩
  rw [hy, hz] at hw
  simp only [hy, hz] at hT
  clear hc he hc2 he2
  obtain ⟨p, q, v, hdv⟩ := decV_form (toldW o)
  rw [hdv]
  have HDV : Hid (decV (toldW o) = .tuple #[.agg #[.int .i64 p, .int .i64 q], .int .i64 v]) := hdv
  clear hdv
  unfold dv
  go_enter Tryz.func108, Tryz.ntmps108
  go_wp2_with fail
  obtain ⟨_, _, _, hK, _⟩ := four_rows w _ _ _ _ _ 23 23 23 23 (Below.refl _ ((((w.alloc (.cells #[.int .i64 c, .int .i64 e] 23)).alloc (.cells #[.int .i64 c2, .int .i64 e2] 23)).alloc (.cells #[.int .i64 0, .int .i64 0] 23)).alloc (.cells #[.int .i64 c, .int .i64 e, .int .i64 c2, .int .i64 e2] 23)))
  refine (hT _ _ hK).mono ?_
  rintro _ W ⟨h1, G, hG, rfl, hR⟩
  obtain ⟨_, _, hZ, _, hB⟩ := four_rows w W _ _ _ _ _ _ _ _ h1
  have hGn : w.heap.size + 2 ≠ G := by simp at hG; omega
  have hR : Row W G 85 #[y0, y1, y2, y3, z0, z1, z2, z3] := hR
  clear h1 hG hK hT
  go_wp2_with fail
  have hS0 : Below W.heap.size W W.drew := (Below.refl _ W).drew
  refine wp_region_M (fun wx : World => Below W.heap.size W wx) (fun j => decide (j < 10)) 15 rfl (by kernel_rfl) ?_
  refine wpM_held 0 (v := ?_) rfl (by kernel_rfl) (by kernel_rfl) rfl (fun _ _ _ h => h) rfl (by intro wx hx; go_simp <;> rfl) hS0 ?_
  refine wpM_held 1 (v := ?_) rfl (by kernel_rfl) (by kernel_rfl) rfl (fun _ _ _ h => h) rfl (by intro wx hx; go_simp <;> rfl) hS0 ?_
  refine wpM_held 2 (v := .pointer (some ⟨G, 0, none⟩)) rfl (by kernel_rfl) (by kernel_rfl) rfl (fun _ _ _ h => h) rfl (by intro wx hx; go_simp <;> rfl) hS0 ?_
  refine wpM_held 3 (v := .agg #[y0, y1, y2, y3]) rfl (by kernel_rfl) (by kernel_rfl) rfl (fun _ _ _ h => h) rfl (by intro wx hx; obtain ⟨g0, g1, g2, g3, g4, g5, g6, g7⟩ := (hR.below hx hR.lt).eight; go_simp <;> rfl) hS0 ?_
  refine wpM_held 4 (v := ?_) rfl (by kernel_rfl) (by kernel_rfl) rfl (fun _ _ _ h => h) rfl (by intro wx hx; go_simp <;> rfl) hS0 ?_
  refine wpM_held 5 (v := .pointer (some ⟨G, 4, none⟩)) rfl (by kernel_rfl) (by kernel_rfl) rfl (fun _ _ _ h => h) rfl (by intro wx hx; go_simp <;> rfl) hS0 ?_
  refine wpM_held 6 (v := .agg #[z0, z1, z2, z3]) rfl (by kernel_rfl) (by kernel_rfl) rfl (fun _ _ _ h => h) rfl (by intro wx hx; obtain ⟨g0, g1, g2, g3, g4, g5, g6, g7⟩ := (hR.below hx hR.lt).eight; go_simp <;> rfl) hS0 ?_
  refine wpM_one 7 rfl (by kernel_rfl) rfl ?_
  go_wp2_with fail
  refine (hw _).mono ?_
  rintro _ w1 ⟨⟨x, t, rfl, x1, x2, x3, x4⟩, h1⟩
  have hS1 := hS0.trans h1
  have hTD := told_any x t x1 x3 x2
  rw [show (if t = true then tellW x.neg x.n x.e else none) = toldW o by rw [x4]; cases t <;> rfl] at hTD
  rw [HDV.out] at hTD
  obtain ⟨d0, d1, d2, d3, hxv⟩ := val_agg x
  rw [hxv] at hTD ⊢
  clear h1 hw x1 x2 x3 x4 hxv
  go_wp2_with fail
  refine ⟨fun _ => hS1, ?_⟩
  refine wpM_held 8 (v := ?_) rfl (by kernel_rfl) (by kernel_rfl) rfl (fun _ _ _ h => h) rfl (by intro wx hx; go_simp <;> rfl) hS1 ?_
  refine wpM_held 9 (v := ?_) rfl (by kernel_rfl) (by kernel_rfl) rfl (fun _ _ _ h => h) rfl (by intro wx hx; go_simp <;> rfl) hS1 ?_
  refine wpM_one 10 rfl (by kernel_rfl) rfl ?_
  go_wp2_with fail
  refine (hTD _).mono ?_
  rintro _ w2 ⟨rfl, h2⟩
  have hS2 := hS1.trans (h2.mono hS1.size)
  have hZ2 := hZ.below hS2 hZ.lt
  have hB2 := hB.trans (hS2.mono hB.size)
  clear h2 hTD
  go_wp2_with fail
  refine ⟨(fun h => by simp at h), ?_⟩
  refine wpM_free 11 (v := ?_) rfl (by kernel_rfl) (by kernel_rfl) rfl (fun _ _ _ h => h) rfl (by intro wx; go_simp <;> rfl) ?_
  refine wpM_free 12 (v := ?_) rfl (by kernel_rfl) (by kernel_rfl) rfl (fun _ _ _ h => h) rfl (by intro wx; go_simp <;> rfl) ?_
  obtain ⟨g0, g1⟩ := hZ2.duo
  have z := hZ2.frozen
  refine wpM_one 13 rfl (by kernel_rfl) rfl ?_
  go_wp2_with fail
  refine ⟨(fun h => by simp at h), ?_⟩
  refine wpM_one 14 rfl (by kernel_rfl) rfl ?_
  go_wp2_with fail
  refine ⟨(fun h => by simp at h), ?_⟩
  refine wpM_done (by kernel_rfl) ?_
  go_wp2
  refine bodyPost_ret (v := .tuple #[.agg #[.int .i64 p, .int .i64 q], .int .i64 v]) (ret_two rfl (g := w.heap.size + 2) rfl rfl (load23 (Row.set2 hZ2 _ _) rfl)) rfl ⟨rfl, ?_⟩
  repeat (refine below_set ?_ _ _ (by omega))
  exact hB2
set_option maxRecDepth 100000 in
set_option maxHeartbeats 800000 in
theorem reckoned_ok43 (c e c2 e2 : Int) (o : Option Wd) (hc : I64 c) (he : within e) (hc2 : I64 c2) (he2 : within e2) 
    (hw : ∀ w, Calls Tryz.prog 110 #[(decW c e).val, (decW c2 e2).val] w fun r w' => WayR o r ∧ Below w.heap.size w w') (w : World) :
    Calls Tryz.prog 108 #[.func (.func 110) #[] #[], dv c e, dv c2 e2] w fun r w' => r = .returned (decV (toldW o)) ∧ Below w.heap.size w w' := by
  have hT := fun K w (hK : Row w K 23 #[.int .i64 c, .int .i64 e, .int .i64 c2, .int .i64 e2]) => taken2 c e c2 e2 K w hc he hc2 he2 hK
  simp only [Wd.val_eq] at *
  obtain ⟨y0, y1, y2, y3, hy⟩ : ∃ y0 y1 y2 y3, (decW c e).cells = #[y0, y1, y2, y3] := ⟨_, _, _, _, rfl⟩
  obtain ⟨z0, z1, z2, z3, hz⟩ : ∃ y0 y1 y2 y3, (decW c2 e2).cells = #[y0, y1, y2, y3] := ⟨_, _, _, _, rfl⟩
  rw [hy, hz] at hw
  simp only [hy, hz] at hT
  clear hc he hc2 he2
  obtain ⟨p, q, v, hdv⟩ := decV_form (toldW o)
  rw [hdv]
  have HDV : Hid (decV (toldW o) = .tuple #[.agg #[.int .i64 p, .int .i64 q], .int .i64 v]) := hdv
  clear hdv
  unfold dv
  go_enter Tryz.func108, Tryz.ntmps108
  go_wp2_with fail
  obtain ⟨_, _, _, hK, _⟩ := four_rows w _ _ _ _ _ 23 23 23 23 (Below.refl _ ((((w.alloc (.cells #[.int .i64 c, .int .i64 e] 23)).alloc (.cells #[.int .i64 c2, .int .i64 e2] 23)).alloc (.cells #[.int .i64 0, .int .i64 0] 23)).alloc (.cells #[.int .i64 c, .int .i64 e, .int .i64 c2, .int .i64 e2] 23)))
  refine (hT _ _ hK).mono ?_
  rintro _ W ⟨h1, G, hG, rfl, hR⟩
  obtain ⟨_, _, hZ, _, hB⟩ := four_rows w W _ _ _ _ _ _ _ _ h1
  have hGn : w.heap.size + 2 ≠ G := by simp at hG; omega
  have hR : Row W G 85 #[y0, y1, y2, y3, z0, z1, z2, z3] := hR
  clear h1 hG hK hT
  go_wp2_with fail
  have hS0 : Below W.heap.size W W.drew := (Below.refl _ W).drew
  refine wp_region_M (fun wx : World => Below W.heap.size W wx) (fun j => decide (j < 10)) 15 rfl (by kernel_rfl) ?_
  refine wpM_held 0 (v := ?_) rfl (by kernel_rfl) (by kernel_rfl) rfl (fun _ _ _ h => h) rfl (by intro wx hx; go_simp <;> rfl) hS0 ?_
  refine wpM_held 1 (v := ?_) rfl (by kernel_rfl) (by kernel_rfl) rfl (fun _ _ _ h => h) rfl (by intro wx hx; go_simp <;> rfl) hS0 ?_
  refine wpM_held 2 (v := .pointer (some ⟨G, 0, none⟩)) rfl (by kernel_rfl) (by kernel_rfl) rfl (fun _ _ _ h => h) rfl (by intro wx hx; go_simp <;> rfl) hS0 ?_
  refine wpM_held 3 (v := .agg #[y0, y1, y2, y3]) rfl (by kernel_rfl) (by kernel_rfl) rfl (fun _ _ _ h => h) rfl (by intro wx hx; obtain ⟨g0, g1, g2, g3, g4, g5, g6, g7⟩ := (hR.below hx hR.lt).eight; go_simp <;> rfl) hS0 ?_
  refine wpM_held 4 (v := ?_) rfl (by kernel_rfl) (by kernel_rfl) rfl (fun _ _ _ h => h) rfl (by intro wx hx; go_simp <;> rfl) hS0 ?_
  refine wpM_held 5 (v := .pointer (some ⟨G, 4, none⟩)) rfl (by kernel_rfl) (by kernel_rfl) rfl (fun _ _ _ h => h) rfl (by intro wx hx; go_simp <;> rfl) hS0 ?_
  refine wpM_held 6 (v := .agg #[z0, z1, z2, z3]) rfl (by kernel_rfl) (by kernel_rfl) rfl (fun _ _ _ h => h) rfl (by intro wx hx; obtain ⟨g0, g1, g2, g3, g4, g5, g6, g7⟩ := (hR.below hx hR.lt).eight; go_simp <;> rfl) hS0 ?_
  refine wpM_one 7 rfl (by kernel_rfl) rfl ?_
  go_wp2_with fail
  refine (hw _).mono ?_
  rintro _ w1 ⟨⟨x, t, rfl, x1, x2, x3, x4⟩, h1⟩
  have hS1 := hS0.trans h1
  have hTD := told_any x t x1 x3 x2
  rw [show (if t = true then tellW x.neg x.n x.e else none) = toldW o by rw [x4]; cases t <;> rfl] at hTD
  rw [HDV.out] at hTD
  obtain ⟨d0, d1, d2, d3, hxv⟩ := val_agg x
  rw [hxv] at hTD ⊢
  clear h1 hw x1 x2 x3 x4 hxv
  go_wp2_with fail
  refine ⟨fun _ => hS1, ?_⟩
  refine wpM_held 8 (v := ?_) rfl (by kernel_rfl) (by kernel_rfl) rfl (fun _ _ _ h => h) rfl (by intro wx hx; go_simp <;> rfl) hS1 ?_
  refine wpM_held 9 (v := ?_) rfl (by kernel_rfl) (by kernel_rfl) rfl (fun _ _ _ h => h) rfl (by intro wx hx; go_simp <;> rfl) hS1 ?_
  refine wpM_one 10 rfl (by kernel_rfl) rfl ?_
  go_wp2_with fail
  refine (hTD _).mono ?_
  rintro _ w2 ⟨rfl, h2⟩
  have hS2 := hS1.trans (h2.mono hS1.size)
  have hZ2 := hZ.below hS2 hZ.lt
  have hB2 := hB.trans (hS2.mono hB.size)
  clear h2 hTD
  go_wp2_with fail
  refine ⟨(fun h => by simp at h), ?_⟩
  refine wpM_free 11 (v := ?_) rfl (by kernel_rfl) (by kernel_rfl) rfl (fun _ _ _ h => h) rfl (by intro wx; go_simp <;> rfl) ?_
  refine wpM_free 12 (v := ?_) rfl (by kernel_rfl) (by kernel_rfl) rfl (fun _ _ _ h => h) rfl (by intro wx; go_simp <;> rfl) ?_
  obtain ⟨g0, g1⟩ := hZ2.duo
  have z := hZ2.frozen
  refine wpM_one 13 rfl (by kernel_rfl) rfl ?_
  go_wp2_with fail
  refine ⟨(fun h => by simp at h), ?_⟩
  refine wpM_one 14 rfl (by kernel_rfl) rfl ?_
  go_wp2_with fail
  refine ⟨(fun h => by simp at h), ?_⟩
  refine wpM_done (by kernel_rfl) ?_
  go_wp2
  refine bodyPost_ret (v := .tuple #[.agg #[.int .i64 p, .int .i64 q], .int .i64 v]) (ret_two rfl (g := w.heap.size + 2) rfl rfl (load23 (Row.set2 hZ2 _ _) rfl)) rfl ⟨rfl, ?_⟩
  repeat (refine below_set ?_ _ _ (by omega))
  exact hB2
end Go.Proofs.YtnhflnpjepiceaaGreatDoor
/- divisor, quotient. -/
namespace Go.Proofs.YtnhflnpjepiceaaGreatDoor
open Go.RowKit

set_option maxRecDepth 100000 in
set_option maxHeartbeats 400000 in
theorem divisor_any (a b : Nat) (ha : a < 18446744073709551616) (hb : b < 18446744073709551616) (w : World) : Calls Tryz.prog 151 #[.int .u64 a, .int .u64 b] w fun r w' => r = .returned (.int .u64 (Nat.gcd a b : Int)) ∧ w' = w := by
  go_enter Tryz.func151, Tryz.ntmps151
  go_wp2
  go_loop [0, 1] (fun x y => ∃ p q : Nat, x = .int .u64 p ∧ y = .int .u64 q ∧ p < 18446744073709551616 ∧ q < 18446744073709551616 ∧ Hid (Nat.gcd p q = Nat.gcd a b)) (fun x _ => (intOf x).toNat)
  case atStart => exact ⟨a, b, rfl, rfl, ha, hb, rfl⟩
  case round =>
    obtain ⟨p, q, rfl, rfl, hp, hq, hg⟩ := hrel
    by_cases h0 : p = 0
    · subst h0
      go_wp2
      go_ret
      exact ⟨by rw [← hg.out, Nat.gcd_zero_left]; rfl, rfl⟩
    · have h1 : ((p : Int) != 0) = true := by simp; omega
      have h2 : ((p : Int) == 0) = false := by simp; omega
      obtain ⟨m, hm⟩ : ∃ m, q % p = m := ⟨_, rfl⟩
      have hlt : m < p := by rw [← hm]; exact Nat.mod_lt _ (by omega)
      have f1 : IntKind.u64.wrap ((q : Int).tmod (p : Int)) = (m : Int) := by
        rw [u64_wrap, Int.tmod_eq_emod_of_nonneg (by omega), ← hm, ← Int.natCast_emod]
        omega
      have HM : Hid (q % p = m) := hm
      clear hm h0
      go_wp2
      try rw [f1]
      go_round
      case rel => exact ⟨m, p, by first | rfl | (rw [← HM.out]; simp), rfl, by omega, hp, by show _ = _; rw [← HM.out, ← Nat.gcd_rec]; exact hg.out⟩
      case measure =>
        have := HM.out
        first
        | (simp only [intOf, Int.toNat_natCast]; omega)
        | (rw [← Int.natCast_emod, this]; simp only [intOf, Int.toNat_natCast]; omega)
def quotL (by' n : Nat) (e : Int) : Option (Nat × Int) :=
  if by' ≤ 1 then some (n, e)
  else if by' % 10 = 0 then quotL (by' / 10) n (e - 1)
  else if by' % 2 = 0 then (if n * 5 < M128 then quotL (by' / 2) (n * 5) (e - 1) else none)
  else if by' % 5 = 0 then (if n * 2 < M128 then quotL (by' / 5) (n * 2) (e - 1) else none)
  else none
  termination_by by'
  decreasing_by all_goals omega
def quotW (a b : Wd) : Option Wd := (quotL (b.n / Nat.gcd a.n b.n) (a.n / Nat.gcd a.n b.n) (a.e - b.e)).map fun p => ⟨a.neg != b.neg, p.1, p.2⟩
end Go.Proofs.YtnhflnpjepiceaaGreatDoor
/- quotient. -/
namespace Go.Proofs.YtnhflnpjepiceaaGreatDoor
open Go.RowKit

def quR (neg : Bool) (by0 n0 : Nat) (e0 : Int) (QB B2 : Nat) (w0 : World) (v7 v9 : Value) (wr : World) : Prop :=
  (∃ (by' n k : Nat), v7 = .int .u64 (by' : Int) ∧ v9 = .bool true ∧ 1 ≤ by' ∧ by' * 2 ^ k ≤ by0 ∧ n < M128 ∧ Hid (quotL by' n (e0 - k) = quotL by0 n0 e0) ∧ Row wr QB 85 (Wd.cells ⟨neg, n, e0 - k⟩) ∧ Row wr B2 85 zeroCells ∧ Below w0.heap.size w0 wr) ∨
  (∃ by' : Nat, v7 = .int .u64 (by' : Int) ∧ v9 = .bool false ∧ quotL by0 n0 e0 = none ∧ Row wr QB 85 (Wd.cells ⟨false, 0, -1⟩) ∧ Row wr B2 85 zeroCells ∧ Below w0.heap.size w0 wr)
theorem pow_small {by' k by0 : Nat} (h1 : 1 ≤ by') (h : by' * 2 ^ k ≤ by0) (hb : by0 < 18446744073709551616) : k < 64 := by
  apply Nat.lt_of_not_le
  intro hk
  have h2 : 2 ^ 64 ≤ 2 ^ k := Nat.pow_le_pow_right (by omega) hk
  have h3 : 1 * 2 ^ k ≤ by' * 2 ^ k := Nat.mul_le_mul_right _ h1
  omega
theorem pow_step {by' k by0 d : Nat} (hd : 2 ≤ d) (h : by' * 2 ^ k ≤ by0) : by' / d * 2 ^ (k + 1) ≤ by0 := by
  have h1 : by' / d * 2 ≤ by' := Nat.le_trans (Nat.mul_le_mul_left _ hd) (Nat.div_mul_le_self _ _)
  have h2 : by' / d * 2 * 2 ^ k ≤ by' * 2 ^ k := Nat.mul_le_mul_right _ h1
  rw [Nat.pow_succ, Nat.mul_comm (2 ^ k) 2, ← Nat.mul_assoc]
  omega
set_option maxRecDepth 100000 in
set_option maxHeartbeats 1500000 in
theorem quot_raw (an bn : Bool) (ah al bh bl g b1 n1 : Nat) (ae be e1 : Int) (hd : ∀ w, Calls Tryz.prog 151 #[.int .u64 (al : Int), .int .u64 (bl : Int)] w fun r w' => r = .returned (.int .u64 (g : Int)) ∧ w' = w)
    (hg : g ≠ 0) (f1 : IntKind.u64.wrap ((bl : Int) / (g : Int)) = (b1 : Int)) (f2 : IntKind.u64.wrap ((al : Int) / (g : Int)) = (n1 : Int)) (f3 : IntKind.i64.wrap (ae - be) = e1) (hb1 : 1 ≤ b1) (hb2 : b1 < 18446744073709551616) (hn1 : n1 < 18446744073709551616)
    (he1 : -100000 ≤ e1 ∧ e1 ≤ 100000) (w : World) :
    Calls Tryz.prog 112 #[wv an ah al ae, wv bn bh bl be] w fun r w' => WayR ((quotL b1 n1 e1).map fun p => ⟨an != bn, p.1, p.2⟩) r ∧ Below w.heap.size w w' := by
  have hg0 : ((g : Int) == 0) = false := by simp; omega
  have hg1 : ¬ (g : Int) = 0 := by omega
  have hg2 : ¬ g = 0 := hg
  have F1 : Hid (IntKind.u64.wrap ((bl : Int) / (g : Int)) = (b1 : Int)) := f1
  have F2 : Hid (IntKind.u64.wrap ((al : Int) / (g : Int)) = (n1 : Int)) := f2
  have F3 : Hid (IntKind.i64.wrap (ae - be) = e1) := f3
  clear f1 f2 f3 hg
  unfold wv
  go_enter Tryz.func112, Tryz.ntmps112
  go_wp2_with fail
  refine (hd _).mono ?_
  rintro _ w1 ⟨rfl, hw1⟩
  rw [hw1]
  clear hw1 w1 hd
  obtain ⟨hA, hC, hZ, hB⟩ := three_rows w _ _ _ _ 85 85 85 (Below.refl _ (((w.alloc (.cells #[.bool an, .int .u64 (ah : Int), .int .u64 (al : Int), .int .i64 ae] 85)).alloc (.cells #[.bool bn, .int .u64 (bh : Int), .int .u64 (bl : Int), .int .i64 be] 85)).alloc (.cells #[.bool false, .int .u64 0, .int .u64 0, .int .i64 0] 85)))
  generalize (((w.alloc (.cells #[.bool an, .int .u64 (ah : Int), .int .u64 (al : Int), .int .i64 ae] 85)).alloc (.cells #[.bool bn, .int .u64 (bh : Int), .int .u64 (bl : Int), .int .i64 be] 85)).alloc (.cells #[.bool false, .int .u64 0, .int .u64 0, .int .i64 0] 85)) = W at *
  obtain ⟨a0, a1, a2, a3⟩ := hA.four
  obtain ⟨c0, c1, c2, c3⟩ := hC.four
  go_wp2_with fail
  rw [F1.out]
  have hS0 : Below W.heap.size W W.drew := (Below.refl _ W).drew
  refine wp_region_M (fun wx : World => Below W.heap.size W wx) (fun j => decide (j < 16)) 18 rfl (by kernel_rfl) ?_
  refine wpM_held 0 (v := ?_) rfl (by kernel_rfl) (by kernel_rfl) rfl (fun _ _ _ h => h) rfl (by intro wx hx; go_simp <;> rfl) hS0 ?_
  refine wpM_held 1 (v := .bool an) rfl (by kernel_rfl) (by kernel_rfl) rfl (fun _ _ _ h => h) rfl (by intro wx hx; obtain ⟨x0, x1, x2, x3⟩ := (hA.below hx hA.lt).four; go_simp <;> rfl) hS0 ?_
  refine wpM_held 2 (v := ?_) rfl (by kernel_rfl) (by kernel_rfl) rfl (fun _ _ _ h => h) rfl (by intro wx hx; go_simp <;> rfl) hS0 ?_
  refine wpM_held 3 (v := .bool bn) rfl (by kernel_rfl) (by kernel_rfl) rfl (fun _ _ _ h => h) rfl (by intro wx hx; obtain ⟨x0, x1, x2, x3⟩ := (hC.below hx hC.lt).four; go_simp <;> rfl) hS0 ?_
  refine wpM_held 4 (v := .bool (an != bn)) rfl (by kernel_rfl) (by kernel_rfl) rfl (fun _ _ _ h => h) rfl (by intro wx hx; go_simp <;> (cases an <;> cases bn <;> rfl)) hS0 ?_
  refine wpM_held 5 (v := ?_) rfl (by kernel_rfl) (by kernel_rfl) rfl (fun _ _ _ h => h) rfl (by intro wx hx; go_simp <;> rfl) hS0 ?_
  refine wpM_held 6 (v := .int .u64 (al : Int)) rfl (by kernel_rfl) (by kernel_rfl) rfl (fun _ _ _ h => h) rfl (by intro wx hx; obtain ⟨x0, x1, x2, x3⟩ := (hA.below hx hA.lt).four; go_simp <;> rfl) hS0 ?_
  refine wpM_held 7 (v := ?_) rfl (by kernel_rfl) (by kernel_rfl) rfl (fun _ _ _ h => h) rfl (by intro wx hx; go_simp <;> rfl) hS0 ?_
  refine wpM_held 8 (v := .int .u64 (n1 : Int)) rfl (by kernel_rfl) (by kernel_rfl) rfl (fun _ _ _ h => h) rfl (by intro wx hx; go_simp <;> exact F2.out) hS0 ?_
  refine wpM_held 9 (v := ?_) rfl (by kernel_rfl) (by kernel_rfl) rfl (fun _ _ _ h => h) rfl (by intro wx hx; go_simp <;> rfl) hS0 ?_
  refine wpM_held 10 (v := .int .i64 ae) rfl (by kernel_rfl) (by kernel_rfl) rfl (fun _ _ _ h => h) rfl (by intro wx hx; obtain ⟨x0, x1, x2, x3⟩ := (hA.below hx hA.lt).four; go_simp <;> rfl) hS0 ?_
  refine wpM_held 11 (v := ?_) rfl (by kernel_rfl) (by kernel_rfl) rfl (fun _ _ _ h => h) rfl (by intro wx hx; go_simp <;> rfl) hS0 ?_
  refine wpM_held 12 (v := .int .i64 be) rfl (by kernel_rfl) (by kernel_rfl) rfl (fun _ _ _ h => h) rfl (by intro wx hx; obtain ⟨x0, x1, x2, x3⟩ := (hC.below hx hC.lt).four; go_simp <;> rfl) hS0 ?_
  refine wpM_held 13 (v := .int .i64 e1) rfl (by kernel_rfl) (by kernel_rfl) rfl (fun _ _ _ h => h) rfl (by intro wx hx; go_simp <;> exact F3.out) hS0 ?_
  refine wpM_held 14 (v := ?_) rfl (by kernel_rfl) (by kernel_rfl) rfl (fun _ _ _ h => h) rfl (by intro wx hx; go_simp <;> rfl) hS0 ?_
  refine wpM_one 15 rfl (by kernel_rfl) rfl ?_
  go_wp2_with fail
  refine ⟨fun _ => by first | exact ((Below.refl _ W).drew).alloc (Nat.le_refl _) _ | exact ((Below.refl _ W).alloc (Nat.le_refl _) _).drew, ?_⟩
  refine wpM_one 16 rfl (by kernel_rfl) rfl ?_
  go_wp2_with fail
  refine ⟨(fun h => by simp at h), ?_⟩
  refine wpM_one 17 rfl (by kernel_rfl) rfl ?_
  go_wp2_with fail
  refine ⟨(fun h => by simp at h), ?_⟩
  refine wpM_done (by kernel_rfl) ?_
  go_wp2_with fail
  have hQ0 : Row (W.alloc (.cells #[.bool (an != bn), .int .u64 0, .int .u64 (n1 : Int), .int .i64 e1] 85)).drew W.heap.size 85 #[.bool (an != bn), .int .u64 0, .int .u64 (n1 : Int), .int .i64 e1] := Row.new W 85 _
  have hZ0 : Row (W.alloc (.cells #[.bool (an != bn), .int .u64 0, .int .u64 (n1 : Int), .int .i64 e1] 85)).drew (w.heap.size + 2) 85 zeroCells := hZ.alloc _
  have hB0 : Below w.heap.size w (W.alloc (.cells #[.bool (an != bn), .int .u64 0, .int .u64 (n1 : Int), .int .i64 e1] 85)).drew := (hB.alloc hB.size _).drew
  have hne : w.heap.size + 2 ≠ W.heap.size := Nat.ne_of_lt hZ.lt
  have hle : w.heap.size ≤ W.heap.size := hB.size
  clear a0 a1 a2 a3 c0 c1 c2 c3 hA hC hZ hB hS0 F1 F2 F3 hg0 hg1 hg2
  go_loopw [7, 9] (quR (an != bn) b1 n1 e1 W.heap.size (w.heap.size + 2) w) (fun v7 v9 _ => boolN v9 * (intOf v7).toNat)
  case atStart =>
    refine Or.inl ⟨b1, n1, 0, rfl, rfl, hb1, by simp, by unfold M128; omega, ?_, ?_, hZ0, hB0⟩
    · show _ = _; rw [show e1 - ((0 : Nat) : Int) = e1 by omega]
    · unfold Wd.cells
      simp only
      rw [show n1 / 18446744073709551616 = 0 by omega, show n1 % 18446744073709551616 = n1 by omega, show e1 - ((0 : Nat) : Int) = e1 by omega]
      exact hQ0
  case round =>
    clear hQ0 hZ0 hB0
    rcases hrel with ⟨by', n, k, rfl, rfl, hby1, hpw, hM, HQL, hQ, hZ, hB⟩ | ⟨by', rfl, rfl, hnone, hQ, hZ, hB⟩
    · have hk64 := pow_small hby1 hpw hb2
      have hby64 : by' < 18446744073709551616 := Nat.lt_of_le_of_lt (Nat.le_trans (Nat.le_mul_of_pos_right _ (Nat.pos_of_ne_zero (by simp [Nat.pow_eq_zero]))) hpw) hb2
      have HPW : Hid (by' * 2 ^ k ≤ b1) := hpw
      obtain ⟨e0, he0⟩ : ∃ e0, e1 - (k : Int) = e0 := ⟨_, rfl⟩
      have HE0 : Hid (e1 - (k : Int) = e0) := he0
      have be0 : -100100 ≤ e0 ∧ e0 ≤ 100100 := by omega
      unfold Wd.cells at hQ
      simp only at hQ
      obtain ⟨nh, hnh⟩ : ∃ q, n / 18446744073709551616 = q := ⟨_, rfl⟩
      obtain ⟨nl, hnl⟩ : ∃ q, n % 18446744073709551616 = q := ⟨_, rfl⟩
      rw [hnh, hnl, he0] at hQ
      obtain ⟨a0, a1, a2, a3⟩ := hQ.four
      obtain ⟨d0, d1, d2, d3⟩ := hZ.four
      have z0 := hQ.frozen; have z1 := hZ.frozen
      clear hpw he0 hk64
      by_cases hgt : 1 < by'
      · have t0 : (1 : Int) < (by' : Int) := by omega
        by_cases h10 : by' % 10 = 0
        · have HOK : Hid (1 < by' ∧ by' % 10 = 0 ∧ by' < 18446744073709551616) := ⟨hgt, h10, hby64⟩
          have t1 : ((by' : Int) % 10 == 0) = true := by simp; omega
          clear h10 hgt
          obtain ⟨by2, hby2⟩ : ∃ q, by' / 10 = q := ⟨_, rfl⟩
          have HBY : Hid (by' / 10 = by2) := hby2
          have HCA : Hid ((by' : Int) / 10 = (by2 : Int)) := by show _ = _; omega
          have HMM : Hid (n < M128) := hM
          clear hby2 hM
          go_wp2
          have hfin : Row (wr.setCell ⟨W.heap.size, 3, none⟩ (.int .i64 (e0 - 1))) W.heap.size 85 (Wd.cells ⟨an != bn, n, e1 - ((k + 1 : Nat) : Int)⟩) := by
            unfold Wd.cells
            simp only
            rw [hnh, hnl, show e1 - ((k + 1 : Nat) : Int) = e0 - 1 by have := HE0.out; omega]
            exact hQ.set 3 _
          refine ⟨Or.inl ⟨by2, n, k + 1, by rw [← HCA.out], rfl, ?_, ?_, HMM.out, ?_, hfin, ?_, ?_⟩, ?_⟩
          · have := HBY.out; have := HOK.out; omega
          · rw [← HBY.out]; exact pow_step (by omega) HPW.out
          · show _ = _
            rw [← HQL.out]
            have h2 := HOK.out
            rw [quotL.eq_def by', if_neg (by omega), if_pos (by omega), HBY.out, show e1 - ((k + 1 : Nat) : Int) = e1 - (k : Int) - 1 by omega]
          · exact hZ.off (B' := W.heap.size) _ _ hne
          · exact below_set hB _ _ hle
          · have := HBY.out
            have := HOK.out
            rw [HCA.out]
            simp only [boolN, intOf, Int.toNat_natCast]
            omega
        · by_cases h2 : by' % 2 = 0
          · have HOK : Hid (1 < by' ∧ ¬ by' % 10 = 0 ∧ by' % 2 = 0 ∧ by' < 18446744073709551616) := ⟨hgt, h10, h2, hby64⟩
            have t1 : ((by' : Int) % 10 == 0) = false := by simp; omega
            have t2 : ((by' : Int) % 2 == 0) = true := by simp; omega
            clear h10 h2 hgt
            have hTm := times_W ⟨an != bn, n, e0⟩ 5 hM (by omega)
            simp only [Wd.val_eq] at hTm
            unfold Wd.cells at hTm
            simp only at hTm
            rw [hnh, hnl] at hTm
            obtain ⟨by2, hby2⟩ : ∃ q, by' / 2 = q := ⟨_, rfl⟩
            have HBY : Hid (by' / 2 = by2) := hby2
            have hcast : (by' : Int) / 2 = (by2 : Int) := by omega
            have HCA : Hid ((by' : Int) / 2 = (by2 : Int)) := hcast
            clear hby2 hcast
            by_cases hfit : n * 5 < M128
            · simp only [if_pos hfit] at hTm
              unfold pairV at hTm
              simp only [Wd.val_eq] at hTm
              unfold Wd.cells at hTm
              simp only at hTm
              obtain ⟨H, hH⟩ : ∃ H, n * 5 / 18446744073709551616 = H := ⟨_, rfl⟩
              obtain ⟨L, hL⟩ : ∃ L, n * 5 % 18446744073709551616 = L := ⟨_, rfl⟩
              simp only [hH, hL] at hTm
              have hH' : Hid (n * 5 / 18446744073709551616 = H) := hH
              have hL' : Hid (n * 5 % 18446744073709551616 = L) := hL
              have HFT : Hid (n * 5 < M128) := hfit
              clear hH hL hfit hM hnh hnl
              go_wp2_with fail
              refine (hTm _).mono ?_
              rintro _ w2 ⟨rfl, hB3⟩
              have hQ2 := hQ.below hB3 hQ.lt
              have hZ2 := hZ.below hB3 hZ.lt
              have hB2 := hB.trans (hB3.mono hB.size)
              clear a0 a1 a2 a3 d0 d1 d2 d3 z0 z1 hTm hB3
              obtain ⟨g0, g1, g2, g3⟩ := hQ2.four
              have z2 := hQ2.frozen
              go_wp2
              have hfin : Row (((((w2.setCell ⟨W.heap.size, 0, none⟩ (.bool (an != bn))).setCell ⟨W.heap.size, 1, none⟩ (.int .u64 (H : Int))).setCell ⟨W.heap.size, 2, none⟩ (.int .u64 (L : Int))).setCell ⟨W.heap.size, 3, none⟩ (.int .i64 e0)).setCell ⟨W.heap.size, 3, none⟩ (.int .i64 (e0 - 1))) W.heap.size 85 (Wd.cells ⟨an != bn, n * 5, e1 - ((k + 1 : Nat) : Int)⟩) := by
                unfold Wd.cells
                simp only
                rw [hH'.out, hL'.out, show e1 - ((k + 1 : Nat) : Int) = e0 - 1 by have := HE0.out; omega]
                exact (hQ2.set4 _ _ _ _).set 3 _
              refine ⟨Or.inl ⟨by2, n * 5, k + 1, by rw [← HCA.out], rfl, ?_, ?_, HFT.out, ?_, hfin, ?_, ?_⟩, ?_⟩
              · have := HBY.out; have := HOK.out; omega
              · rw [← HBY.out]; exact pow_step (by omega) HPW.out
              · show _ = _
                rw [← HQL.out]
                have h2 := HOK.out
                rw [quotL.eq_def by']
                rw [if_neg (by omega), if_neg (by omega), if_pos (by omega), if_pos HFT.out, HBY.out, show e1 - ((k + 1 : Nat) : Int) = e1 - (k : Int) - 1 by omega]
              · exact ((((hZ2.off (B' := W.heap.size) _ _ hne).off (B' := W.heap.size) _ _ hne).off (B' := W.heap.size) _ _ hne).off (B' := W.heap.size) _ _ hne).off (B' := W.heap.size) _ _ hne
              · repeat (refine below_set ?_ _ _ hle)
                exact hB2
              · have := HBY.out
                have := HOK.out
                rw [HCA.out]
                simp only [boolN, intOf, Int.toNat_natCast]
                omega
            · simp only [if_neg hfit] at hTm
              unfold pairV at hTm
              simp only [wv] at hTm
              have HFT : Hid (¬ n * 5 < M128) := hfit
              clear hfit hM hnh hnl
              go_wp2_with fail
              refine (hTm _).mono ?_
              rintro _ w2 ⟨rfl, hB3⟩
              have hQ2 := hQ.below hB3 hQ.lt
              have hZ2 := hZ.below hB3 hZ.lt
              have hB2 := hB.trans (hB3.mono hB.size)
              clear a0 a1 a2 a3 d0 d1 d2 d3 z0 z1 hTm hB3
              obtain ⟨g0, g1, g2, g3⟩ := hQ2.four
              have z2 := hQ2.frozen
              go_wp2
              have hfin : Row (((((w2.setCell ⟨W.heap.size, 0, none⟩ (.bool false)).setCell ⟨W.heap.size, 1, none⟩ (.int .u64 0)).setCell ⟨W.heap.size, 2, none⟩ (.int .u64 0)).setCell ⟨W.heap.size, 3, none⟩ (.int .i64 0)).setCell ⟨W.heap.size, 3, none⟩ (.int .i64 (-1))) W.heap.size 85 (Wd.cells ⟨false, 0, -1⟩) := (hQ2.set4 _ _ _ _).set 3 _
              refine ⟨Or.inr ⟨by2, by rw [← HCA.out], rfl, ?_, hfin, ?_, ?_⟩, ?_⟩
              · rw [← HQL.out]
                have h2 := HOK.out
                rw [quotL.eq_def by']
                rw [if_neg (by omega), if_neg (by omega), if_pos (by omega), if_neg HFT.out]
              · exact ((((hZ2.off (B' := W.heap.size) _ _ hne).off (B' := W.heap.size) _ _ hne).off (B' := W.heap.size) _ _ hne).off (B' := W.heap.size) _ _ hne).off (B' := W.heap.size) _ _ hne
              · repeat (refine below_set ?_ _ _ hle)
                exact hB2
              · have := HOK.out
                simp only [boolN, intOf, Int.toNat_natCast]
                omega
          · by_cases h5 : by' % 5 = 0
            · have HOK : Hid (1 < by' ∧ ¬ by' % 10 = 0 ∧ ¬ by' % 2 = 0 ∧ by' % 5 = 0 ∧ by' < 18446744073709551616) := ⟨hgt, h10, h2, h5, hby64⟩
              have t1 : ((by' : Int) % 10 == 0) = false := by simp; omega
              have t2 : ((by' : Int) % 2 == 0) = false := by simp; omega
              have t3 : ((by' : Int) % 5 == 0) = true := by simp; omega
              clear h10 h2 h5 hgt
              have hTm := times_W ⟨an != bn, n, e0⟩ 2 hM (by omega)
              simp only [Wd.val_eq] at hTm
              unfold Wd.cells at hTm
              simp only at hTm
              rw [hnh, hnl] at hTm
              obtain ⟨by2, hby2⟩ : ∃ q, by' / 5 = q := ⟨_, rfl⟩
              have HBY : Hid (by' / 5 = by2) := hby2
              have hcast : (by' : Int) / 5 = (by2 : Int) := by omega
              have HCA : Hid ((by' : Int) / 5 = (by2 : Int)) := hcast
              clear hby2 hcast
              by_cases hfit : n * 2 < M128
              · simp only [if_pos hfit] at hTm
                unfold pairV at hTm
                simp only [Wd.val_eq] at hTm
                unfold Wd.cells at hTm
                simp only at hTm
                obtain ⟨H, hH⟩ : ∃ H, n * 2 / 18446744073709551616 = H := ⟨_, rfl⟩
                obtain ⟨L, hL⟩ : ∃ L, n * 2 % 18446744073709551616 = L := ⟨_, rfl⟩
                simp only [hH, hL] at hTm
                have hH' : Hid (n * 2 / 18446744073709551616 = H) := hH
                have hL' : Hid (n * 2 % 18446744073709551616 = L) := hL
                have HFT : Hid (n * 2 < M128) := hfit
                clear hH hL hfit hM hnh hnl
                go_wp2_with fail
                refine (hTm _).mono ?_
                rintro _ w2 ⟨rfl, hB3⟩
                have hQ2 := hQ.below hB3 hQ.lt
                have hZ2 := hZ.below hB3 hZ.lt
                have hB2 := hB.trans (hB3.mono hB.size)
                clear a0 a1 a2 a3 d0 d1 d2 d3 z0 z1 hTm hB3
                obtain ⟨g0, g1, g2, g3⟩ := hQ2.four
                have z2 := hQ2.frozen
                go_wp2
                have hfin : Row (((((w2.setCell ⟨W.heap.size, 0, none⟩ (.bool (an != bn))).setCell ⟨W.heap.size, 1, none⟩ (.int .u64 (H : Int))).setCell ⟨W.heap.size, 2, none⟩ (.int .u64 (L : Int))).setCell ⟨W.heap.size, 3, none⟩ (.int .i64 e0)).setCell ⟨W.heap.size, 3, none⟩ (.int .i64 (e0 - 1))) W.heap.size 85 (Wd.cells ⟨an != bn, n * 2, e1 - ((k + 1 : Nat) : Int)⟩) := by
                  unfold Wd.cells
                  simp only
                  rw [hH'.out, hL'.out, show e1 - ((k + 1 : Nat) : Int) = e0 - 1 by have := HE0.out; omega]
                  exact (hQ2.set4 _ _ _ _).set 3 _
                refine ⟨Or.inl ⟨by2, n * 2, k + 1, by rw [← HCA.out], rfl, ?_, ?_, HFT.out, ?_, hfin, ?_, ?_⟩, ?_⟩
                · have := HBY.out; have := HOK.out; omega
                · rw [← HBY.out]; exact pow_step (by omega) HPW.out
                · show _ = _
                  rw [← HQL.out]
                  have h2 := HOK.out
                  rw [quotL.eq_def by']
                  rw [if_neg (by omega), if_neg (by omega), if_neg (by omega), if_pos (by omega), if_pos HFT.out, HBY.out, show e1 - ((k + 1 : Nat) : Int) = e1 - (k : Int) - 1 by omega]
                · exact ((((hZ2.off (B' := W.heap.size) _ _ hne).off (B' := W.heap.size) _ _ hne).off (B' := W.heap.size) _ _ hne).off (B' := W.heap.size) _ _ hne).off (B' := W.heap.size) _ _ hne
                · repeat (refine below_set ?_ _ _ hle)
                  exact hB2
                · have := HBY.out
                  have := HOK.out
                  rw [HCA.out]
                  simp only [boolN, intOf, Int.toNat_natCast]
                  omega
              · simp only [if_neg hfit] at hTm
                unfold pairV at hTm
                simp only [wv] at hTm
                have HFT : Hid (¬ n * 2 < M128) := hfit
                clear hfit hM hnh hnl
                go_wp2_with fail
                refine (hTm _).mono ?_
                rintro _ w2 ⟨rfl, hB3⟩
                have hQ2 := hQ.below hB3 hQ.lt
                have hZ2 := hZ.below hB3 hZ.lt
                have hB2 := hB.trans (hB3.mono hB.size)
                clear a0 a1 a2 a3 d0 d1 d2 d3 z0 z1 hTm hB3
                obtain ⟨g0, g1, g2, g3⟩ := hQ2.four
                have z2 := hQ2.frozen
                go_wp2
                have hfin : Row (((((w2.setCell ⟨W.heap.size, 0, none⟩ (.bool false)).setCell ⟨W.heap.size, 1, none⟩ (.int .u64 0)).setCell ⟨W.heap.size, 2, none⟩ (.int .u64 0)).setCell ⟨W.heap.size, 3, none⟩ (.int .i64 0)).setCell ⟨W.heap.size, 3, none⟩ (.int .i64 (-1))) W.heap.size 85 (Wd.cells ⟨false, 0, -1⟩) := (hQ2.set4 _ _ _ _).set 3 _
                refine ⟨Or.inr ⟨by2, by rw [← HCA.out], rfl, ?_, hfin, ?_, ?_⟩, ?_⟩
                · rw [← HQL.out]
                  have h2 := HOK.out
                  rw [quotL.eq_def by']
                  rw [if_neg (by omega), if_neg (by omega), if_neg (by omega), if_pos (by omega), if_neg HFT.out]
                · exact ((((hZ2.off (B' := W.heap.size) _ _ hne).off (B' := W.heap.size) _ _ hne).off (B' := W.heap.size) _ _ hne).off (B' := W.heap.size) _ _ hne).off (B' := W.heap.size) _ _ hne
                · repeat (refine below_set ?_ _ _ hle)
                  exact hB2
                · have := HOK.out
                  simp only [boolN, intOf, Int.toNat_natCast]
                  omega
            · have HOK : Hid (1 < by' ∧ ¬ by' % 10 = 0 ∧ ¬ by' % 2 = 0 ∧ ¬ by' % 5 = 0) := ⟨hgt, h10, h2, h5⟩
              have t1 : ((by' : Int) % 10 == 0) = false := by simp; omega
              have t2 : ((by' : Int) % 2 == 0) = false := by simp; omega
              have t3 : ((by' : Int) % 5 == 0) = false := by simp; omega
              clear h10 h2 h5 hgt
              clear hM hnh hnl
              go_wp2
              refine bodyPost_ret (ret_two rfl (g := w.heap.size + 2) rfl rfl (load57 (Row.set4 hZ _ _ _ _) rfl)) rfl ⟨?_, ?_⟩
              · have : quotL b1 n1 e1 = none := by
                  rw [← HQL.out]
                  have h2 := HOK.out
                  rw [quotL.eq_def by', if_neg (by omega), if_neg (by omega), if_neg (by omega), if_neg (by omega)]
                rw [this]
                exact ⟨⟨false, 0, 0⟩, false, rfl, by decide, by decide, by decide, rfl⟩
              · exact below_set4 hB (by omega) _ _ _ _
      · have t0 : ¬ (1 : Int) < (by' : Int) := by omega
        have HOK : Hid (by' ≤ 1) := by show _ ≤ _; omega
        have HMM : Hid (n < M128) := hM
        clear hgt
        clear hM
        go_wp2
        refine bodyPost_ret (ret_two rfl (g := w.heap.size + 2) rfl rfl (load57 (Row.set4 hZ _ _ _ _) rfl)) rfl ⟨?_, ?_⟩
        · have : quotL b1 n1 e1 = some (n, e1 - (k : Int)) := by
            rw [← HQL.out, quotL.eq_def by', if_pos HOK.out]
          rw [this]
          refine ⟨⟨an != bn, n, e1 - (k : Int)⟩, true, ?_, HMM.out, ?_, ?_, rfl⟩
          · rw [Wd.val_eq]; unfold Wd.cells; simp only; rw [hnh, hnl, HE0.out]; rfl
          · have := HE0.out; simp only; omega
          · have := HE0.out; simp only; omega
        · exact below_set4 hB (by omega) _ _ _ _
    · obtain ⟨a0, a1, a2, a3⟩ := hQ.four
      obtain ⟨d0, d1, d2, d3⟩ := hZ.four
      have z0 := hQ.frozen; have z1 := hZ.frozen
      have HNN : Hid (quotL b1 n1 e1 = none) := hnone
      clear hnone
      by_cases hgt : (1 : Int) < (by' : Int)
      · go_wp2
        refine bodyPost_ret (ret_two rfl (g := w.heap.size + 2) rfl rfl (load57 (Row.set4 hZ _ _ _ _) rfl)) rfl ⟨?_, ?_⟩
        · rw [HNN.out]
          exact ⟨⟨false, 0, -1⟩, false, rfl, by decide, by decide, by decide, rfl⟩
        · exact below_set4 hB (by omega) _ _ _ _
      · go_wp2
        refine bodyPost_ret (ret_two rfl (g := w.heap.size + 2) rfl rfl (load57 (Row.set4 hZ _ _ _ _) rfl)) rfl ⟨?_, ?_⟩
        · rw [HNN.out]
          exact ⟨⟨false, 0, -1⟩, false, rfl, by decide, by decide, by decide, rfl⟩
        · exact below_set4 hB (by omega) _ _ _ _
end Go.Proofs.YtnhflnpjepiceaaGreatDoor
/- divided: what a way that divides makes of two Decs. -/
namespace Go.Proofs.YtnhflnpjepiceaaGreatDoor
open Go.RowKit

set_option maxRecDepth 100000 in
set_option maxHeartbeats 800000 in
theorem divided_bad1 (f : FuncId) (c e c2 e2 : Int) (he : ¬ within e) (w : World) :
    Calls Tryz.prog 111 #[.func (.func f) #[] #[], dv c e, dv c2 e2] w fun r w' => r = .returned (.tuple #[dv 0 0, .int .i64 1]) ∧ Below w.heap.size w w' := by
  unfold dv
  go_enter Tryz.func111, Tryz.ntmps111
  go_wp2_with fail
  obtain ⟨_, _, _, hK, _⟩ := four_rows w _ _ _ _ _ 23 23 23 23 (Below.refl _ ((((w.alloc (.cells #[.int .i64 c, .int .i64 e] 23)).alloc (.cells #[.int .i64 c2, .int .i64 e2] 23)).alloc (.cells #[.int .i64 0, .int .i64 0] 23)).alloc (.cells #[.int .i64 c, .int .i64 e, .int .i64 c2, .int .i64 e2] 23)))
  refine (taken2_bad1 c e c2 e2 _ _ he hK).mono ?_
  rintro _ w1 ⟨h1, rfl⟩
  obtain ⟨_, _, hZ, _, hB⟩ := four_rows w w1 _ _ _ _ _ _ _ _ h1
  obtain ⟨d0, d1⟩ := hZ.duo
  have z := hZ.frozen
  clear h1
  go_wp2
  refine bodyPost_ret (ret_two rfl (g := w.heap.size + 2) rfl rfl (load23 (Row.set2 hZ _ _) rfl)) rfl ⟨rfl, ?_⟩
  repeat (refine below_set ?_ _ _ (by omega))
  exact hB
set_option maxRecDepth 100000 in
set_option maxHeartbeats 800000 in
theorem divided_bad2 (f : FuncId) (c e c2 e2 : Int) (hc : I64 c) (he : within e) (he2 : ¬ within e2) (w : World) :
    Calls Tryz.prog 111 #[.func (.func f) #[] #[], dv c e, dv c2 e2] w fun r w' => r = .returned (.tuple #[dv 0 0, .int .i64 1]) ∧ Below w.heap.size w w' := by
  unfold dv
  go_enter Tryz.func111, Tryz.ntmps111
  go_wp2_with fail
  obtain ⟨_, _, _, hK, _⟩ := four_rows w _ _ _ _ _ 23 23 23 23 (Below.refl _ ((((w.alloc (.cells #[.int .i64 c, .int .i64 e] 23)).alloc (.cells #[.int .i64 c2, .int .i64 e2] 23)).alloc (.cells #[.int .i64 0, .int .i64 0] 23)).alloc (.cells #[.int .i64 c, .int .i64 e, .int .i64 c2, .int .i64 e2] 23)))
  refine (taken2_bad2 c e c2 e2 _ _ hc he he2 hK).mono ?_
  rintro _ w1 ⟨h1, rfl⟩
  obtain ⟨_, _, hZ, _, hB⟩ := four_rows w w1 _ _ _ _ _ _ _ _ h1
  obtain ⟨d0, d1⟩ := hZ.duo
  have z := hZ.frozen
  clear h1
  go_wp2
  refine bodyPost_ret (ret_two rfl (g := w.heap.size + 2) rfl rfl (load23 (Row.set2 hZ _ _) rfl)) rfl ⟨rfl, ?_⟩
  repeat (refine below_set ?_ _ _ (by omega))
  exact hB
set_option maxRecDepth 100000 in
set_option maxHeartbeats 800000 in
theorem divided_ok47 (c e c2 e2 : Int) (o : Option Wd) (hc : I64 c) (he : within e) (hc2 : I64 c2) (he2 : within e2) (hnz : (decW c2 e2).n ≠ 0)
    (hw : ∀ w, Calls Tryz.prog 112 #[(decW c e).val, (decW c2 e2).val] w fun r w' => WayR o r ∧ Below w.heap.size w w') (w : World) :
    Calls Tryz.prog 111 #[.func (.func 112) #[] #[], dv c e, dv c2 e2] w fun r w' => r = .returned (decV (toldW o)) ∧ Below w.heap.size w w' := by
  have hT := fun K w (hK : Row w K 23 #[.int .i64 c, .int .i64 e, .int .i64 c2, .int .i64 e2]) => taken2 c e c2 e2 K w hc he hc2 he2 hK
  simp only [Wd.val_eq] at *
  obtain ⟨y0, y1, y2, y3, hy⟩ : ∃ y0 y1 y2 y3, (decW c e).cells = #[y0, y1, y2, y3] := ⟨_, _, _, _, rfl⟩
  obtain ⟨z0, z1, z2, z3, hz⟩ : ∃ y0 y1 y2 y3, (decW c2 e2).cells = #[y0, y1, y2, y3] := ⟨_, _, _, _, rfl⟩
  rw [hy, hz] at hw
  simp only [hy, hz] at hT
  clear hc he hc2 he2
  obtain ⟨p, q, v, hdv⟩ := decV_form (toldW o)
  rw [hdv]
  have HDV : Hid (decV (toldW o) = .tuple #[.agg #[.int .i64 p, .int .i64 q], .int .i64 v]) := hdv
  clear hdv
  unfold dv
  go_enter Tryz.func111, Tryz.ntmps111
  go_wp2_with fail
  obtain ⟨_, _, _, hK, _⟩ := four_rows w _ _ _ _ _ 23 23 23 23 (Below.refl _ ((((w.alloc (.cells #[.int .i64 c, .int .i64 e] 23)).alloc (.cells #[.int .i64 c2, .int .i64 e2] 23)).alloc (.cells #[.int .i64 0, .int .i64 0] 23)).alloc (.cells #[.int .i64 c, .int .i64 e, .int .i64 c2, .int .i64 e2] 23)))
  refine (hT _ _ hK).mono ?_
  rintro _ W ⟨h1, G, hG, rfl, hR⟩
  obtain ⟨_, _, hZ, _, hB⟩ := four_rows w W _ _ _ _ _ _ _ _ h1
  have hGn : w.heap.size + 2 ≠ G := by simp at hG; omega
  have hR : Row W G 85 #[y0, y1, y2, y3, z0, z1, z2, z3] := hR
  clear h1 hG hK hT
  have hzz : ∀ w, Calls Tryz.prog 114 #[.agg #[z0, z1, z2, z3]] w fun r w' => r = .returned (.bool false) ∧ Below w.heap.size w w' := by
    have := zero_W (decW c2 e2)
    rw [decide_eq_false hnz, Wd.val_eq, hz] at this
    exact this
  obtain ⟨g0, g1, g2, g3, g4, g5, g6, g7⟩ := hR.eight
  go_wp2_with fail
  refine (hzz _).mono ?_
  rintro _ W' ⟨rfl, h1⟩
  have hZ := hZ.below h1 hZ.lt
  have hR := hR.below h1 hR.lt
  have hB := hB.trans (h1.mono hB.size)
  clear g0 g1 g2 g3 g4 g5 g6 g7 h1 hzz
  go_wp2_with fail
  have hS0 : Below W'.heap.size W' W'.drew := (Below.refl _ W').drew
  refine wp_region_M (fun wx : World => Below W'.heap.size W' wx) (fun j => decide (j < 10)) 15 rfl (by kernel_rfl) ?_
  refine wpM_held 0 (v := ?_) rfl (by kernel_rfl) (by kernel_rfl) rfl (fun _ _ _ h => h) rfl (by intro wx hx; go_simp <;> rfl) hS0 ?_
  refine wpM_held 1 (v := ?_) rfl (by kernel_rfl) (by kernel_rfl) rfl (fun _ _ _ h => h) rfl (by intro wx hx; go_simp <;> rfl) hS0 ?_
  refine wpM_held 2 (v := .pointer (some ⟨G, 0, none⟩)) rfl (by kernel_rfl) (by kernel_rfl) rfl (fun _ _ _ h => h) rfl (by intro wx hx; go_simp <;> rfl) hS0 ?_
  refine wpM_held 3 (v := .agg #[y0, y1, y2, y3]) rfl (by kernel_rfl) (by kernel_rfl) rfl (fun _ _ _ h => h) rfl (by intro wx hx; obtain ⟨g0, g1, g2, g3, g4, g5, g6, g7⟩ := (hR.below hx hR.lt).eight; go_simp <;> rfl) hS0 ?_
  refine wpM_held 4 (v := ?_) rfl (by kernel_rfl) (by kernel_rfl) rfl (fun _ _ _ h => h) rfl (by intro wx hx; go_simp <;> rfl) hS0 ?_
  refine wpM_held 5 (v := .pointer (some ⟨G, 4, none⟩)) rfl (by kernel_rfl) (by kernel_rfl) rfl (fun _ _ _ h => h) rfl (by intro wx hx; go_simp <;> rfl) hS0 ?_
  refine wpM_held 6 (v := .agg #[z0, z1, z2, z3]) rfl (by kernel_rfl) (by kernel_rfl) rfl (fun _ _ _ h => h) rfl (by intro wx hx; obtain ⟨g0, g1, g2, g3, g4, g5, g6, g7⟩ := (hR.below hx hR.lt).eight; go_simp <;> rfl) hS0 ?_
  refine wpM_one 7 rfl (by kernel_rfl) rfl ?_
  go_wp2_with fail
  refine (hw _).mono ?_
  rintro _ w1 ⟨⟨x, t, rfl, x1, x2, x3, x4⟩, h1⟩
  have hS1 := hS0.trans h1
  have hTD := told_any x t x1 x3 x2
  rw [show (if t = true then tellW x.neg x.n x.e else none) = toldW o by rw [x4]; cases t <;> rfl] at hTD
  rw [HDV.out] at hTD
  obtain ⟨d0, d1, d2, d3, hxv⟩ := val_agg x
  rw [hxv] at hTD ⊢
  clear h1 hw x1 x2 x3 x4 hxv
  go_wp2_with fail
  refine ⟨fun _ => hS1, ?_⟩
  refine wpM_held 8 (v := ?_) rfl (by kernel_rfl) (by kernel_rfl) rfl (fun _ _ _ h => h) rfl (by intro wx hx; go_simp <;> rfl) hS1 ?_
  refine wpM_held 9 (v := ?_) rfl (by kernel_rfl) (by kernel_rfl) rfl (fun _ _ _ h => h) rfl (by intro wx hx; go_simp <;> rfl) hS1 ?_
  refine wpM_one 10 rfl (by kernel_rfl) rfl ?_
  go_wp2_with fail
  refine (hTD _).mono ?_
  rintro _ w2 ⟨rfl, h2⟩
  have hS2 := hS1.trans (h2.mono hS1.size)
  have hZ2 := hZ.below hS2 hZ.lt
  have hB2 := hB.trans (hS2.mono hB.size)
  clear h2 hTD
  go_wp2_with fail
  refine ⟨(fun h => by simp at h), ?_⟩
  refine wpM_free 11 (v := ?_) rfl (by kernel_rfl) (by kernel_rfl) rfl (fun _ _ _ h => h) rfl (by intro wx; go_simp <;> rfl) ?_
  refine wpM_free 12 (v := ?_) rfl (by kernel_rfl) (by kernel_rfl) rfl (fun _ _ _ h => h) rfl (by intro wx; go_simp <;> rfl) ?_
  obtain ⟨g0, g1⟩ := hZ2.duo
  have z := hZ2.frozen
  refine wpM_one 13 rfl (by kernel_rfl) rfl ?_
  go_wp2_with fail
  refine ⟨(fun h => by simp at h), ?_⟩
  refine wpM_one 14 rfl (by kernel_rfl) rfl ?_
  go_wp2_with fail
  refine ⟨(fun h => by simp at h), ?_⟩
  refine wpM_done (by kernel_rfl) ?_
  go_wp2
  refine bodyPost_ret (v := .tuple #[.agg #[.int .i64 p, .int .i64 q], .int .i64 v]) (ret_two rfl (g := w.heap.size + 2) rfl rfl (load23 (Row.set2 hZ2 _ _) rfl)) rfl ⟨rfl, ?_⟩
  repeat (refine below_set ?_ _ _ (by omega))
  exact hB2
set_option maxRecDepth 100000 in
set_option maxHeartbeats 800000 in
theorem divided_zero (f : FuncId) (c e c2 e2 : Int) (hc : I64 c) (he : within e) (hc2 : I64 c2) (he2 : within e2) (hnz : (decW c2 e2).n = 0) (w : World) :
    Calls Tryz.prog 111 #[.func (.func f) #[] #[], dv c e, dv c2 e2] w fun r w' => r = .returned (.tuple #[dv 0 0, .int .i64 31]) ∧ Below w.heap.size w w' := by
  have hT := fun K w (hK : Row w K 23 #[.int .i64 c, .int .i64 e, .int .i64 c2, .int .i64 e2]) => taken2 c e c2 e2 K w hc he hc2 he2 hK
  obtain ⟨y0, y1, y2, y3, hy⟩ : ∃ y0 y1 y2 y3, (decW c e).cells = #[y0, y1, y2, y3] := ⟨_, _, _, _, rfl⟩
  obtain ⟨z0, z1, z2, z3, hz⟩ : ∃ y0 y1 y2 y3, (decW c2 e2).cells = #[y0, y1, y2, y3] := ⟨_, _, _, _, rfl⟩
  simp only [hy, hz] at hT
  have hzz : ∀ w, Calls Tryz.prog 114 #[.agg #[z0, z1, z2, z3]] w fun r w' => r = .returned (.bool true) ∧ Below w.heap.size w w' := by
    have := zero_W (decW c2 e2)
    rw [decide_eq_true hnz, Wd.val_eq, hz] at this
    exact this
  clear hc he hc2 he2 hnz
  unfold dv
  go_enter Tryz.func111, Tryz.ntmps111
  go_wp2_with fail
  obtain ⟨_, _, _, hK, _⟩ := four_rows w _ _ _ _ _ 23 23 23 23 (Below.refl _ ((((w.alloc (.cells #[.int .i64 c, .int .i64 e] 23)).alloc (.cells #[.int .i64 c2, .int .i64 e2] 23)).alloc (.cells #[.int .i64 0, .int .i64 0] 23)).alloc (.cells #[.int .i64 c, .int .i64 e, .int .i64 c2, .int .i64 e2] 23)))
  refine (hT _ _ hK).mono ?_
  rintro _ W ⟨h1, G, hG, rfl, hR⟩
  obtain ⟨_, _, hZ, _, hB⟩ := four_rows w W _ _ _ _ _ _ _ _ h1
  have hR : Row W G 85 #[y0, y1, y2, y3, z0, z1, z2, z3] := hR
  clear h1 hG hK hT
  obtain ⟨g0, g1, g2, g3, g4, g5, g6, g7⟩ := hR.eight
  go_wp2_with fail
  refine (hzz _).mono ?_
  rintro _ W' ⟨rfl, h1⟩
  have hZ := hZ.below h1 hZ.lt
  have hB := hB.trans (h1.mono hB.size)
  clear g0 g1 g2 g3 g4 g5 g6 g7 h1 hzz
  obtain ⟨d0, d1⟩ := hZ.duo
  have z := hZ.frozen
  go_wp2
  refine bodyPost_ret (ret_two rfl (g := w.heap.size + 2) rfl rfl (load23 (Row.set2 hZ _ _) rfl)) rfl ⟨rfl, ?_⟩
  repeat (refine below_set ?_ _ _ (by omega))
  exact hB
end Go.Proofs.YtnhflnpjepiceaaGreatDoor
/- Add, Sub, Mul, Div, Mod: what they hand on. -/
namespace Go.Proofs.YtnhflnpjepiceaaGreatDoor
open Go.RowKit

set_option maxRecDepth 100000 in
set_option maxHeartbeats 400000 in
theorem op_9 (c e c2 e2 p q v : Int) (h : ∀ w, Calls Tryz.prog 108 #[.func (.func 105) #[] #[], dv c e, dv c2 e2] w fun r w' => r = .returned (.tuple #[.agg #[.int .i64 p, .int .i64 q], .int .i64 v]) ∧ Below w.heap.size w w') (w : World) :
    Calls Tryz.prog 64 #[dv c e, dv c2 e2] w fun r w' => r = .returned (.tuple #[.agg #[.int .i64 p, .int .i64 q], .int .i64 v]) ∧ Below w.heap.size w w' := by
  unfold dv at *
  go_enter Tryz.func64, Tryz.ntmps64
  go_wp2_with fail
  refine (h _).mono ?_
  rintro _ w1 ⟨rfl, h1⟩
  obtain ⟨_, _, hZ, hB⟩ := three_rows w w1 _ _ _ _ _ _ h1
  obtain ⟨d0, d1⟩ := hZ.duo
  have z := hZ.frozen
  clear h1 h
  go_wp2
  refine bodyPost_ret (ret_two rfl (g := w.heap.size + 2) rfl rfl (load23 (Row.set2 hZ _ _) rfl)) rfl ⟨rfl, ?_⟩
  repeat (refine below_set ?_ _ _ (by omega))
  exact hB
set_option maxRecDepth 100000 in
set_option maxHeartbeats 400000 in
theorem op_11 (c e c2 e2 p q v : Int) (h : ∀ w, Calls Tryz.prog 108 #[.func (.func 109) #[] #[], dv c e, dv c2 e2] w fun r w' => r = .returned (.tuple #[.agg #[.int .i64 p, .int .i64 q], .int .i64 v]) ∧ Below w.heap.size w w') (w : World) :
    Calls Tryz.prog 65 #[dv c e, dv c2 e2] w fun r w' => r = .returned (.tuple #[.agg #[.int .i64 p, .int .i64 q], .int .i64 v]) ∧ Below w.heap.size w w' := by
  unfold dv at *
  go_enter Tryz.func65, Tryz.ntmps65
  go_wp2_with fail
  refine (h _).mono ?_
  rintro _ w1 ⟨rfl, h1⟩
  obtain ⟨_, _, hZ, hB⟩ := three_rows w w1 _ _ _ _ _ _ h1
  obtain ⟨d0, d1⟩ := hZ.duo
  have z := hZ.frozen
  clear h1 h
  go_wp2
  refine bodyPost_ret (ret_two rfl (g := w.heap.size + 2) rfl rfl (load23 (Row.set2 hZ _ _) rfl)) rfl ⟨rfl, ?_⟩
  repeat (refine below_set ?_ _ _ (by omega))
  exact hB
set_option maxRecDepth 100000 in
set_option maxHeartbeats 400000 in
theorem op_15 (c e c2 e2 p q v : Int) (h : ∀ w, Calls Tryz.prog 108 #[.func (.func 110) #[] #[], dv c e, dv c2 e2] w fun r w' => r = .returned (.tuple #[.agg #[.int .i64 p, .int .i64 q], .int .i64 v]) ∧ Below w.heap.size w w') (w : World) :
    Calls Tryz.prog 66 #[dv c e, dv c2 e2] w fun r w' => r = .returned (.tuple #[.agg #[.int .i64 p, .int .i64 q], .int .i64 v]) ∧ Below w.heap.size w w' := by
  unfold dv at *
  go_enter Tryz.func66, Tryz.ntmps66
  go_wp2_with fail
  refine (h _).mono ?_
  rintro _ w1 ⟨rfl, h1⟩
  obtain ⟨_, _, hZ, hB⟩ := three_rows w w1 _ _ _ _ _ _ h1
  obtain ⟨d0, d1⟩ := hZ.duo
  have z := hZ.frozen
  clear h1 h
  go_wp2
  refine bodyPost_ret (ret_two rfl (g := w.heap.size + 2) rfl rfl (load23 (Row.set2 hZ _ _) rfl)) rfl ⟨rfl, ?_⟩
  repeat (refine below_set ?_ _ _ (by omega))
  exact hB
set_option maxRecDepth 100000 in
set_option maxHeartbeats 400000 in
theorem op_18 (c e c2 e2 p q v : Int) (h : ∀ w, Calls Tryz.prog 111 #[.func (.func 112) #[] #[], dv c e, dv c2 e2] w fun r w' => r = .returned (.tuple #[.agg #[.int .i64 p, .int .i64 q], .int .i64 v]) ∧ Below w.heap.size w w') (w : World) :
    Calls Tryz.prog 67 #[dv c e, dv c2 e2] w fun r w' => r = .returned (.tuple #[.agg #[.int .i64 p, .int .i64 q], .int .i64 v]) ∧ Below w.heap.size w w' := by
  unfold dv at *
  go_enter Tryz.func67, Tryz.ntmps67
  go_wp2_with fail
  refine (h _).mono ?_
  rintro _ w1 ⟨rfl, h1⟩
  obtain ⟨_, _, hZ, hB⟩ := three_rows w w1 _ _ _ _ _ _ h1
  obtain ⟨d0, d1⟩ := hZ.duo
  have z := hZ.frozen
  clear h1 h
  go_wp2
  refine bodyPost_ret (ret_two rfl (g := w.heap.size + 2) rfl rfl (load23 (Row.set2 hZ _ _) rfl)) rfl ⟨rfl, ?_⟩
  repeat (refine below_set ?_ _ _ (by omega))
  exact hB
theorem quotient_any (a b : Wd) (ha : a.n < 18446744073709551616) (hb : b.n < 18446744073709551616) (hb0 : b.n ≠ 0) (ea : -1000 ≤ a.e ∧ a.e ≤ 1000) (eb : -1000 ≤ b.e ∧ b.e ≤ 1000) (w : World) :
    Calls Tryz.prog 112 #[a.val, b.val] w fun r w' => WayR (quotW a b) r ∧ Below w.heap.size w w' := by
  have hd := divisor_any a.n b.n ha hb
  have hg : Nat.gcd a.n b.n ≠ 0 := fun h => hb0 (Nat.gcd_eq_zero_iff.1 h).2
  have h1 : Nat.gcd a.n b.n ≤ b.n := Nat.gcd_le_right _ (by omega)
  have h2 : 1 ≤ b.n / Nat.gcd a.n b.n := (Nat.le_div_iff_mul_le (by omega)).2 (by omega)
  have h3 : b.n / Nat.gcd a.n b.n ≤ b.n := Nat.div_le_self _ _
  have h4 : a.n / Nat.gcd a.n b.n ≤ a.n := Nat.div_le_self _ _
  unfold Wd.val
  rw [show a.n % 18446744073709551616 = a.n by omega, show b.n % 18446744073709551616 = b.n by omega]
  exact quot_raw a.neg b.neg _ a.n _ b.n (Nat.gcd a.n b.n) (b.n / Nat.gcd a.n b.n) (a.n / Nat.gcd a.n b.n) a.e b.e (a.e - b.e) hd hg
    (by rw [u64_wrap, ← Int.natCast_ediv]; exact Int.emod_eq_of_lt (Int.natCast_nonneg _) (by omega)) (by rw [u64_wrap, ← Int.natCast_ediv]; exact Int.emod_eq_of_lt (Int.natCast_nonneg _) (by omega)) (by simp [IntKind.wrap, IntKind.bits, IntKind.signed]; omega) h2 (by omega) (by omega) (by omega) w
/-- What the calls on two Decs answer. -/
def argV : Value := .tuple #[dv 0 0, .int .i64 1]
theorem dec_bounds {c e : Int} (hc : I64 c) (he : within e) : (decW c e).n < 18446744073709551616 ∧ (decW c e).n < M128 ∧ (-1000 ≤ (decW c e).e ∧ (decW c e).e ≤ 1000) ∧ EOk (decW c e) := by
  have h := sh_dec c e he.1 he.2 hc.1 hc.2
  have h1 := h.big
  have h2 := h.lo
  have h3 := h.hi
  refine ⟨by omega, by unfold M128; omega, ⟨by omega, by omega⟩, ⟨by omega, by omega⟩⟩
def twoV (e e2 : Int) (o : Option Wd) : Value := if (-18 ≤ e ∧ e ≤ 18) ∧ (-18 ≤ e2 ∧ e2 ≤ 18) then decV (toldW o) else argV
theorem two_form (e e2 : Int) (o : Option Wd) : ∃ p q v, twoV e e2 o = .tuple #[.agg #[.int .i64 p, .int .i64 q], .int .i64 v] := by
  unfold twoV
  split
  · exact decV_form _
  · exact ⟨0, 0, 1, rfl⟩
theorem add_any (c e c2 e2 : Int) (hc : I64 c) (hc2 : I64 c2) (w : World) :
    Calls Tryz.prog 64 #[dv c e, dv c2 e2] w fun r w' => r = .returned (twoV e e2 (sumW (decW c e) (decW c2 e2))) ∧ Below w.heap.size w w' := by
  obtain ⟨p, q, v, hv⟩ := two_form e e2 (sumW (decW c e) (decW c2 e2))
  rw [hv]
  refine op_9 c e c2 e2 p q v (fun w => ?_) w
  rw [← hv]
  unfold twoV
  by_cases he : within e
  · by_cases he2 : within e2
    · rw [if_pos ⟨he, he2⟩]
      obtain ⟨a1, a2, a3, a4⟩ := dec_bounds hc he
      obtain ⟨b1, b2, b3, b4⟩ := dec_bounds hc2 he2
      exact reckoned_ok34 c e c2 e2 _ hc he hc2 he2 (fun w => sum_any _ _ a2 b2 a4 b4 w) w
    · rw [if_neg (fun h => he2 h.2)]
      exact reckoned_bad2 105 c e c2 e2 hc he he2 w
  · rw [if_neg (fun h => he h.1)]
    exact reckoned_bad1 105 c e c2 e2 he w
theorem sub_any (c e c2 e2 : Int) (hc : I64 c) (hc2 : I64 c2) (w : World) :
    Calls Tryz.prog 65 #[dv c e, dv c2 e2] w fun r w' => r = .returned (twoV e e2 (sumW (decW c e) (turnW (decW c2 e2)))) ∧ Below w.heap.size w w' := by
  obtain ⟨p, q, v, hv⟩ := two_form e e2 (sumW (decW c e) (turnW (decW c2 e2)))
  rw [hv]
  refine op_11 c e c2 e2 p q v (fun w => ?_) w
  rw [← hv]
  unfold twoV
  by_cases he : within e
  · by_cases he2 : within e2
    · rw [if_pos ⟨he, he2⟩]
      obtain ⟨a1, a2, a3, a4⟩ := dec_bounds hc he
      obtain ⟨b1, b2, b3, b4⟩ := dec_bounds hc2 he2
      exact reckoned_ok38 c e c2 e2 _ hc he hc2 he2 (fun w => less_any _ _ a2 b2 a4 b4 w) w
    · rw [if_neg (fun h => he2 h.2)]
      exact reckoned_bad2 109 c e c2 e2 hc he he2 w
  · rw [if_neg (fun h => he h.1)]
    exact reckoned_bad1 109 c e c2 e2 he w
theorem mul_any (c e c2 e2 : Int) (hc : I64 c) (hc2 : I64 c2) (w : World) :
    Calls Tryz.prog 66 #[dv c e, dv c2 e2] w fun r w' => r = .returned (twoV e e2 (some (prodW (decW c e) (decW c2 e2)))) ∧ Below w.heap.size w w' := by
  obtain ⟨p, q, v, hv⟩ := two_form e e2 (some (prodW (decW c e) (decW c2 e2)))
  rw [hv]
  refine op_15 c e c2 e2 p q v (fun w => ?_) w
  rw [← hv]
  unfold twoV
  by_cases he : within e
  · by_cases he2 : within e2
    · rw [if_pos ⟨he, he2⟩]
      obtain ⟨a1, a2, a3, a4⟩ := dec_bounds hc he
      obtain ⟨b1, b2, b3, b4⟩ := dec_bounds hc2 he2
      exact reckoned_ok43 c e c2 e2 _ hc he hc2 he2 (fun w => product_any _ _ a1 b1 a3 b3 w) w
    · rw [if_neg (fun h => he2 h.2)]
      exact reckoned_bad2 110 c e c2 e2 hc he he2 w
  · rw [if_neg (fun h => he h.1)]
    exact reckoned_bad1 110 c e c2 e2 he w
theorem dec_zero (c e : Int) : (decW c e).n = 0 ↔ c = 0 := by
  unfold decW shortW numW
  by_cases h : c = 0
  · subst h; simp
  · rw [if_neg (by simp; omega)]
    obtain ⟨k, a1, a2, a3, a4, a5⟩ := strip_spec c.natAbs e (by omega)
    exact ⟨fun h0 => absurd h0 a5, fun h0 => absurd h0 h⟩
def divV : Value := .tuple #[dv 0 0, .int .i64 31]
theorem div_any (c e c2 e2 : Int) (hc : I64 c) (hc2 : I64 c2) (h0 : c2 ≠ 0) (w : World) :
    Calls Tryz.prog 67 #[dv c e, dv c2 e2] w fun r w' => r = .returned (twoV e e2 (quotW (decW c e) (decW c2 e2))) ∧ Below w.heap.size w w' := by
  obtain ⟨p, q, v, hv⟩ := two_form e e2 (quotW (decW c e) (decW c2 e2))
  rw [hv]
  refine op_18 c e c2 e2 p q v (fun w => ?_) w
  rw [← hv]
  unfold twoV
  by_cases he : within e
  · by_cases he2 : within e2
    · rw [if_pos ⟨he, he2⟩]
      obtain ⟨a1, a2, a3, a4⟩ := dec_bounds hc he
      obtain ⟨b1, b2, b3, b4⟩ := dec_bounds hc2 he2
      have hz : (decW c2 e2).n ≠ 0 := fun h => h0 ((dec_zero c2 e2).1 h)
      exact divided_ok47 c e c2 e2 _ hc he hc2 he2 hz (fun w => quotient_any _ _ a1 b1 hz a3 b3 w) w
    · rw [if_neg (fun h => he2 h.2)]
      exact divided_bad2 112 c e c2 e2 hc he he2 w
  · rw [if_neg (fun h => he h.1)]
    exact divided_bad1 112 c e c2 e2 he w
theorem div_zero (c e e2 : Int) (hc : I64 c) (he : within e) (he2 : within e2) (w : World) :
    Calls Tryz.prog 67 #[dv c e, dv 0 e2] w fun r w' => r = .returned divV ∧ Below w.heap.size w w' :=
  op_18 c e 0 e2 0 0 31 (fun w => divided_zero 112 c e 0 e2 hc he ⟨by omega, by omega⟩ he2 ((dec_zero 0 e2).2 rfl) w) w
end Go.Proofs.YtnhflnpjepiceaaGreatDoor
/- restOf and remainder, where both numbers have one exponent, as the chapter's example has them. -/
namespace Go.Proofs.YtnhflnpjepiceaaGreatDoor
open Go.RowKit

end Go.Proofs.YtnhflnpjepiceaaGreatDoor
/- Quotients that are there are found. -/
namespace Go.Proofs.YtnhflnpjepiceaaGreatDoor

theorem quot_found (Z : Nat) (E : Int) (hZ : Z ≤ 9223372036854775808) : ∀ (b n : Nat) (e : Int) (s t : Nat), 1 ≤ b → b < 18446744073709551616 → Nat.Coprime n b → n * 10 ^ s = Z * b * 10 ^ t → e - s = E - t →
    ∃ m f, quotL b n e = some (m, f) ∧ ∃ s' t' : Nat, m * 10 ^ s' = Z * 10 ^ t' ∧ f - s' = E - t' := by
  intro b
  induction b using Nat.strongRecOn with
  | ind b ih =>
    intro n e s t hb1 hb2 hc hv he
    by_cases h1 : b ≤ 1
    · obtain rfl : b = 1 := by omega
      refine ⟨n, e, by rw [quotL.eq_def, if_pos h1], s, t, by rw [hv, Nat.mul_one], he⟩
    · -- n is small, and b divides a power of ten
      have hst : t < s := by
        apply Nat.lt_of_not_le
        intro hle
        have hp := ten_pos s
        have h2 : n = Z * b * 10 ^ (t - s) := by
          apply Nat.eq_of_mul_eq_mul_right hp
          rw [hv, Nat.mul_assoc (Z * b), ← Nat.pow_add]
          congr 2; omega
        have h3 : b ∣ n := ⟨Z * 10 ^ (t - s), by rw [h2, Nat.mul_comm Z b, Nat.mul_assoc]⟩
        have h4 : Nat.gcd n b = b := Nat.gcd_eq_right h3
        have h5 : Nat.gcd n b = 1 := hc
        omega
      have hv2 : n * 10 ^ (s - t) = Z * b := by
        have hp := ten_pos t
        apply Nat.eq_of_mul_eq_mul_right hp
        rw [← hv, Nat.mul_assoc, ← Nat.pow_add]
        congr 2; omega
      have hn : n * 10 ≤ Z * b := by
        rw [← hv2]
        apply Nat.mul_le_mul_left
        have := Nat.pow_le_pow_right (n := 10) (i := 1) (j := s - t) (by omega) (by omega)
        simpa using this
      have hZb : Z * b ≤ 9223372036854775808 * 18446744073709551616 := Nat.mul_le_mul hZ (by omega)
      have hbd : b ∣ 10 ^ (s - t) := by
        have : b ∣ n * 10 ^ (s - t) := ⟨Z, by rw [hv2, Nat.mul_comm]⟩
        exact Nat.Coprime.dvd_of_dvd_mul_left (Nat.Coprime.symm hc) this
      by_cases h10 : b % 10 = 0
      · obtain ⟨b1, rfl⟩ : ∃ b1, b = 10 * b1 := ⟨b / 10, by omega⟩
        have hc1 : Nat.Coprime n b1 := Nat.Coprime.coprime_dvd_right ⟨10, by rw [Nat.mul_comm]⟩ hc
        obtain ⟨m, f, q1, s', t', q2, q3⟩ := ih b1 (by omega) n (e - 1) s (t + 1) (by omega) (by omega) hc1 (by rw [hv, Nat.pow_succ]; simp [Nat.mul_comm, Nat.mul_assoc]) (by omega)
        refine ⟨m, f, ?_, s', t', q2, q3⟩
        rw [quotL.eq_def, if_neg h1, if_pos h10, show 10 * b1 / 10 = b1 by omega, q1]
      · by_cases h2 : b % 2 = 0
        · obtain ⟨b1, rfl⟩ : ∃ b1, b = 2 * b1 := ⟨b / 2, by omega⟩
          have hc1 : Nat.Coprime n b1 := Nat.Coprime.coprime_dvd_right ⟨2, by rw [Nat.mul_comm]⟩ hc
          have h5 : Nat.Coprime 5 b1 := by
            have : Nat.gcd 5 b1 ∣ 5 := Nat.gcd_dvd_left _ _
            have hle : Nat.gcd 5 b1 ≤ 5 := Nat.le_of_dvd (by omega) this
            have hd : Nat.gcd 5 b1 ∣ b1 := Nat.gcd_dvd_right _ _
            generalize hgg : Nat.gcd 5 b1 = g at *
            have : g = 0 ∨ g = 1 ∨ g = 2 ∨ g = 3 ∨ g = 4 ∨ g = 5 := by omega
            rcases this with rfl | rfl | rfl | rfl | rfl | rfl
            · omega
            · exact hgg
            · omega
            · omega
            · omega
            · obtain ⟨k, hk⟩ := hd; omega
          have hfit : n * 5 < M128 := by unfold M128; omega
          obtain ⟨m, f, q1, s', t', q2, q3⟩ := ih b1 (by omega) (n * 5) (e - 1) s (t + 1) (by omega) (by omega) (Nat.Coprime.mul_left hc1 h5) (by
            rw [Nat.pow_succ, show n * 5 * 10 ^ s = n * 10 ^ s * 5 by rw [Nat.mul_assoc, Nat.mul_comm 5, ← Nat.mul_assoc], hv]
            rw [show Z * (2 * b1) * 10 ^ t * 5 = Z * b1 * (10 ^ t * 10) by
              rw [Nat.mul_assoc, Nat.mul_assoc, Nat.mul_assoc, Nat.mul_assoc, Nat.mul_left_comm 2, Nat.mul_left_comm 2]]) (by omega)
          refine ⟨m, f, ?_, s', t', q2, q3⟩
          rw [quotL.eq_def, if_neg h1, if_neg h10, if_pos h2, if_pos hfit, show 2 * b1 / 2 = b1 by omega, q1]
        · by_cases h5 : b % 5 = 0
          · obtain ⟨b1, rfl⟩ : ∃ b1, b = 5 * b1 := ⟨b / 5, by omega⟩
            have hc1 : Nat.Coprime n b1 := Nat.Coprime.coprime_dvd_right ⟨5, by rw [Nat.mul_comm]⟩ hc
            have h22 : Nat.Coprime 2 b1 := by
              have hle : Nat.gcd 2 b1 ≤ 2 := Nat.le_of_dvd (by omega) (Nat.gcd_dvd_left _ _)
              have hd : Nat.gcd 2 b1 ∣ b1 := Nat.gcd_dvd_right _ _
              have hp : 0 < Nat.gcd 2 b1 := Nat.gcd_pos_of_pos_left _ (by omega)
              generalize hgg : Nat.gcd 2 b1 = g at *
              have : g = 1 ∨ g = 2 := by omega
              rcases this with rfl | rfl
              · exact hgg
              · obtain ⟨k, hk⟩ := hd; omega
            have hfit : n * 2 < M128 := by unfold M128; omega
            obtain ⟨m, f, q1, s', t', q2, q3⟩ := ih b1 (by omega) (n * 2) (e - 1) s (t + 1) (by omega) (by omega) (Nat.Coprime.mul_left hc1 h22) (by
              rw [Nat.pow_succ, show n * 2 * 10 ^ s = n * 10 ^ s * 2 by rw [Nat.mul_assoc, Nat.mul_comm 2, ← Nat.mul_assoc], hv]
              rw [show Z * (5 * b1) * 10 ^ t * 2 = Z * b1 * (10 ^ t * 10) by
                rw [Nat.mul_assoc, Nat.mul_assoc, Nat.mul_assoc, Nat.mul_assoc, Nat.mul_left_comm 5, Nat.mul_left_comm 5]]) (by omega)
            refine ⟨m, f, ?_, s', t', q2, q3⟩
            rw [quotL.eq_def, if_neg h1, if_neg h10, if_neg h2, if_pos h5, if_pos hfit, show 5 * b1 / 5 = b1 by omega, q1]
          · exfalso
            have hc10 : Nat.Coprime b 10 := by
              have hd : Nat.gcd b 10 ∣ 10 := Nat.gcd_dvd_right _ _
              have hdb : Nat.gcd b 10 ∣ b := Nat.gcd_dvd_left _ _
              have hle : Nat.gcd b 10 ≤ 10 := Nat.le_of_dvd (by omega) hd
              generalize hgg : Nat.gcd b 10 = g at *
              obtain ⟨k, hk⟩ := hdb
              have : g = 0 ∨ g = 1 ∨ g = 2 ∨ g = 3 ∨ g = 4 ∨ g = 5 ∨ g = 6 ∨ g = 7 ∨ g = 8 ∨ g = 9 ∨ g = 10 := by omega
              rcases this with rfl | rfl | rfl | rfl | rfl | rfl | rfl | rfl | rfl | rfl | rfl
              · omega
              · exact hgg
              all_goals omega
            have hcp : Nat.Coprime b (10 ^ (s - t)) := Nat.Coprime.pow_right _ hc10
            have hg : Nat.gcd b (10 ^ (s - t)) = b := Nat.gcd_eq_left hbd
            have hg1 : Nat.gcd b (10 ^ (s - t)) = 1 := hcp
            omega
theorem natAbs_sc_mul (x y z : Wd) (u v : Nat) (h : sc x * 10 ^ u = sc z * sc y * 10 ^ v) : x.n * 10 ^ u = z.n * y.n * 10 ^ v := by
  have := congrArg Int.natAbs h
  rw [Int.natAbs_mul, Int.natAbs_mul, Int.natAbs_mul, Int.natAbs_pow, Int.natAbs_pow, sc_abs, sc_abs, sc_abs] at this
  exact this
/-- A product that is parted is told as the other factor. -/
theorem told_quot (x y z : Wd) (hy : y.n < 18446744073709551616) (hy0 : y.n ≠ 0) (hz : z.n ≤ 9223372036854775808) (u v : Nat) (h : sc x * 10 ^ u = sc z * sc y * 10 ^ v) (he : x.e - u = z.e + y.e - v) :
    toldW (quotW x y) = tell (sc z) z.e := by
  have hn := natAbs_sc_mul x y z u v h
  have hg0 : 0 < Nat.gcd x.n y.n := Nat.gcd_pos_of_pos_right _ (by omega)
  obtain ⟨X, hX⟩ := Nat.gcd_dvd_left x.n y.n
  obtain ⟨Y, hY⟩ := Nat.gcd_dvd_right x.n y.n
  have hXd : x.n / Nat.gcd x.n y.n = X := by
    apply Nat.div_eq_of_eq_mul_right hg0 hX
  have hYd : y.n / Nat.gcd x.n y.n = Y := by
    apply Nat.div_eq_of_eq_mul_right hg0 hY
  have hcop : Nat.Coprime X Y := by
    have := Nat.coprime_div_gcd_div_gcd (m := x.n) (n := y.n) hg0
    rw [hXd, hYd] at this
    exact this
  have hY1 : 1 ≤ Y := by
    rcases Nat.eq_zero_or_pos Y with h0 | h0
    · rw [h0, Nat.mul_zero] at hY; omega
    · exact h0
  have hYle : Y ≤ y.n := by rw [← hYd]; exact Nat.div_le_self _ _
  have hv : X * 10 ^ u = z.n * Y * 10 ^ v := by
    apply Nat.eq_of_mul_eq_mul_left hg0
    have e1 : Nat.gcd x.n y.n * (z.n * Y * 10 ^ v) = z.n * (Nat.gcd x.n y.n * Y) * 10 ^ v := by
      generalize Nat.gcd x.n y.n = g
      simp [Nat.mul_comm, Nat.mul_left_comm, Nat.mul_assoc]
    rw [e1, ← hY, ← Nat.mul_assoc, ← hX, hn]
  obtain ⟨m, f, q1, s', t', q2, q3⟩ := quot_found z.n z.e hz Y X (x.e - y.e) u v hY1 (by omega) hcop hv (by omega)
  unfold quotW
  rw [hXd, hYd, q1]
  show tellW (x.neg != y.neg) m f = _
  rw [← tell_sc ⟨x.neg != y.neg, m, f⟩]
  refine tell_same (m := min f z.e) (Int.min_le_right _ _) (Int.min_le_left _ _) ?_
  have key : sc ⟨x.neg != y.neg, m, f⟩ * 10 ^ s' = sc z * 10 ^ t' := by
    by_cases hz0 : z.n = 0
    · have hm0 : m = 0 := by
        rw [hz0, Nat.zero_mul] at q2
        rcases Nat.mul_eq_zero.1 q2 with h0 | h0
        · exact h0
        · have := ten_pos s'; omega
      rw [(sc_neg0 ⟨x.neg != y.neg, m, f⟩).2 hm0, (sc_neg0 z).2 hz0]; simp
    · have hsgn : (x.neg != y.neg) = z.neg := by
        have hxn : x.n ≠ 0 := by
          intro h0
          rw [h0, Nat.zero_mul] at hn
          have hh := hn.symm
          rcases Nat.mul_eq_zero.1 hh with h1 | h1
          · rcases Nat.mul_eq_zero.1 h1 with h2 | h2
            · exact hz0 h2
            · exact hy0 h2
          · have := ten_pos v; omega
        have hp1 := pow_pos' u
        have hp2 := pow_pos' v
        have hsg := congrArg Int.sign h
        rw [Int.sign_mul, Int.sign_mul, Int.sign_mul, Int.sign_eq_one_of_pos hp1, Int.sign_eq_one_of_pos hp2, Int.mul_one, Int.mul_one] at hsg
        have e1 : ∀ w : Wd, w.n ≠ 0 → (sc w).sign = if w.neg then -1 else 1 := by
          intro w hw
          unfold sc
          cases w.neg
          · simp only [Bool.false_eq_true, if_false]; exact Int.sign_eq_one_of_pos (by omega)
          · simp only [if_true]; exact Int.sign_eq_neg_one_of_neg (by omega)
        rw [e1 x hxn, e1 y hy0, e1 z hz0] at hsg
        cases hx : x.neg <;> cases hyy : y.neg <;> cases hzz : z.neg <;> rw [hx, hyy, hzz] at hsg <;> first | rfl | (exfalso; revert hsg; decide)
      rw [hsgn]
      have q2' : ((m * 10 ^ s' : Nat) : Int) = ((z.n * 10 ^ t' : Nat) : Int) := by rw [q2]
      rw [Int.natCast_mul, Int.natCast_mul, Int.natCast_pow, Int.natCast_pow] at q2'
      unfold sc
      simp only
      cases z.neg
      · simpa using q2'
      · simp only [if_true, Int.neg_mul]
        have : (m : Int) * 10 ^ s' = (z.n : Int) * 10 ^ t' := by simpa using q2'
        rw [this]
  -- both in the same units
  unfold V
  have hp := pow_ne (s' + t')
  generalize hd : min f z.e = d
  have hdf : d ≤ f := by omega
  have hdz : d ≤ z.e := by omega
  have a1 : sc ⟨x.neg != y.neg, m, f⟩ * 10 ^ (f - d).toNat * 10 ^ (s' + t') = sc ⟨x.neg != y.neg, m, f⟩ * 10 ^ s' * 10 ^ ((f - d).toNat + t') := by
    rw [Int.mul_assoc, Int.mul_assoc, ← Int.pow_add, ← Int.pow_add]; congr 2; omega
  have a2 : sc z * 10 ^ (z.e - d).toNat * 10 ^ (s' + t') = sc z * 10 ^ t' * 10 ^ ((z.e - d).toNat + s') := by
    rw [Int.mul_assoc, Int.mul_assoc, ← Int.pow_add, ← Int.pow_add]; congr 2; omega
  apply Int.eq_of_mul_eq_mul_right hp
  rw [a1, a2, key]
  congr 2
  omega
end Go.Proofs.YtnhflnpjepiceaaGreatDoor
/- size, Cmp. -/
namespace Go.Proofs.YtnhflnpjepiceaaGreatDoor
open Go.RowKit

set_option maxRecDepth 100000 in
set_option maxHeartbeats 800000 in
theorem size_f1 (an bn : Bool) (ah al bh bl : Nat) (ae be : Int) (hla : ∀ w, Calls Tryz.prog 145 #[wv an ah al ae, .int .i64 be] w fun r w' => r = .returned (.tuple #[.agg #[.bool false, .int .u64 0, .int .u64 0, .int .i64 0], .bool false]) ∧ Below w.heap.size w w') (w : World) :
    Calls Tryz.prog 125 #[wv an ah al ae, wv bn bh bl be] w fun r w' => r = .returned (.int .i64 1) ∧ Below w.heap.size w w' := by
  unfold wv at *
  go_enter Tryz.func125, Tryz.ntmps125
  go_wp2_with fail
  refine (hla _).mono ?_
  rintro _ w1 ⟨rfl, h1⟩
  obtain ⟨hA, hC, hB⟩ := two_rows w w1 _ _ _ _ h1
  obtain ⟨a0, a1, a2, a3⟩ := hA.four
  obtain ⟨b0, b1, b2, b3⟩ := hC.four
  have z1 := hA.frozen; have z2 := hC.frozen
  clear h1 hla
  have hA := hA.set4 (.bool false) (.int .u64 0) (.int .u64 0) (.int .i64 0)
  have hC := hC.off4 (B' := w.heap.size) (by omega) (.bool false) (.int .u64 0) (.int .u64 0) (.int .i64 0)
  have hB := below_set4 hB (B' := w.heap.size) (by omega) (.bool false) (.int .u64 0) (.int .u64 0) (.int .i64 0)
  go_wp2
  go_ret
  exact ⟨rfl, hB⟩
set_option maxRecDepth 100000 in
set_option maxHeartbeats 800000 in
theorem size_f2 (an bn : Bool) (ah al bh bl : Nat) (ae be : Int) (sn : Bool) (sh sl : Nat) (se : Int) (hla : ∀ w, Calls Tryz.prog 145 #[wv an ah al ae, .int .i64 be] w fun r w' => r = .returned (.tuple #[wv sn sh sl se, .bool true]) ∧ Below w.heap.size w w') (hlb : ∀ w, Calls Tryz.prog 145 #[wv bn bh bl be, .int .i64 se] w fun r w' => r = .returned (.tuple #[.agg #[.bool false, .int .u64 0, .int .u64 0, .int .i64 0], .bool false]) ∧ Below w.heap.size w w') (w : World) :
    Calls Tryz.prog 125 #[wv an ah al ae, wv bn bh bl be] w fun r w' => r = .returned (.int .i64 (-1)) ∧ Below w.heap.size w w' := by
  unfold wv at *
  go_enter Tryz.func125, Tryz.ntmps125
  go_wp2_with fail
  refine (hla _).mono ?_
  rintro _ w1 ⟨rfl, h1⟩
  obtain ⟨hA, hC, hB⟩ := two_rows w w1 _ _ _ _ h1
  obtain ⟨a0, a1, a2, a3⟩ := hA.four
  obtain ⟨b0, b1, b2, b3⟩ := hC.four
  have z1 := hA.frozen; have z2 := hC.frozen
  clear h1 hla
  have hA := hA.set4 (.bool sn) (.int .u64 (sh : Int)) (.int .u64 (sl : Int)) (.int .i64 se)
  have hC := hC.off4 (B' := w.heap.size) (by omega) (.bool sn) (.int .u64 (sh : Int)) (.int .u64 (sl : Int)) (.int .i64 se)
  have hB := below_set4 hB (B' := w.heap.size) (by omega) (.bool sn) (.int .u64 (sh : Int)) (.int .u64 (sl : Int)) (.int .i64 se)
  go_wp2_with fail
  refine (hlb _).mono ?_
  rintro _ w2 ⟨rfl, h2⟩
  clear a0 a1 a2 a3 b0 b1 b2 b3 z1 z2
  have hA := hA.below h2 hA.lt
  have hC := hC.below h2 hC.lt
  have hB := hB.trans (h2.mono hB.size)
  obtain ⟨a0, a1, a2, a3⟩ := hA.four
  obtain ⟨b0, b1, b2, b3⟩ := hC.four
  have z1 := hA.frozen; have z2 := hC.frozen
  clear h2 hlb
  have hC := hC.set4 (.bool false) (.int .u64 0) (.int .u64 0) (.int .i64 0)
  have hA := hA.off4 (B' := w.heap.size + 1) (by omega) (.bool false) (.int .u64 0) (.int .u64 0) (.int .i64 0)
  have hB := below_set4 hB (B' := w.heap.size + 1) (by omega) (.bool false) (.int .u64 0) (.int .u64 0) (.int .i64 0)
  go_wp2
  go_ret
  exact ⟨rfl, hB⟩
set_option maxRecDepth 100000 in
set_option maxHeartbeats 800000 in
theorem size_ok (an bn : Bool) (ah al bh bl : Nat) (ae be : Int) (sn tn : Bool) (sh sl th tl : Nat) (se te q : Int) (hla : ∀ w, Calls Tryz.prog 145 #[wv an ah al ae, .int .i64 be] w fun r w' => r = .returned (.tuple #[wv sn sh sl se, .bool true]) ∧ Below w.heap.size w w') (hlb : ∀ w, Calls Tryz.prog 145 #[wv bn bh bl be, .int .i64 se] w fun r w' => r = .returned (.tuple #[wv tn th tl te, .bool true]) ∧ Below w.heap.size w w') (hk : ∀ w, Calls Tryz.prog 156 #[wv sn sh sl se, wv tn th tl te] w fun r w' => r = .returned (.int .i64 q) ∧ Below w.heap.size w w') (w : World) :
    Calls Tryz.prog 125 #[wv an ah al ae, wv bn bh bl be] w fun r w' => r = .returned (.int .i64 q) ∧ Below w.heap.size w w' := by
  unfold wv at *
  go_enter Tryz.func125, Tryz.ntmps125
  go_wp2_with fail
  refine (hla _).mono ?_
  rintro _ w1 ⟨rfl, h1⟩
  obtain ⟨hA, hC, hB⟩ := two_rows w w1 _ _ _ _ h1
  obtain ⟨a0, a1, a2, a3⟩ := hA.four
  obtain ⟨b0, b1, b2, b3⟩ := hC.four
  have z1 := hA.frozen; have z2 := hC.frozen
  clear h1 hla
  have hA := hA.set4 (.bool sn) (.int .u64 (sh : Int)) (.int .u64 (sl : Int)) (.int .i64 se)
  have hC := hC.off4 (B' := w.heap.size) (by omega) (.bool sn) (.int .u64 (sh : Int)) (.int .u64 (sl : Int)) (.int .i64 se)
  have hB := below_set4 hB (B' := w.heap.size) (by omega) (.bool sn) (.int .u64 (sh : Int)) (.int .u64 (sl : Int)) (.int .i64 se)
  go_wp2_with fail
  refine (hlb _).mono ?_
  rintro _ w2 ⟨rfl, h2⟩
  clear a0 a1 a2 a3 b0 b1 b2 b3 z1 z2
  have hA := hA.below h2 hA.lt
  have hC := hC.below h2 hC.lt
  have hB := hB.trans (h2.mono hB.size)
  obtain ⟨a0, a1, a2, a3⟩ := hA.four
  obtain ⟨b0, b1, b2, b3⟩ := hC.four
  have z1 := hA.frozen; have z2 := hC.frozen
  clear h2 hlb
  have hC := hC.set4 (.bool tn) (.int .u64 (th : Int)) (.int .u64 (tl : Int)) (.int .i64 te)
  have hA := hA.off4 (B' := w.heap.size + 1) (by omega) (.bool tn) (.int .u64 (th : Int)) (.int .u64 (tl : Int)) (.int .i64 te)
  have hB := below_set4 hB (B' := w.heap.size + 1) (by omega) (.bool tn) (.int .u64 (th : Int)) (.int .u64 (tl : Int)) (.int .i64 te)
  go_wp2_with fail
  refine (hk _).mono ?_
  rintro _ w3 ⟨rfl, h3⟩
  go_wp2
  go_ret
  exact ⟨rfl, hB.trans (h3.mono hB.size)⟩
theorem size_any (a b : Wd) (ha : a.n < M128) (hb : b.n < M128) (ea : EOk a) (eb : EOk b) (w : World) :
    Calls Tryz.prog 125 #[a.val, b.val] w fun r w' => r = .returned (.int .i64 (sizeW a b)) ∧ Below w.heap.size w w' := by
  unfold sizeW
  rcases low_val a b.e ha ea eb.1 with ⟨hl, hla⟩ | ⟨a', hl, hla⟩
  · rw [hl]
    exact size_f1 a.neg b.neg _ _ _ _ a.e b.e hla w
  · rw [hl]
    simp only
    obtain ⟨p1, p2, p3, p4, p5⟩ := lowW_some hl ha
    have ea' : EOk a' := by unfold EOk at *; omega
    rcases low_val b a'.e hb eb ea'.1 with ⟨hl2, hlb⟩ | ⟨b', hl2, hlb⟩
    · rw [hl2]
      exact size_f2 a.neg b.neg _ _ _ _ a.e b.e a'.neg _ _ a'.e hla hlb w
    · rw [hl2]
      simp only
      exact size_ok a.neg b.neg _ _ _ _ a.e b.e a'.neg b'.neg _ _ _ _ a'.e b'.e _ hla hlb (bySize_any a' b') w
theorem sign_W (x : Wd) (w : World) : Calls Tryz.prog 100 #[x.val] w fun r w' => r = .returned (.int .i64 (sgW x)) ∧ Below w.heap.size w w' := by
  refine (sign_any x.neg (x.n / 18446744073709551616) (x.n % 18446744073709551616) x.e w).mono ?_
  rintro r w' ⟨rfl, hB⟩
  refine ⟨?_, hB⟩
  unfold sgW
  have : (x.n / 18446744073709551616 = 0 ∧ x.n % 18446744073709551616 = 0) ↔ x.n = 0 := by omega
  simp only [this]
theorem sgW_bd (x : Wd) : -1 ≤ sgW x ∧ sgW x ≤ 1 := by unfold sgW; split; omega; split <;> omega
theorem sizeW_bd (a b : Wd) : -1 ≤ sizeW a b ∧ sizeW a b ≤ 1 := by
  unfold sizeW cN
  split
  · omega
  · split
    · omega
    · repeat' split
      all_goals omega
set_option maxRecDepth 100000 in
set_option maxHeartbeats 800000 in
theorem cmp_ok (c e c2 e2 : Int) (hc : I64 c) (he : within e) (hc2 : I64 c2) (he2 : within e2) (w : World) : Calls Tryz.prog 79 #[dv c e, dv c2 e2] w fun r w' => r = .returned (.int .i64 (cmpW (decW c e) (decW c2 e2))) ∧ Below w.heap.size w w' := by
  have hT := fun K w (hK : Row w K 23 #[.int .i64 c, .int .i64 e, .int .i64 c2, .int .i64 e2]) => taken2 c e c2 e2 K w hc he hc2 he2 hK
  have hs1 := sign_W (decW c e)
  have hs2 := sign_W (decW c2 e2)
  obtain ⟨q1, q2, q3, q4⟩ := dec_bounds hc he
  obtain ⟨p1, p2, p3, p4⟩ := dec_bounds hc2 he2
  have hz := size_any (decW c e) (decW c2 e2) q2 p2 q4 p4
  have b1 := sgW_bd (decW c e)
  have b2 := sgW_bd (decW c2 e2)
  have b3 := sizeW_bd (decW c e) (decW c2 e2)
  unfold cmpW at *
  simp only [Wd.val_eq] at *
  obtain ⟨y0, y1, y2, y3, hy⟩ : ∃ y0 y1 y2 y3, (decW c e).cells = #[y0, y1, y2, y3] := ⟨_, _, _, _, rfl⟩
  obtain ⟨z0, z1, z2, z3, hz'⟩ : ∃ y0 y1 y2 y3, (decW c2 e2).cells = #[y0, y1, y2, y3] := ⟨_, _, _, _, rfl⟩
  rw [hy] at hs1 hz
  rw [hz'] at hs2 hz
  simp only [hy, hz'] at hT
  generalize sgW (decW c e) = s1 at *
  generalize sgW (decW c2 e2) = s2 at *
  generalize sizeW (decW c e) (decW c2 e2) = q at *
  clear hc he hc2 he2 hy hz' q1 q2 q3 q4 p1 p2 p3 p4
  by_cases hne : s1 = s2
  · subst hne
    have HV : Hid ((if s1 ≠ s1 then (if s1 < s1 then -1 else 1) else s1 * q) = s1 * q) := if_neg (by simp)
    rw [HV.out]
    have fm : Hid (wrap64 (s1 * q) = s1 * q) := by
      show _ = _
      have : s1 = -1 ∨ s1 = 0 ∨ s1 = 1 := by omega
      rcases this with rfl | rfl | rfl <;> (unfold wrap64; omega)
    have fm2 : Hid (IntKind.i64.wrap (s1 * q) = s1 * q) := by
      show _ = _
      have : s1 = -1 ∨ s1 = 0 ∨ s1 = 1 := by omega
      have hd : s1 * q = -q ∨ s1 * q = 0 ∨ s1 * q = q := by rcases this with rfl | rfl | rfl <;> omega
      generalize s1 * q = m at hd
      simp [IntKind.wrap, IntKind.bits, IntKind.signed]
      omega
    clear b1 b2 b3
    unfold dv
    go_enter Tryz.func79, Tryz.ntmps79
    go_wp2_with fail
    obtain ⟨_, _, hK, _⟩ := three_rows w _ _ _ _ 23 23 23 (Below.refl _ (((w.alloc (.cells #[.int .i64 c, .int .i64 e] 23)).alloc (.cells #[.int .i64 c2, .int .i64 e2] 23)).alloc (.cells #[.int .i64 c, .int .i64 e, .int .i64 c2, .int .i64 e2] 23)))
    refine (hT _ _ hK).mono ?_
    rintro _ W ⟨h1, G, hG, rfl, hR⟩
    obtain ⟨_, _, _, hB⟩ := three_rows w W _ _ _ _ _ _ h1
    have hR : Row W G 85 #[y0, y1, y2, y3, z0, z1, z2, z3] := hR
    clear h1 hG hK hT
    obtain ⟨g0, g1, g2, g3, g4, g5, g6, g7⟩ := hR.eight
    go_wp2_with fail
    refine (hs1 _).mono ?_
    rintro _ W1 ⟨rfl, h1⟩
    have hR := hR.below h1 hR.lt
    have hB := hB.trans (h1.mono hB.size)
    clear h1 hs1 g0 g1 g2 g3 g4 g5 g6 g7
    obtain ⟨g0, g1, g2, g3, g4, g5, g6, g7⟩ := hR.eight
    go_wp2_with fail
    refine (hs2 _).mono ?_
    rintro _ W2 ⟨rfl, h1⟩
    have hR := hR.below h1 hR.lt
    have hB := hB.trans (h1.mono hB.size)
    clear h1 g0 g1 g2 g3 g4 g5 g6 g7
    obtain ⟨g0, g1, g2, g3, g4, g5, g6, g7⟩ := hR.eight
    go_wp2_with fail
    have hS0 : Below W2.heap.size W2 W2.drew := (Below.refl _ W2).drew
    refine wp_region_M (fun wx : World => Below W2.heap.size W2 wx) (fun j => decide (j < 8)) 10 rfl (by kernel_rfl) ?_
    refine wpM_held 0 (v := ?_) rfl (by kernel_rfl) (by kernel_rfl) rfl (fun _ _ _ h => h) rfl (by intro wx hx; go_simp <;> rfl) hS0 ?_
    refine wpM_held 1 (v := ?_) rfl (by kernel_rfl) (by kernel_rfl) rfl (fun _ _ _ h => h) rfl (by intro wx hx; go_simp <;> rfl) hS0 ?_
    refine wpM_held 2 (v := .pointer (some ⟨G, 0, none⟩)) rfl (by kernel_rfl) (by kernel_rfl) rfl (fun _ _ _ h => h) rfl (by intro wx hx; go_simp <;> rfl) hS0 ?_
    refine wpM_held 3 (v := .agg #[y0, y1, y2, y3]) rfl (by kernel_rfl) (by kernel_rfl) rfl (fun _ _ _ h => h) rfl (by intro wx hx; obtain ⟨g0, g1, g2, g3, g4, g5, g6, g7⟩ := (hR.below hx hR.lt).eight; go_simp <;> rfl) hS0 ?_
    refine wpM_held 4 (v := ?_) rfl (by kernel_rfl) (by kernel_rfl) rfl (fun _ _ _ h => h) rfl (by intro wx hx; go_simp <;> rfl) hS0 ?_
    refine wpM_held 5 (v := .pointer (some ⟨G, 4, none⟩)) rfl (by kernel_rfl) (by kernel_rfl) rfl (fun _ _ _ h => h) rfl (by intro wx hx; go_simp <;> rfl) hS0 ?_
    refine wpM_held 6 (v := .agg #[z0, z1, z2, z3]) rfl (by kernel_rfl) (by kernel_rfl) rfl (fun _ _ _ h => h) rfl (by intro wx hx; obtain ⟨g0, g1, g2, g3, g4, g5, g6, g7⟩ := (hR.below hx hR.lt).eight; go_simp <;> rfl) hS0 ?_
    refine wpM_one 7 rfl (by kernel_rfl) rfl ?_
    go_wp2_with fail
    refine (hz _).mono ?_
    rintro _ W3 ⟨rfl, h3⟩
    have hS1 := hS0.trans h3
    go_wp2_with fail
    refine ⟨fun _ => hS1, ?_⟩
    refine wpM_one 8 rfl (by kernel_rfl) rfl ?_
    go_wp2_with fail
    refine ⟨(fun h => by simp at h), ?_⟩
    refine wpM_one 9 rfl (by kernel_rfl) rfl ?_
    go_wp2_with fail
    refine ⟨(fun h => by simp at h), ?_⟩
    refine wpM_done (by kernel_rfl) ?_
    go_wp2
    first | rw [fm.out] | rw [fm2.out] | skip
    go_ret
    exact ⟨rfl, hB.trans (hS1.mono hB.size)⟩
  · have HV : Hid ((if s1 ≠ s2 then (if s1 < s2 then -1 else 1) else s1 * q) = Lib.compareInt s1 s2) := by
      show _ = _
      rw [if_pos hne]
      unfold Lib.compareInt
      split
      · rfl
      · rw [if_pos (by omega)]
    rw [HV.out]
    have hn1 : (s1 != s2) = true := by simpa using hne
    have hcm := Tryz.cmp_Compare_int s1 s2
    clear b1 b2 b3 hne hz
    unfold dv
    go_enter Tryz.func79, Tryz.ntmps79
    go_wp2_with fail
    obtain ⟨_, _, hK, _⟩ := three_rows w _ _ _ _ 23 23 23 (Below.refl _ (((w.alloc (.cells #[.int .i64 c, .int .i64 e] 23)).alloc (.cells #[.int .i64 c2, .int .i64 e2] 23)).alloc (.cells #[.int .i64 c, .int .i64 e, .int .i64 c2, .int .i64 e2] 23)))
    refine (hT _ _ hK).mono ?_
    rintro _ W ⟨h1, G, hG, rfl, hR⟩
    obtain ⟨_, _, _, hB⟩ := three_rows w W _ _ _ _ _ _ h1
    have hR : Row W G 85 #[y0, y1, y2, y3, z0, z1, z2, z3] := hR
    clear h1 hG hK hT
    obtain ⟨g0, g1, g2, g3, g4, g5, g6, g7⟩ := hR.eight
    go_wp2_with fail
    refine (hs1 _).mono ?_
    rintro _ W1 ⟨rfl, h1⟩
    have hR := hR.below h1 hR.lt
    have hB := hB.trans (h1.mono hB.size)
    clear h1 hs1 g0 g1 g2 g3 g4 g5 g6 g7
    obtain ⟨g0, g1, g2, g3, g4, g5, g6, g7⟩ := hR.eight
    go_wp2_with fail
    refine (hs2 _).mono ?_
    rintro _ W2 ⟨rfl, h1⟩
    have hR := hR.below h1 hR.lt
    have hB := hB.trans (h1.mono hB.size)
    clear h1 g0 g1 g2 g3 g4 g5 g6 g7
    obtain ⟨g0, g1, g2, g3, g4, g5, g6, g7⟩ := hR.eight
    go_wp2_with fail
    refine (hs2 _).mono ?_
    rintro _ W3 ⟨rfl, h1⟩
    have hB := hB.trans (h1.mono hB.size)
    go_wp2_with fail
    refine (hcm _).mono ?_
    rintro _ W4 ⟨rfl, hw4⟩
    rw [hw4]
    go_wp2
    go_ret
    exact ⟨rfl, hB⟩
end Go.Proofs.YtnhflnpjepiceaaGreatDoor
/- dec: power: a number as a factor again and again. -/
namespace Go.Proofs.YtnhflnpjepiceaaGreatDoor
open Go.RowKit

def oneW : Wd := ⟨false, 1, 0⟩
def stepW (x y : Wd) : Option Wd := if y.n * x.n < M128 then some ⟨y.neg != x.neg, y.n * x.n, y.e + x.e⟩ else none
/-- A number as a factor n times, as far as it fits. -/
def powW (x : Wd) : Nat → Option Wd
  | 0 => some oneW
  | k + 1 => (powW x k).bind (stepW x)
theorem pow_none (x : Wd) (k : Nat) (h : powW x k = none) : ∀ j, powW x (k + j) = none
  | 0 => h
  | j + 1 => by
    show (powW x (k + j)).bind (stepW x) = none
    rw [pow_none x k h j]
    rfl
/-- The blocks of power: the factor, the result, the product in the making. -/
def PW (w W : World) (K : Nat) (x p : Array Value) : Prop := Row W w.heap.size 85 x ∧ Row W (w.heap.size + 1) 85 #[.bool false, .int .u64 0, .int .u64 0, .int .i64 0] ∧ Row W K 85 p ∧ w.heap.size + 1 < K ∧ Below w.heap.size w W
theorem PW.next {w W W' : World} {K : Nat} {x p : Array Value} (h : PW w W K x p) (b : Below W.heap.size W W') : PW w W' K x p :=
  ⟨h.1.below b h.1.lt, h.2.1.below b h.2.1.lt, h.2.2.1.below b h.2.2.1.lt, h.2.2.2.1, h.2.2.2.2.trans (b.mono h.2.2.2.2.size)⟩
theorem PW.put {w W : World} {K : Nat} {x : Array Value} {a b c d : Value} (h : PW w W K x #[a, b, c, d]) (a' b' c' d' n' e' : Value) :
    PW w ((((((W.setCell ⟨K, 0, none⟩ a').setCell ⟨K, 1, none⟩ b').setCell ⟨K, 2, none⟩ c').setCell ⟨K, 3, none⟩ d').setCell ⟨K, 0, none⟩ n').setCell ⟨K, 3, none⟩ e') K x #[n', b', c', e'] := by
  obtain ⟨h1, h2, h3, h4, h5⟩ := h
  have n1 : w.heap.size ≠ K := by omega
  have n2 : w.heap.size + 1 ≠ K := by omega
  exact ⟨(((((h1.off 0 a' n1).off 1 b' n1).off 2 c' n1).off 3 d' n1).off 0 n' n1).off 3 e' n1, (((((h2.off 0 a' n2).off 1 b' n2).off 2 c' n2).off 3 d' n2).off 0 n' n2).off 3 e' n2,
    ((h3.set4 a' b' c' d').set 0 n').set 3 e', h4,
    below_set (below_set (below_set (below_set (below_set (below_set h5 0 a' (by omega)) 1 b' (by omega)) 2 c' (by omega)) 3 d' (by omega)) 0 n' (by omega)) 3 e' (by omega)⟩
set_option maxRecDepth 100000 in
set_option maxHeartbeats 4000000 in
theorem power_ok (xn : Bool) (m : Nat) (xe : Int) (hm : m < 18446744073709551616) (he : -1000 ≤ xe ∧ xe ≤ 1000) (n : Nat) (hn : n ≤ 64) (w : World) :
    Calls Tryz.prog 116 #[.agg #[.bool xn, .int .u64 0, .int .u64 m, .int .i64 xe], .int .i64 (n : Int)] w fun r w' => WayR (powW ⟨xn, m, xe⟩ n) r ∧ Below w.heap.size w w' := by
  have HN : ∀ V, Hid (Calls Tryz.prog 115 #[.int .i64 1, .int .i64 0] V fun r w' => r = .returned (.agg #[.bool false, .int .u64 0, .int .u64 1, .int .i64 0]) ∧ Below V.heap.size V w') := fun V => number_any 1 0 (by decide) (by decide) V
  have r0 := (Row.new w 85 #[.bool xn, .int .u64 0, .int .u64 m, .int .i64 xe]).alloc (.cells #[.bool false, .int .u64 0, .int .u64 0, .int .i64 0] 85)
  have r1 := Row.new1 w (.cells #[.bool xn, .int .u64 0, .int .u64 m, .int .i64 xe] 85) 85 #[.bool false, .int .u64 0, .int .u64 0, .int .i64 0]
  have b0 : Below w.heap.size w ((w.alloc (.cells #[.bool xn, .int .u64 0, .int .u64 m, .int .i64 xe] 85)).alloc (.cells #[.bool false, .int .u64 0, .int .u64 0, .int .i64 0] 85)) := ((Below.refl _ w).alloc (Nat.le_refl _) _).alloc (by simp) _
  have hs0 : ((w.alloc (.cells #[.bool xn, .int .u64 0, .int .u64 m, .int .i64 xe] 85)).alloc (.cells #[.bool false, .int .u64 0, .int .u64 0, .int .i64 0] 85)).heap.size = w.heap.size + 2 := by simp
  go_enter Tryz.func116, Tryz.ntmps116
  go_upto_region 1 with fail
  generalize (w.alloc (.cells #[.bool xn, .int .u64 0, .int .u64 m, .int .i64 xe] 85)).alloc (.cells #[.bool false, .int .u64 0, .int .u64 0, .int .i64 0] 85) = W at *
  have hW2 : w.heap.size + 1 < W.heap.size := by omega
  clear hs0
  have hS : Below W.heap.size W W.drew := (Below.refl _ W).drew
  have ca := fun wx (hx : Below W.heap.size W wx) => (r0.below hx r0.lt).four
  refine wp_region_M (fun wx : World => Below W.heap.size W wx) (fun j => decide (j < 6)) 7 rfl (by kernel_rfl) ?_
  refine wpM_held 1 (v := ?_) rfl (by kernel_rfl) (by kernel_rfl) rfl (fun _ _ _ h => h) rfl (by intro wx hx; go_simp <;> rfl) hS ?_
  refine wpM_held 2 (v := .int .u64 0) rfl (by kernel_rfl) (by kernel_rfl) rfl (fun _ _ _ h => h) rfl (by intro wx hx; obtain ⟨z0, z1, z2, z3⟩ := ca wx hx; go_simp <;> rfl) hS ?_
  refine wpM_held 3 (v := .bool true) rfl (by kernel_rfl) (by kernel_rfl) rfl (fun _ _ _ h => h) rfl (by intro wx hx; go_simp) hS ?_
  refine wpM_two 0 4 rfl rfl (by kernel_rfl) rfl rfl ?_ ?_
  · go_wp2_with fail
    refine Calls.mono (HN _).out ?_
    rintro _ w1 ⟨rfl, b1⟩
    have hS1 : Below W.heap.size W w1 := hS.trans (b1.mono hS.size)
    go_wp2_with fail
    refine ⟨fun _ => hS1, ?_⟩
    refine wpM_one 4 rfl (by kernel_rfl) rfl ?_
    go_wp2_with fail
    refine ⟨fun _ => hS1.alloc hS1.size _, ?_⟩
    refine wpM_one 5 rfl (by kernel_rfl) rfl ?_
    go_wp2_with fail
    refine ⟨fun _ => hS1.alloc hS1.size _, ?_⟩
    refine wpM_one 6 rfl (by kernel_rfl) rfl ?_
    go_wp2_with fail
    refine ⟨fun h => absurd h (by decide), ?_⟩
    refine wpM_done (by kernel_rfl) ?_
    have hP : PW w (w1.alloc (.cells #[.bool false, .int .u64 0, .int .u64 1, .int .i64 0] 85)) w1.heap.size #[.bool xn, .int .u64 0, .int .u64 m, .int .i64 xe] oneW.cells :=
      ⟨(r0.below hS1 r0.lt).alloc _, (r1.below hS1 r1.lt).alloc _, Row.new w1 85 _, by have := hS1.size; omega, (b0.trans (hS1.mono (by omega))).alloc (by have := hS1.size; omega) _⟩
    generalize w1.heap.size = K at *
    generalize w1.alloc (.cells #[.bool false, .int .u64 0, .int .u64 1, .int .i64 0] 85) = W5 at *
    clear hS ca hS1 b1 r0 r1 b0 HN
    go_wp2_with fail
    go_loopw [7, 13] (fun v7 v13 wr => ∃ (k : Nat) (f : Bool) (y : Wd), v7 = .bool f ∧ v13 = .int .i64 (k : Int) ∧ k ≤ n ∧ Hid (powW ⟨xn, m, xe⟩ k = if f then some y else none) ∧ y.n < M128 ∧ (-1000 * (k : Int) ≤ y.e ∧ y.e ≤ 1000 * (k : Int)) ∧ Hid (PW w wr K #[.bool xn, .int .u64 0, .int .u64 m, .int .i64 xe] y.cells)) (fun _ v13 _ => (n - (intOf v13).toNat))
    case atStart => exact ⟨0, true, oneW, rfl, rfl, Nat.zero_le _, rfl, by decide, by decide, hP⟩
    case round =>
      clear hP
      obtain ⟨k, f, ⟨yg, q, ye⟩, rfl, rfl, hk, HK, hy, hye, HP⟩ := hrel
      unfold Wd.cells at HP
      simp only at HP hy hye
      by_cases hlt : k < n
      · cases f with
        | false =>
          have HPN : Hid (powW ⟨xn, m, xe⟩ n = none) := by
            have := pow_none _ k HK.out (n - k)
            rwa [show k + (n - k) = n by omega] at this
          obtain ⟨y0, y1, y2, y3⟩ := HP.out.2.1.four
          have zf := HP.out.2.1.frozen
          have wl := HP.out.2.1.lt
          have hR := Row.set4 HP.out.2.1 (.bool false) (.int .u64 0) (.int .u64 0) (.int .i64 0)
          have hB := below_set (below_set (below_set (below_set HP.out.2.2.2.2 (B := w.heap.size + 1) 0 (.bool false) (by omega)) (B := w.heap.size + 1) 1 (.int .u64 0) (by omega)) (B := w.heap.size + 1) 2 (.int .u64 0) (by omega)) (B := w.heap.size + 1) 3 (.int .i64 0) (by omega)
          clear HK HP
          go_wp2
          refine bodyPost_ret (ret_two rfl (g := w.heap.size + 1) rfl rfl (load57 hR rfl)) rfl ⟨⟨⟨false, 0, 0⟩, false, rfl, by decide, by decide, by decide, HPN.out⟩, hB⟩
        | true =>
          have HT : ∀ V, Hid (Calls Tryz.prog 152 #[.agg #[.bool yg, .int .u64 ((q / 18446744073709551616 : Nat) : Int), .int .u64 ((q % 18446744073709551616 : Nat) : Int), .int .i64 ye], .int .u64 (m : Int)] V fun r w' => r = .returned (pairV (if q * m < M128 then some ⟨yg, q * m, ye⟩ else none)) ∧ Below V.heap.size V w') := fun V => times_W ⟨yg, q, ye⟩ m hy hm V
          have HS : Hid (powW ⟨xn, m, xe⟩ (k + 1) = if q * m < M128 then some ⟨yg != xn, q * m, ye + xe⟩ else none) := by
            show (powW ⟨xn, m, xe⟩ k).bind (stepW ⟨xn, m, xe⟩) = _
            rw [HK.out]
            rfl
          have hw1 : wrap64 (ye + xe) = ye + xe := by unfold wrap64; omega
          have hw2 : wrap64 (0 + xe) = xe := by unfold wrap64; omega
          generalize (q / 18446744073709551616 : Nat) = a at *
          generalize (q % 18446744073709551616 : Nat) = b at *
          obtain ⟨y0, y1, y2, y3⟩ := HP.out.2.2.1.four
          obtain ⟨x0, x1, x2, x3⟩ := HP.out.1.four
          have hKne : w.heap.size ≠ K := by have := HP.out.2.2.2.1; omega
          by_cases hfit : q * m < M128
          · rw [if_pos hfit] at HS
            simp only [if_pos hfit] at HT
            have HT2 : ∀ V, Hid (Calls Tryz.prog 152 #[.agg #[.bool yg, .int .u64 (a : Int), .int .u64 (b : Int), .int .i64 ye], .int .u64 (m : Int)] V fun r w' => r = .returned (.tuple #[.agg #[.bool yg, .int .u64 ((q * m / 18446744073709551616 : Nat) : Int), .int .u64 ((q * m % 18446744073709551616 : Nat) : Int), .int .i64 ye], .bool true]) ∧ Below V.heap.size V w') := HT
            have HEND : Hid (∀ W, PW w W K #[.bool xn, .int .u64 0, .int .u64 m, .int .i64 xe] #[.bool (yg != xn), .int .u64 ((q * m / 18446744073709551616 : Nat) : Int), .int .u64 ((q * m % 18446744073709551616 : Nat) : Int), .int .i64 (ye + xe)] → PW w W K #[.bool xn, .int .u64 0, .int .u64 m, .int .i64 xe] (Wd.cells ⟨yg != xn, q * m, ye + xe⟩)) := fun W h => h
            generalize (q * m / 18446744073709551616 : Nat) = c at *
            generalize (q * m % 18446744073709551616 : Nat) = d at *
            clear HT HK
            go_wp2_with fail
            refine Calls.mono (HT2 _).out ?_
            rintro _ w6 ⟨rfl, b6⟩
            have h6 := HP.out.next b6
            clear y0 y1 y2 y3 x0 x1 x2 x3 HP b6 HT2
            obtain ⟨y0, y1, y2, y3⟩ := h6.2.2.1.four
            obtain ⟨x0, x1, x2, x3⟩ := h6.1.four
            have zf := h6.2.2.1.frozen
            have wl := h6.2.2.1.lt
            go_wp2
            exact ⟨⟨k + 1, true, ⟨yg != xn, q * m, ye + xe⟩, rfl, by simp, by omega, HS, hfit, by simp only; omega, HEND.out _ (h6.put _ _ _ _ _ _)⟩, by simp [intOf]; omega⟩
          · rw [if_neg hfit] at HS
            simp only [if_neg hfit] at HT
            have HT2 : ∀ V, Hid (Calls Tryz.prog 152 #[.agg #[.bool yg, .int .u64 (a : Int), .int .u64 (b : Int), .int .i64 ye], .int .u64 (m : Int)] V fun r w' => r = .returned (.tuple #[.agg #[.bool false, .int .u64 0, .int .u64 0, .int .i64 0], .bool false]) ∧ Below V.heap.size V w') := HT
            clear HT HK
            go_wp2_with fail
            refine Calls.mono (HT2 _).out ?_
            rintro _ w6 ⟨rfl, b6⟩
            have h6 := HP.out.next b6
            clear y0 y1 y2 y3 x0 x1 x2 x3 HP b6 HT2
            obtain ⟨y0, y1, y2, y3⟩ := h6.2.2.1.four
            obtain ⟨x0, x1, x2, x3⟩ := h6.1.four
            have zf := h6.2.2.1.frozen
            have wl := h6.2.2.1.lt
            have h7 := h6.put (.bool false) (.int .u64 0) (.int .u64 0) (.int .i64 0) (.bool xn) (.int .i64 xe)
            go_wp2
            exact ⟨⟨k + 1, false, ⟨xn, 0, xe⟩, rfl, by simp, by omega, HS, by show 0 < M128; decide, by simp only; omega, by rw [show Wd.cells ⟨xn, 0, xe⟩ = #[.bool xn, .int .u64 0, .int .u64 0, .int .i64 xe] by simp [Wd.cells]]; exact h7⟩, by simp [intOf]; omega⟩
      · have hkn : k = n := by omega
        subst hkn
        have HWR : Hid (∀ f', f' = f → WayR (powW ⟨xn, m, xe⟩ k) (.returned (.tuple #[.agg #[.bool yg, .int .u64 ((q / 18446744073709551616 : Nat) : Int), .int .u64 ((q % 18446744073709551616 : Nat) : Int), .int .i64 ye], .bool f']))) := fun f' h => by
          subst h
          exact ⟨⟨yg, q, ye⟩, f', rfl, hy, by simp only; omega, by simp only; omega, HK.out⟩
        clear HK
        generalize (q / 18446744073709551616 : Nat) = a at *
        generalize (q % 18446744073709551616 : Nat) = b at *
        obtain ⟨y0, y1, y2, y3⟩ := HP.out.2.1.four
        obtain ⟨x0, x1, x2, x3⟩ := HP.out.2.2.1.four
        have zf := HP.out.2.1.frozen
        have wl := HP.out.2.1.lt
        have hR := Row.set4 HP.out.2.1 (.bool yg) (.int .u64 (a : Int)) (.int .u64 (b : Int)) (.int .i64 ye)
        have hB := below_set (below_set (below_set (below_set HP.out.2.2.2.2 (B := w.heap.size + 1) 0 (.bool yg) (by omega)) (B := w.heap.size + 1) 1 (.int .u64 (a : Int)) (by omega)) (B := w.heap.size + 1) 2 (.int .u64 (b : Int)) (by omega)) (B := w.heap.size + 1) 3 (.int .i64 ye) (by omega)
        clear HP
        go_wp2
        exact bodyPost_ret (ret_two (x := .bool f) rfl (g := w.heap.size + 1) rfl rfl (load57 hR rfl)) rfl ⟨HWR.out f rfl, hB⟩
  · go_wp2_with fail
    have hSa : Below W.heap.size W (W.drew.alloc (.cells #[.bool false, .int .u64 0, .int .u64 0, .int .i64 0] 85)) := hS.alloc hS.size _
    have ka : Row (W.drew.alloc (.cells #[.bool false, .int .u64 0, .int .u64 0, .int .i64 0] 85)) W.heap.size 85 #[.bool false, .int .u64 0, .int .u64 0, .int .i64 0] := Row.new W.drew 85 _
    refine ⟨fun _ => hSa, ?_⟩
    refine wpM_one 0 rfl (by kernel_rfl) rfl ?_
    go_wp2_with fail
    refine Calls.mono (HN _).out ?_
    rintro _ w1 ⟨rfl, b1⟩
    have hS1 : Below W.heap.size W w1 := hSa.trans (b1.mono hSa.size)
    have kb := ka.below b1 ka.lt
    obtain ⟨y0, y1, y2, y3⟩ := kb.four
    have zf := kb.frozen
    have wl := kb.lt
    go_wp2_with fail
    refine ⟨fun _ => hS1, ?_⟩
    refine wpM_one 5 rfl (by kernel_rfl) rfl ?_
    go_wp2_with fail
    have hR5 := Row.set4 kb (.bool false) (.int .u64 0) (.int .u64 1) (.int .i64 0)
    have hn1 : w.heap.size ≠ W.heap.size := by omega
    have hn2 : w.heap.size + 1 ≠ W.heap.size := by omega
    have hB5 := below_set (below_set (below_set (below_set hS1 (B := W.heap.size) 0 (.bool false) (Nat.le_refl _)) (B := W.heap.size) 1 (.int .u64 0) (Nat.le_refl _)) (B := W.heap.size) 2 (.int .u64 1) (Nat.le_refl _)) (B := W.heap.size) 3 (.int .i64 0) (Nat.le_refl _)
    have hP : PW w ((((w1.setCell ⟨W.heap.size, 0, none⟩ (.bool false)).setCell ⟨W.heap.size, 1, none⟩ (.int .u64 0)).setCell ⟨W.heap.size, 2, none⟩ (.int .u64 1)).setCell ⟨W.heap.size, 3, none⟩ (.int .i64 0)) W.heap.size #[.bool xn, .int .u64 0, .int .u64 m, .int .i64 xe] oneW.cells :=
      ⟨r0.below hB5 r0.lt, r1.below hB5 r1.lt, hR5, by omega, b0.trans (hB5.mono (by omega))⟩
    refine ⟨fun _ => hB5, ?_⟩
    refine wpM_one 6 rfl (by kernel_rfl) rfl ?_
    go_wp2_with fail
    refine ⟨fun h => absurd h (by decide), ?_⟩
    refine wpM_done (by kernel_rfl) ?_
    clear hS ca hS1 b1 r0 r1 b0 HN hSa ka kb y0 y1 y2 y3 zf wl hR5 hn1 hn2 hB5
    generalize W.heap.size = K at *
    generalize ((((w1.setCell ⟨K, 0, none⟩ (.bool false)).setCell ⟨K, 1, none⟩ (.int .u64 0)).setCell ⟨K, 2, none⟩ (.int .u64 1)).setCell ⟨K, 3, none⟩ (.int .i64 0)) = W5 at *
    go_wp2_with fail
    go_loopw [7, 13] (fun v7 v13 wr => ∃ (k : Nat) (f : Bool) (y : Wd), v7 = .bool f ∧ v13 = .int .i64 (k : Int) ∧ k ≤ n ∧ Hid (powW ⟨xn, m, xe⟩ k = if f then some y else none) ∧ y.n < M128 ∧ (-1000 * (k : Int) ≤ y.e ∧ y.e ≤ 1000 * (k : Int)) ∧ Hid (PW w wr K #[.bool xn, .int .u64 0, .int .u64 m, .int .i64 xe] y.cells)) (fun _ v13 _ => (n - (intOf v13).toNat))
    case atStart => exact ⟨0, true, oneW, rfl, rfl, Nat.zero_le _, rfl, by decide, by decide, hP⟩
    case round =>
      clear hP
      obtain ⟨k, f, ⟨yg, q, ye⟩, rfl, rfl, hk, HK, hy, hye, HP⟩ := hrel
      unfold Wd.cells at HP
      simp only at HP hy hye
      by_cases hlt : k < n
      · cases f with
        | false =>
          have HPN : Hid (powW ⟨xn, m, xe⟩ n = none) := by
            have := pow_none _ k HK.out (n - k)
            rwa [show k + (n - k) = n by omega] at this
          obtain ⟨y0, y1, y2, y3⟩ := HP.out.2.1.four
          have zf := HP.out.2.1.frozen
          have wl := HP.out.2.1.lt
          have hR := Row.set4 HP.out.2.1 (.bool false) (.int .u64 0) (.int .u64 0) (.int .i64 0)
          have hB := below_set (below_set (below_set (below_set HP.out.2.2.2.2 (B := w.heap.size + 1) 0 (.bool false) (by omega)) (B := w.heap.size + 1) 1 (.int .u64 0) (by omega)) (B := w.heap.size + 1) 2 (.int .u64 0) (by omega)) (B := w.heap.size + 1) 3 (.int .i64 0) (by omega)
          clear HK HP
          go_wp2
          refine bodyPost_ret (ret_two rfl (g := w.heap.size + 1) rfl rfl (load57 hR rfl)) rfl ⟨⟨⟨false, 0, 0⟩, false, rfl, by decide, by decide, by decide, HPN.out⟩, hB⟩
        | true =>
          have HT : ∀ V, Hid (Calls Tryz.prog 152 #[.agg #[.bool yg, .int .u64 ((q / 18446744073709551616 : Nat) : Int), .int .u64 ((q % 18446744073709551616 : Nat) : Int), .int .i64 ye], .int .u64 (m : Int)] V fun r w' => r = .returned (pairV (if q * m < M128 then some ⟨yg, q * m, ye⟩ else none)) ∧ Below V.heap.size V w') := fun V => times_W ⟨yg, q, ye⟩ m hy hm V
          have HS : Hid (powW ⟨xn, m, xe⟩ (k + 1) = if q * m < M128 then some ⟨yg != xn, q * m, ye + xe⟩ else none) := by
            show (powW ⟨xn, m, xe⟩ k).bind (stepW ⟨xn, m, xe⟩) = _
            rw [HK.out]
            rfl
          have hw1 : wrap64 (ye + xe) = ye + xe := by unfold wrap64; omega
          have hw2 : wrap64 (0 + xe) = xe := by unfold wrap64; omega
          generalize (q / 18446744073709551616 : Nat) = a at *
          generalize (q % 18446744073709551616 : Nat) = b at *
          obtain ⟨y0, y1, y2, y3⟩ := HP.out.2.2.1.four
          obtain ⟨x0, x1, x2, x3⟩ := HP.out.1.four
          have hKne : w.heap.size ≠ K := by have := HP.out.2.2.2.1; omega
          by_cases hfit : q * m < M128
          · rw [if_pos hfit] at HS
            simp only [if_pos hfit] at HT
            have HT2 : ∀ V, Hid (Calls Tryz.prog 152 #[.agg #[.bool yg, .int .u64 (a : Int), .int .u64 (b : Int), .int .i64 ye], .int .u64 (m : Int)] V fun r w' => r = .returned (.tuple #[.agg #[.bool yg, .int .u64 ((q * m / 18446744073709551616 : Nat) : Int), .int .u64 ((q * m % 18446744073709551616 : Nat) : Int), .int .i64 ye], .bool true]) ∧ Below V.heap.size V w') := HT
            have HEND : Hid (∀ W, PW w W K #[.bool xn, .int .u64 0, .int .u64 m, .int .i64 xe] #[.bool (yg != xn), .int .u64 ((q * m / 18446744073709551616 : Nat) : Int), .int .u64 ((q * m % 18446744073709551616 : Nat) : Int), .int .i64 (ye + xe)] → PW w W K #[.bool xn, .int .u64 0, .int .u64 m, .int .i64 xe] (Wd.cells ⟨yg != xn, q * m, ye + xe⟩)) := fun W h => h
            generalize (q * m / 18446744073709551616 : Nat) = c at *
            generalize (q * m % 18446744073709551616 : Nat) = d at *
            clear HT HK
            go_wp2_with fail
            refine Calls.mono (HT2 _).out ?_
            rintro _ w6 ⟨rfl, b6⟩
            have h6 := HP.out.next b6
            clear y0 y1 y2 y3 x0 x1 x2 x3 HP b6 HT2
            obtain ⟨y0, y1, y2, y3⟩ := h6.2.2.1.four
            obtain ⟨x0, x1, x2, x3⟩ := h6.1.four
            have zf := h6.2.2.1.frozen
            have wl := h6.2.2.1.lt
            go_wp2
            exact ⟨⟨k + 1, true, ⟨yg != xn, q * m, ye + xe⟩, rfl, by simp, by omega, HS, hfit, by simp only; omega, HEND.out _ (h6.put _ _ _ _ _ _)⟩, by simp [intOf]; omega⟩
          · rw [if_neg hfit] at HS
            simp only [if_neg hfit] at HT
            have HT2 : ∀ V, Hid (Calls Tryz.prog 152 #[.agg #[.bool yg, .int .u64 (a : Int), .int .u64 (b : Int), .int .i64 ye], .int .u64 (m : Int)] V fun r w' => r = .returned (.tuple #[.agg #[.bool false, .int .u64 0, .int .u64 0, .int .i64 0], .bool false]) ∧ Below V.heap.size V w') := HT
            clear HT HK
            go_wp2_with fail
            refine Calls.mono (HT2 _).out ?_
            rintro _ w6 ⟨rfl, b6⟩
            have h6 := HP.out.next b6
            clear y0 y1 y2 y3 x0 x1 x2 x3 HP b6 HT2
            obtain ⟨y0, y1, y2, y3⟩ := h6.2.2.1.four
            obtain ⟨x0, x1, x2, x3⟩ := h6.1.four
            have zf := h6.2.2.1.frozen
            have wl := h6.2.2.1.lt
            have h7 := h6.put (.bool false) (.int .u64 0) (.int .u64 0) (.int .i64 0) (.bool xn) (.int .i64 xe)
            go_wp2
            exact ⟨⟨k + 1, false, ⟨xn, 0, xe⟩, rfl, by simp, by omega, HS, by show 0 < M128; decide, by simp only; omega, by rw [show Wd.cells ⟨xn, 0, xe⟩ = #[.bool xn, .int .u64 0, .int .u64 0, .int .i64 xe] by simp [Wd.cells]]; exact h7⟩, by simp [intOf]; omega⟩
      · have hkn : k = n := by omega
        subst hkn
        have HWR : Hid (∀ f', f' = f → WayR (powW ⟨xn, m, xe⟩ k) (.returned (.tuple #[.agg #[.bool yg, .int .u64 ((q / 18446744073709551616 : Nat) : Int), .int .u64 ((q % 18446744073709551616 : Nat) : Int), .int .i64 ye], .bool f']))) := fun f' h => by
          subst h
          exact ⟨⟨yg, q, ye⟩, f', rfl, hy, by simp only; omega, by simp only; omega, HK.out⟩
        clear HK
        generalize (q / 18446744073709551616 : Nat) = a at *
        generalize (q % 18446744073709551616 : Nat) = b at *
        obtain ⟨y0, y1, y2, y3⟩ := HP.out.2.1.four
        obtain ⟨x0, x1, x2, x3⟩ := HP.out.2.2.1.four
        have zf := HP.out.2.1.frozen
        have wl := HP.out.2.1.lt
        have hR := Row.set4 HP.out.2.1 (.bool yg) (.int .u64 (a : Int)) (.int .u64 (b : Int)) (.int .i64 ye)
        have hB := below_set (below_set (below_set (below_set HP.out.2.2.2.2 (B := w.heap.size + 1) 0 (.bool yg) (by omega)) (B := w.heap.size + 1) 1 (.int .u64 (a : Int)) (by omega)) (B := w.heap.size + 1) 2 (.int .u64 (b : Int)) (by omega)) (B := w.heap.size + 1) 3 (.int .i64 ye) (by omega)
        clear HP
        go_wp2
        exact bodyPost_ret (ret_two (x := .bool f) rfl (g := w.heap.size + 1) rfl rfl (load57 hR rfl)) rfl ⟨HWR.out f rfl, hB⟩
end Go.Proofs.YtnhflnpjepiceaaGreatDoor
/- dec: power of a factor that is too great: nothing. -/
namespace Go.Proofs.YtnhflnpjepiceaaGreatDoor
open Go.RowKit

set_option maxRecDepth 100000 in
set_option maxHeartbeats 4000000 in
theorem power_big (xn : Bool) (hi m : Nat) (xe : Int) (hh : ¬ hi = 0) (n : Int) (hn : 0 < n) (w : World) :
    Calls Tryz.prog 116 #[.agg #[.bool xn, .int .u64 (hi : Int), .int .u64 m, .int .i64 xe], .int .i64 n] w fun r w' => WayR none r ∧ Below w.heap.size w w' := by
  have HN : ∀ V, Hid (Calls Tryz.prog 115 #[.int .i64 1, .int .i64 0] V fun r w' => r = .returned (.agg #[.bool false, .int .u64 0, .int .u64 1, .int .i64 0]) ∧ Below V.heap.size V w') := fun V => number_any 1 0 (by decide) (by decide) V
  have hh2 : ((hi : Int) == 0) = false := by simp; omega
  have r0 := (Row.new w 85 #[.bool xn, .int .u64 (hi : Int), .int .u64 m, .int .i64 xe]).alloc (.cells #[.bool false, .int .u64 0, .int .u64 0, .int .i64 0] 85)
  have r1 := Row.new1 w (.cells #[.bool xn, .int .u64 (hi : Int), .int .u64 m, .int .i64 xe] 85) 85 #[.bool false, .int .u64 0, .int .u64 0, .int .i64 0]
  have b0 : Below w.heap.size w ((w.alloc (.cells #[.bool xn, .int .u64 (hi : Int), .int .u64 m, .int .i64 xe] 85)).alloc (.cells #[.bool false, .int .u64 0, .int .u64 0, .int .i64 0] 85)) := ((Below.refl _ w).alloc (Nat.le_refl _) _).alloc (by simp) _
  have hs0 : ((w.alloc (.cells #[.bool xn, .int .u64 (hi : Int), .int .u64 m, .int .i64 xe] 85)).alloc (.cells #[.bool false, .int .u64 0, .int .u64 0, .int .i64 0] 85)).heap.size = w.heap.size + 2 := by simp
  clear hh
  go_enter Tryz.func116, Tryz.ntmps116
  go_upto_region 1 with fail
  generalize (w.alloc (.cells #[.bool xn, .int .u64 (hi : Int), .int .u64 m, .int .i64 xe] 85)).alloc (.cells #[.bool false, .int .u64 0, .int .u64 0, .int .i64 0] 85) = W at *
  have hW2 : w.heap.size + 1 < W.heap.size := by omega
  clear hs0
  have hS : Below W.heap.size W W.drew := (Below.refl _ W).drew
  have ca := fun wx (hx : Below W.heap.size W wx) => (r0.below hx r0.lt).four
  refine wp_region_M (fun wx : World => Below W.heap.size W wx) (fun j => decide (j < 6)) 7 rfl (by kernel_rfl) ?_
  refine wpM_held 1 (v := ?_) rfl (by kernel_rfl) (by kernel_rfl) rfl (fun _ _ _ h => h) rfl (by intro wx hx; go_simp <;> rfl) hS ?_
  refine wpM_held 2 (v := .int .u64 (hi : Int)) rfl (by kernel_rfl) (by kernel_rfl) rfl (fun _ _ _ h => h) rfl (by intro wx hx; obtain ⟨z0, z1, z2, z3⟩ := ca wx hx; go_simp <;> rfl) hS ?_
  refine wpM_held 3 (v := .bool false) rfl (by kernel_rfl) (by kernel_rfl) rfl (fun _ _ _ h => h) rfl (by intro wx hx; go_simp) hS ?_
  refine wpM_two 0 4 rfl rfl (by kernel_rfl) rfl rfl ?_ ?_
  · go_wp2_with fail
    refine Calls.mono (HN _).out ?_
    rintro _ w1 ⟨rfl, b1⟩
    have hS1 : Below W.heap.size W w1 := hS.trans (b1.mono hS.size)
    go_wp2_with fail
    refine ⟨fun _ => hS1, ?_⟩
    refine wpM_one 4 rfl (by kernel_rfl) rfl ?_
    go_wp2_with fail
    refine ⟨fun _ => hS1.alloc hS1.size _, ?_⟩
    refine wpM_one 5 rfl (by kernel_rfl) rfl ?_
    go_wp2_with fail
    refine ⟨fun _ => hS1.alloc hS1.size _, ?_⟩
    refine wpM_one 6 rfl (by kernel_rfl) rfl ?_
    go_wp2_with fail
    refine ⟨fun h => absurd h (by decide), ?_⟩
    refine wpM_done (by kernel_rfl) ?_
    have hP : PW w (w1.alloc (.cells #[.bool false, .int .u64 0, .int .u64 1, .int .i64 0] 85)) w1.heap.size #[.bool xn, .int .u64 (hi : Int), .int .u64 m, .int .i64 xe] oneW.cells :=
      ⟨(r0.below hS1 r0.lt).alloc _, (r1.below hS1 r1.lt).alloc _, Row.new w1 85 _, by have := hS1.size; omega, (b0.trans (hS1.mono (by omega))).alloc (by have := hS1.size; omega) _⟩
    generalize w1.heap.size = K at *
    generalize w1.alloc (.cells #[.bool false, .int .u64 0, .int .u64 1, .int .i64 0] 85) = W5 at *
    clear hS ca hS1 b1 r0 r1 b0 HN
    go_wp2_with fail
    refine wp_loop_rounds 1 ?_
    rw [rounds_succ]
    obtain ⟨t0, t1, t2, t3⟩ := hP.2.1.four
    have tf := hP.2.1.frozen
    have tl := hP.2.1.lt
    have hR := Row.set4 hP.2.1 (.bool false) (.int .u64 0) (.int .u64 0) (.int .i64 0)
    have hB := below_set (below_set (below_set (below_set hP.2.2.2.2 (B := w.heap.size + 1) 0 (.bool false) (by omega)) (B := w.heap.size + 1) 1 (.int .u64 0) (by omega)) (B := w.heap.size + 1) 2 (.int .u64 0) (by omega)) (B := w.heap.size + 1) 3 (.int .i64 0) (by omega)
    clear hP
    go_wp2
    exact bodyPost_ret (ret_two (x := .bool false) rfl (g := w.heap.size + 1) rfl rfl (load57 hR rfl)) rfl ⟨⟨⟨false, 0, 0⟩, false, rfl, by decide, by decide, by decide, rfl⟩, hB⟩
  · go_wp2_with fail
    have hSa : Below W.heap.size W (W.drew.alloc (.cells #[.bool false, .int .u64 0, .int .u64 0, .int .i64 0] 85)) := hS.alloc hS.size _
    have ka : Row (W.drew.alloc (.cells #[.bool false, .int .u64 0, .int .u64 0, .int .i64 0] 85)) W.heap.size 85 #[.bool false, .int .u64 0, .int .u64 0, .int .i64 0] := Row.new W.drew 85 _
    refine ⟨fun _ => hSa, ?_⟩
    refine wpM_one 0 rfl (by kernel_rfl) rfl ?_
    go_wp2_with fail
    refine Calls.mono (HN _).out ?_
    rintro _ w1 ⟨rfl, b1⟩
    have hS1 : Below W.heap.size W w1 := hSa.trans (b1.mono hSa.size)
    have kb := ka.below b1 ka.lt
    obtain ⟨y0, y1, y2, y3⟩ := kb.four
    have zf := kb.frozen
    have wl := kb.lt
    go_wp2_with fail
    refine ⟨fun _ => hS1, ?_⟩
    refine wpM_one 5 rfl (by kernel_rfl) rfl ?_
    go_wp2_with fail
    have hR5 := Row.set4 kb (.bool false) (.int .u64 0) (.int .u64 1) (.int .i64 0)
    have hB5 := below_set (below_set (below_set (below_set hS1 (B := W.heap.size) 0 (.bool false) (Nat.le_refl _)) (B := W.heap.size) 1 (.int .u64 0) (Nat.le_refl _)) (B := W.heap.size) 2 (.int .u64 1) (Nat.le_refl _)) (B := W.heap.size) 3 (.int .i64 0) (Nat.le_refl _)
    have hP : PW w ((((w1.setCell ⟨W.heap.size, 0, none⟩ (.bool false)).setCell ⟨W.heap.size, 1, none⟩ (.int .u64 0)).setCell ⟨W.heap.size, 2, none⟩ (.int .u64 1)).setCell ⟨W.heap.size, 3, none⟩ (.int .i64 0)) W.heap.size #[.bool xn, .int .u64 (hi : Int), .int .u64 m, .int .i64 xe] oneW.cells :=
      ⟨r0.below hB5 r0.lt, r1.below hB5 r1.lt, hR5, by omega, b0.trans (hB5.mono (by omega))⟩
    refine ⟨fun _ => hB5, ?_⟩
    refine wpM_one 6 rfl (by kernel_rfl) rfl ?_
    go_wp2_with fail
    refine ⟨fun h => absurd h (by decide), ?_⟩
    refine wpM_done (by kernel_rfl) ?_
    clear hS ca hS1 b1 r0 r1 b0 HN hSa ka kb y0 y1 y2 y3 zf wl hR5 hB5
    generalize W.heap.size = K at *
    generalize ((((w1.setCell ⟨K, 0, none⟩ (.bool false)).setCell ⟨K, 1, none⟩ (.int .u64 0)).setCell ⟨K, 2, none⟩ (.int .u64 1)).setCell ⟨K, 3, none⟩ (.int .i64 0)) = W5 at *
    go_wp2_with fail
    refine wp_loop_rounds 1 ?_
    rw [rounds_succ]
    obtain ⟨t0, t1, t2, t3⟩ := hP.2.1.four
    have tf := hP.2.1.frozen
    have tl := hP.2.1.lt
    have hR := Row.set4 hP.2.1 (.bool false) (.int .u64 0) (.int .u64 0) (.int .i64 0)
    have hB := below_set (below_set (below_set (below_set hP.2.2.2.2 (B := w.heap.size + 1) 0 (.bool false) (by omega)) (B := w.heap.size + 1) 1 (.int .u64 0) (by omega)) (B := w.heap.size + 1) 2 (.int .u64 0) (by omega)) (B := w.heap.size + 1) 3 (.int .i64 0) (by omega)
    clear hP
    go_wp2
    exact bodyPost_ret (ret_two (x := .bool false) rfl (g := w.heap.size + 1) rfl rfl (load57 hR rfl)) rfl ⟨⟨⟨false, 0, 0⟩, false, rfl, by decide, by decide, by decide, rfl⟩, hB⟩
end Go.Proofs.YtnhflnpjepiceaaGreatDoor
