import Derived.Test.YtgihginfegckcaaGreatDoorDtkM
import Derived.Test.YtgihginfegckcaaGreatDoorOrdM
/- bySize. -/
namespace Go.Proofs.YtgihginfegckcaaGreatDoor
open Go.RowKit

set_option maxRecDepth 100000 in
set_option maxHeartbeats 1000000 in
theorem bySize_raw (an bn : Bool) (ah al bh bl : Nat) (ae be : Int) (w : World) : Calls Tryz.prog 111 #[wv an ah al ae, wv bn bh bl be] w fun r w' =>
    r = .returned (.int .i64 (if cN ah bh ≠ 0 then cN ah bh else cN al bl)) ∧ Below w.heap.size w w' := by
  have k1 := cmpU ah bh
  have k2 := cmpU al bl
  have k3 := or2 (cN ah bh) (cN al bl)
  unfold wv
  generalize cN ah bh = x at *
  generalize cN al bl = y at *
  generalize (if x ≠ 0 then x else y) = z at *
  go_enter Tryz.func111, Tryz.ntmps111
  go_wp2_with fail
  have hA := (Row.new w 76 #[.bool an, .int .u64 (ah : Int), .int .u64 (al : Int), .int .i64 ae]).alloc (.cells #[.bool bn, .int .u64 (bh : Int), .int .u64 (bl : Int), .int .i64 be] 76)
  have hZ := Row.new1 w (.cells #[.bool an, .int .u64 (ah : Int), .int .u64 (al : Int), .int .i64 ae] 76) 76 #[.bool bn, .int .u64 (bh : Int), .int .u64 (bl : Int), .int .i64 be]
  have hB := ((Below.refl _ w).alloc (Nat.le_refl _) (.cells #[.bool an, .int .u64 (ah : Int), .int .u64 (al : Int), .int .i64 ae] 76)).alloc (by simp) (.cells #[.bool bn, .int .u64 (bh : Int), .int .u64 (bl : Int), .int .i64 be] 76)
  generalize (w.alloc (.cells #[.bool an, .int .u64 (ah : Int), .int .u64 (al : Int), .int .i64 ae] 76)).alloc (.cells #[.bool bn, .int .u64 (bh : Int), .int .u64 (bl : Int), .int .i64 be] 76) = W at *
  obtain ⟨a0, a1, a2, a3⟩ := hA.four
  obtain ⟨b0, b1, b2, b3⟩ := hZ.four
  have HD : W.drew = W.drew := rfl
  have hlt : w.heap.size < W.heap.size := hA.lt
  refine wp_region_M (fun wx : World => wx = W.drew) (fun j => decide (j < 10)) 13 rfl (by kernel_rfl) ?_
  refine wpM_held 0 (v := ?_) rfl (by kernel_rfl) (by kernel_rfl) rfl (fun _ _ _ h => h) rfl (by rintro wx rfl; go_simp <;> rfl) HD ?_
  refine wpM_held 1 (v := .int .u64 (ah : Int)) rfl (by kernel_rfl) (by kernel_rfl) rfl (fun _ _ _ h => h) rfl (by rintro wx rfl; go_simp <;> rfl) HD ?_
  refine wpM_held 2 (v := ?_) rfl (by kernel_rfl) (by kernel_rfl) rfl (fun _ _ _ h => h) rfl (by rintro wx rfl; go_simp <;> rfl) HD ?_
  refine wpM_held 3 (v := .int .u64 (bh : Int)) rfl (by kernel_rfl) (by kernel_rfl) rfl (fun _ _ _ h => h) rfl (by rintro wx rfl; go_simp <;> rfl) HD ?_
  refine wpM_held 5 (v := ?_) rfl (by kernel_rfl) (by kernel_rfl) rfl (fun _ _ _ h => h) rfl (by rintro wx rfl; go_simp <;> rfl) HD ?_
  refine wpM_held 6 (v := .int .u64 (al : Int)) rfl (by kernel_rfl) (by kernel_rfl) rfl (fun _ _ _ h => h) rfl (by rintro wx rfl; go_simp <;> rfl) HD ?_
  refine wpM_held 7 (v := ?_) rfl (by kernel_rfl) (by kernel_rfl) rfl (fun _ _ _ h => h) rfl (by rintro wx rfl; go_simp <;> rfl) HD ?_
  refine wpM_held 8 (v := .int .u64 (bl : Int)) rfl (by kernel_rfl) (by kernel_rfl) rfl (fun _ _ _ h => h) rfl (by rintro wx rfl; go_simp <;> rfl) HD ?_
  refine wpM_one 4 rfl (by kernel_rfl) rfl ?_
  go_wp2_with fail
  refine (k1 _).mono ?_
  rintro _ w1 ⟨rfl, h1⟩
  rw [h1]
  clear h1 w1
  go_wp2_with fail
  refine ⟨fun _ => rfl, ?_⟩
  refine wpM_one 9 rfl (by kernel_rfl) rfl ?_
  go_wp2_with fail
  refine (k2 _).mono ?_
  rintro _ w1 ⟨rfl, h1⟩
  rw [h1]
  clear h1 w1
  go_wp2_with fail
  refine ⟨fun _ => rfl, ?_⟩
  refine wpM_one 10 rfl (by kernel_rfl) rfl ?_
  go_wp2_with fail
  refine ⟨(fun h => by simp at h), ?_⟩
  refine wpM_one 11 rfl (by kernel_rfl) rfl ?_
  go_wp2_with fail
  refine (k3 W.heap.size _ (Row.new W.drew 3 _)).mono ?_
  rintro _ w1 ⟨rfl, h1⟩
  rw [h1]
  clear h1 w1
  go_wp2_with fail
  refine ⟨(fun h => by simp at h), ?_⟩
  refine wpM_one 12 rfl (by kernel_rfl) rfl ?_
  go_wp2_with fail
  refine ⟨(fun h => by simp at h), ?_⟩
  refine wpM_done (by kernel_rfl) ?_
  go_wp2
  go_ret
  exact ⟨rfl, (hB.trans (Below.refl _ W).drew).alloc (by show _ ≤ W.heap.size; omega) _⟩
theorem bySize_any (a b : Wd) (w : World) : Calls Tryz.prog 111 #[a.val, b.val] w fun r w' => r = .returned (.int .i64 (cN a.n b.n)) ∧ Below w.heap.size w w' := by
  refine (bySize_raw a.neg b.neg _ _ _ _ a.e b.e w).mono ?_
  rintro r w' ⟨rfl, hB⟩
  refine ⟨?_, hB⟩
  congr 2
  unfold cN
  repeat' split
  all_goals first | omega | contradiction | skip
end Go.Proofs.YtgihginfegckcaaGreatDoor
/- difference: two numbers of unlike signs. -/
namespace Go.Proofs.YtgihginfegckcaaGreatDoor
open Go.RowKit

set_option maxRecDepth 100000 in
set_option maxHeartbeats 1000000 in
theorem diff_ge (an bn : Bool) (ah al bh bl H L bo c2 : Nat) (ae be q : Int) (hk : ∀ w, Calls Tryz.prog 111 #[wv an ah al ae, wv bn bh bl be] w fun r w' => r = .returned (.int .i64 q) ∧ Below w.heap.size w w') (hq : ¬ q < 0)
    (s1 : ∀ w, (callFunc 112 #[.int .u64 (al : Int), .int .u64 (bl : Int), .int .u64 0]).run Tryz.prog w = .ok (.value (.tuple #[.int .u64 (L : Int), .int .u64 (bo : Int)])) w)
    (s2 : ∀ w, (callFunc 112 #[.int .u64 (ah : Int), .int .u64 (bh : Int), .int .u64 (bo : Int)]).run Tryz.prog w = .ok (.value (.tuple #[.int .u64 (H : Int), .int .u64 (c2 : Int)])) w) (w : World) :
    Calls Tryz.prog 80 #[wv an ah al ae, wv bn bh bl be] w fun r w' => r = .returned (wv an H L ae) ∧ Below w.heap.size w w' := by
  unfold wv at *
  go_enter Tryz.func80, Tryz.ntmps80
  go_wp2_with fail
  refine (hk _).mono ?_
  rintro _ w1 ⟨rfl, h1⟩
  obtain ⟨hA, hC, hZ, hB⟩ := three_rows w w1 _ _ _ _ _ _ h1
  obtain ⟨a0, a1, a2, a3⟩ := hA.four
  obtain ⟨b0, b1, b2, b3⟩ := hC.four
  obtain ⟨d0, d1, d2, d3⟩ := hZ.four
  have z1 := hZ.frozen
  clear h1 hk
  go_wp2
  refine bodyPost_ret (ret_one rfl (g := w.heap.size + 2) rfl (load57 (Row.set4 hZ _ _ _ _) rfl)) rfl ⟨rfl, ?_⟩
  repeat (refine below_set ?_ _ _ (by omega))
  exact hB
set_option maxRecDepth 100000 in
set_option maxHeartbeats 1000000 in
theorem diff_lt (an bn : Bool) (ah al bh bl H L bo c2 : Nat) (ae be q : Int) (hk : ∀ w, Calls Tryz.prog 111 #[wv an ah al ae, wv bn bh bl be] w fun r w' => r = .returned (.int .i64 q) ∧ Below w.heap.size w w') (hq : q < 0)
    (s1 : ∀ w, (callFunc 112 #[.int .u64 (bl : Int), .int .u64 (al : Int), .int .u64 0]).run Tryz.prog w = .ok (.value (.tuple #[.int .u64 (L : Int), .int .u64 (bo : Int)])) w)
    (s2 : ∀ w, (callFunc 112 #[.int .u64 (bh : Int), .int .u64 (ah : Int), .int .u64 (bo : Int)]).run Tryz.prog w = .ok (.value (.tuple #[.int .u64 (H : Int), .int .u64 (c2 : Int)])) w) (w : World) :
    Calls Tryz.prog 80 #[wv an ah al ae, wv bn bh bl be] w fun r w' => r = .returned (wv bn H L be) ∧ Below w.heap.size w w' := by
  unfold wv at *
  go_enter Tryz.func80, Tryz.ntmps80
  go_wp2_with fail
  refine (hk _).mono ?_
  rintro _ w1 ⟨rfl, h1⟩
  obtain ⟨hA, hC, hZ, hB⟩ := three_rows w w1 _ _ _ _ _ _ h1
  obtain ⟨a0, a1, a2, a3⟩ := hA.four
  obtain ⟨b0, b1, b2, b3⟩ := hC.four
  obtain ⟨d0, d1, d2, d3⟩ := hZ.four
  have z1 := hZ.frozen
  have z2 := hA.frozen
  have z3 := hC.frozen
  clear h1 hk
  go_wp2
  have hZ2 := (((((((hZ.off (B' := w.heap.size) 0 (.bool bn) (by omega)).off (B' := w.heap.size) 1 (.int .u64 (bh : Int)) (by omega)).off (B' := w.heap.size) 2 (.int .u64 (bl : Int)) (by omega)).off (B' := w.heap.size) 3 (.int .i64 be) (by omega)).off (B' := w.heap.size + 1) 0 (.bool an) (by omega)).off (B' := w.heap.size + 1) 1 (.int .u64 (ah : Int)) (by omega)).off (B' := w.heap.size + 1) 2 (.int .u64 (al : Int)) (by omega)).off (B' := w.heap.size + 1) 3 (.int .i64 ae) (by omega)
  refine bodyPost_ret (ret_one rfl (g := w.heap.size + 2) rfl (load57 (Row.set4 hZ2 _ _ _ _) rfl)) rfl ⟨rfl, ?_⟩
  repeat (refine below_set ?_ _ _ (by omega))
  exact hB
theorem diff_any (a b : Wd) (ha : a.n < M128) (hb : b.n < M128) (w : World) : Calls Tryz.prog 80 #[a.val, b.val] w fun r w' => r = .returned (diffW a b).val ∧ Below w.heap.size w w' := by
  have hk := bySize_any a b
  obtain ⟨an, x, ae⟩ := a
  obtain ⟨bn, y, be⟩ := b
  unfold M128 at ha hb
  simp only at ha hb
  unfold Wd.val at *
  simp only at *
  by_cases h : x < y
  · have e1 : diffW ⟨an, x, ae⟩ ⟨bn, y, be⟩ = ⟨bn, y - x, be⟩ := by unfold diffW; rw [if_pos h]
    rw [e1]
    have t1 := sub64 (y % 18446744073709551616) (x % 18446744073709551616) 0 (by omega)
    have t2 := sub64 (y / 18446744073709551616) (x / 18446744073709551616) (if y % 18446744073709551616 < x % 18446744073709551616 + 0 then 1 else 0) (by split <;> omega)
    simp only
    refine diff_lt an bn _ _ _ _ _ _ (if y % 18446744073709551616 < x % 18446744073709551616 + 0 then 1 else 0) (if y / 18446744073709551616 < x / 18446744073709551616 + (if y % 18446744073709551616 < x % 18446744073709551616 + 0 then 1 else 0) then 1 else 0) ae be _ hk (by unfold cN; rw [if_pos h]; omega) (fun w => ?_) (fun w => ?_) w
    · have := t1 w
      rw [show (y % 18446744073709551616 + 18446744073709551616 - x % 18446744073709551616 - 0) % 18446744073709551616 = (y - x) % 18446744073709551616 by omega] at this
      exact this
    · have := t2 w
      rw [show (y / 18446744073709551616 + 18446744073709551616 - x / 18446744073709551616 - (if y % 18446744073709551616 < x % 18446744073709551616 + 0 then 1 else 0)) % 18446744073709551616 = (y - x) / 18446744073709551616 by split <;> omega] at this
      exact this
  · have e1 : diffW ⟨an, x, ae⟩ ⟨bn, y, be⟩ = ⟨an, x - y, ae⟩ := by unfold diffW; rw [if_neg h]
    rw [e1]
    have t1 := sub64 (x % 18446744073709551616) (y % 18446744073709551616) 0 (by omega)
    have t2 := sub64 (x / 18446744073709551616) (y / 18446744073709551616) (if x % 18446744073709551616 < y % 18446744073709551616 + 0 then 1 else 0) (by split <;> omega)
    simp only
    refine diff_ge an bn _ _ _ _ _ _ (if x % 18446744073709551616 < y % 18446744073709551616 + 0 then 1 else 0) (if x / 18446744073709551616 < y / 18446744073709551616 + (if x % 18446744073709551616 < y % 18446744073709551616 + 0 then 1 else 0) then 1 else 0) ae be _ hk (by unfold cN; rw [if_neg h]; split <;> omega) (fun w => ?_) (fun w => ?_) w
    · have := t1 w
      rw [show (x % 18446744073709551616 + 18446744073709551616 - y % 18446744073709551616 - 0) % 18446744073709551616 = (x - y) % 18446744073709551616 by omega] at this
      exact this
    · have := t2 w
      rw [show (x / 18446744073709551616 + 18446744073709551616 - y / 18446744073709551616 - (if x % 18446744073709551616 < y % 18446744073709551616 + 0 then 1 else 0)) % 18446744073709551616 = (x - y) / 18446744073709551616 by split <;> omega] at this
      exact this
end Go.Proofs.YtgihginfegckcaaGreatDoor
/- sum: two numbers together. -/
namespace Go.Proofs.YtgihginfegckcaaGreatDoor
open Go.RowKit

theorem Row.off4 {W : World} {B : Nat} {t : TypeId} {cs : Array Value} (h : Row W B t cs) {B' : Nat} (hne : B ≠ B') (a b c d : Value) :
    Row ((((W.setCell ⟨B', 0, none⟩ a).setCell ⟨B', 1, none⟩ b).setCell ⟨B', 2, none⟩ c).setCell ⟨B', 3, none⟩ d) B t cs := (((h.off 0 a hne).off 1 b hne).off 2 c hne).off 3 d hne
theorem below_set4 {N : Nat} {x W : World} (h : Below N x W) {B' : Nat} (hN : N ≤ B') (a b c d : Value) :
    Below N x ((((W.setCell ⟨B', 0, none⟩ a).setCell ⟨B', 1, none⟩ b).setCell ⟨B', 2, none⟩ c).setCell ⟨B', 3, none⟩ d) := below_set (below_set (below_set (below_set h 0 a hN) 1 b hN) 2 c hN) 3 d hN
/-- What a way of two numbers answers: a number and whether it fits. -/
def WayR (o : Option Wd) (r : Ending) : Prop := ∃ (x : Wd) (b : Bool), r = .returned (.tuple #[x.val, .bool b]) ∧ x.n < M128 ∧ -9223372036854775808 ≤ x.e ∧ x.e ≤ 9223372036854775807 ∧ o = (if b then some x else none)
theorem lowW_some {x y : Wd} {t : Int} (h : lowW x t = some y) (hx : x.n < M128) : y.n < M128 ∧ y.neg = x.neg ∧ y.e ≤ t ∧ (y.e = x.e ∨ y.e = t) ∧ y.e ≤ x.e := by
  unfold lowW at h
  split at h
  · cases h; exact ⟨hx, rfl, by assumption, Or.inl rfl, Int.le_refl _⟩
  · split at h
    · cases h; exact ⟨by assumption, rfl, Int.le_refl _, Or.inr rfl, by simp only; omega⟩
    · cases h
def EOk (x : Wd) : Prop := -9223372036854775808 ≤ x.e ∧ x.e ≤ 9223372036854775807
set_option maxRecDepth 100000 in
set_option maxHeartbeats 600000 in
theorem sum_a0 (an bn : Bool) (ah al bh bl : Nat) (ae be : Int) (hza : ∀ w, Calls Tryz.prog 78 #[wv an ah al ae] w fun r w' => r = .returned (.bool true) ∧ Below w.heap.size w w') (w : World) :
    Calls Tryz.prog 50 #[wv an ah al ae, wv bn bh bl be] w fun r w' => r = .returned (.tuple #[wv bn bh bl be, .bool true]) ∧ Below w.heap.size w w' := by
  unfold wv at *

  go_enter Tryz.func50, Tryz.ntmps50
  go_wp2_with fail
  refine (hza _).mono ?_
  rintro _ w1 ⟨rfl, h1⟩
  obtain ⟨hA, hC, hZ, hB⟩ := three_rows w w1 _ _ _ _ _ _ h1
  obtain ⟨a0, a1, a2, a3⟩ := hA.four
  obtain ⟨b0, b1, b2, b3⟩ := hC.four
  obtain ⟨d0, d1, d2, d3⟩ := hZ.four
  have z1 := hA.frozen; have z2 := hC.frozen; have z3 := hZ.frozen
  clear h1 hza
  go_wp2
  refine bodyPost_ret (ret_two rfl (g := w.heap.size + 2) rfl rfl (load57 (Row.set4 hZ _ _ _ _) rfl)) rfl ⟨?_, ?_⟩
  · rfl
  · exact below_set4 hB (by omega) _ _ _ _
set_option maxRecDepth 100000 in
set_option maxHeartbeats 600000 in
theorem sum_b0 (an bn : Bool) (ah al bh bl : Nat) (ae be : Int) (hza : ∀ w, Calls Tryz.prog 78 #[wv an ah al ae] w fun r w' => r = .returned (.bool false) ∧ Below w.heap.size w w') (hzb : ∀ w, Calls Tryz.prog 78 #[wv bn bh bl be] w fun r w' => r = .returned (.bool true) ∧ Below w.heap.size w w') (w : World) :
    Calls Tryz.prog 50 #[wv an ah al ae, wv bn bh bl be] w fun r w' => r = .returned (.tuple #[wv an ah al ae, .bool true]) ∧ Below w.heap.size w w' := by
  unfold wv at *

  go_enter Tryz.func50, Tryz.ntmps50
  go_wp2_with fail
  refine (hza _).mono ?_
  rintro _ w1 ⟨rfl, h1⟩
  obtain ⟨hA, hC, hZ, hB⟩ := three_rows w w1 _ _ _ _ _ _ h1
  obtain ⟨a0, a1, a2, a3⟩ := hA.four
  obtain ⟨b0, b1, b2, b3⟩ := hC.four
  obtain ⟨d0, d1, d2, d3⟩ := hZ.four
  have z1 := hA.frozen; have z2 := hC.frozen; have z3 := hZ.frozen
  clear h1 hza
  go_wp2_with fail
  refine (hzb _).mono ?_
  rintro _ w2 ⟨rfl, h2⟩
  clear a0 a1 a2 a3 b0 b1 b2 b3 d0 d1 d2 d3 z1 z2 z3
  have hA := hA.below h2 hA.lt
  have hC := hC.below h2 hC.lt
  have hZ := hZ.below h2 hZ.lt
  have hB := hB.trans (h2.mono hB.size)
  obtain ⟨a0, a1, a2, a3⟩ := hA.four
  obtain ⟨b0, b1, b2, b3⟩ := hC.four
  obtain ⟨d0, d1, d2, d3⟩ := hZ.four
  have z1 := hA.frozen; have z2 := hC.frozen; have z3 := hZ.frozen
  clear h2 hzb
  go_wp2
  refine bodyPost_ret (ret_two rfl (g := w.heap.size + 2) rfl rfl (load57 (Row.set4 hZ _ _ _ _) rfl)) rfl ⟨?_, ?_⟩
  · rfl
  · exact below_set4 hB (by omega) _ _ _ _
set_option maxRecDepth 100000 in
set_option maxHeartbeats 600000 in
theorem sum_f1 (an bn : Bool) (ah al bh bl : Nat) (ae be : Int) (tn tb : Bool) (th tl : Nat) (te : Int) (hza : ∀ w, Calls Tryz.prog 78 #[wv an ah al ae] w fun r w' => r = .returned (.bool false) ∧ Below w.heap.size w w') (hzb : ∀ w, Calls Tryz.prog 78 #[wv bn bh bl be] w fun r w' => r = .returned (.bool false) ∧ Below w.heap.size w w') (hla : ∀ w, Calls Tryz.prog 79 #[wv an ah al ae, .int .i64 be] w fun r w' => r = .returned (.tuple #[.agg #[.bool false, .int .u64 0, .int .u64 0, .int .i64 0], .bool false]) ∧ Below w.heap.size w w') (hlb : ∀ w, Calls Tryz.prog 79 #[wv bn bh bl be, .int .i64 0] w fun r w' => r = .returned (.tuple #[wv tn th tl te, .bool tb]) ∧ Below w.heap.size w w') (w : World) :
    Calls Tryz.prog 50 #[wv an ah al ae, wv bn bh bl be] w fun r w' => r = .returned (.tuple #[.agg #[.bool false, .int .u64 0, .int .u64 0, .int .i64 0], .bool false]) ∧ Below w.heap.size w w' := by
  unfold wv at *

  go_enter Tryz.func50, Tryz.ntmps50
  go_wp2_with fail
  refine (hza _).mono ?_
  rintro _ w1 ⟨rfl, h1⟩
  obtain ⟨hA, hC, hZ, hB⟩ := three_rows w w1 _ _ _ _ _ _ h1
  obtain ⟨a0, a1, a2, a3⟩ := hA.four
  obtain ⟨b0, b1, b2, b3⟩ := hC.four
  obtain ⟨d0, d1, d2, d3⟩ := hZ.four
  have z1 := hA.frozen; have z2 := hC.frozen; have z3 := hZ.frozen
  clear h1 hza
  go_wp2_with fail
  refine (hzb _).mono ?_
  rintro _ w2 ⟨rfl, h2⟩
  clear a0 a1 a2 a3 b0 b1 b2 b3 d0 d1 d2 d3 z1 z2 z3
  have hA := hA.below h2 hA.lt
  have hC := hC.below h2 hC.lt
  have hZ := hZ.below h2 hZ.lt
  have hB := hB.trans (h2.mono hB.size)
  obtain ⟨a0, a1, a2, a3⟩ := hA.four
  obtain ⟨b0, b1, b2, b3⟩ := hC.four
  obtain ⟨d0, d1, d2, d3⟩ := hZ.four
  have z1 := hA.frozen; have z2 := hC.frozen; have z3 := hZ.frozen
  clear h2 hzb
  go_wp2_with fail
  refine (hla _).mono ?_
  rintro _ w3a ⟨rfl, h3⟩
  clear a0 a1 a2 a3 b0 b1 b2 b3 d0 d1 d2 d3 z1 z2 z3
  have hA := hA.below h3 hA.lt
  have hC := hC.below h3 hC.lt
  have hZ := hZ.below h3 hZ.lt
  have hB := hB.trans (h3.mono hB.size)
  obtain ⟨a0, a1, a2, a3⟩ := hA.four
  obtain ⟨b0, b1, b2, b3⟩ := hC.four
  obtain ⟨d0, d1, d2, d3⟩ := hZ.four
  have z1 := hA.frozen; have z2 := hC.frozen; have z3 := hZ.frozen
  clear h3 hla
  have hA := hA.set4 (.bool false) (.int .u64 0) (.int .u64 0) (.int .i64 0)
  have hC := hC.off4 (B' := w.heap.size) (by omega) (.bool false) (.int .u64 0) (.int .u64 0) (.int .i64 0)
  have hZ := hZ.off4 (B' := w.heap.size) (by omega) (.bool false) (.int .u64 0) (.int .u64 0) (.int .i64 0)
  have hB := below_set4 hB (B' := w.heap.size) (by omega) (.bool false) (.int .u64 0) (.int .u64 0) (.int .i64 0)
  go_wp2_with fail
  refine (hlb _).mono ?_
  rintro _ w3b ⟨rfl, h3⟩
  clear a0 a1 a2 a3 b0 b1 b2 b3 d0 d1 d2 d3 z1 z2 z3
  have hA := hA.below h3 hA.lt
  have hC := hC.below h3 hC.lt
  have hZ := hZ.below h3 hZ.lt
  have hB := hB.trans (h3.mono hB.size)
  obtain ⟨a0, a1, a2, a3⟩ := hA.four
  obtain ⟨b0, b1, b2, b3⟩ := hC.four
  obtain ⟨d0, d1, d2, d3⟩ := hZ.four
  have z1 := hA.frozen; have z2 := hC.frozen; have z3 := hZ.frozen
  clear h3 hlb
  have hC := hC.set4 (.bool tn) (.int .u64 (th : Int)) (.int .u64 (tl : Int)) (.int .i64 te)
  have hA := hA.off4 (B' := w.heap.size + 1) (by omega) (.bool tn) (.int .u64 (th : Int)) (.int .u64 (tl : Int)) (.int .i64 te)
  have hZ := hZ.off4 (B' := w.heap.size + 1) (by omega) (.bool tn) (.int .u64 (th : Int)) (.int .u64 (tl : Int)) (.int .i64 te)
  have hB := below_set4 hB (B' := w.heap.size + 1) (by omega) (.bool tn) (.int .u64 (th : Int)) (.int .u64 (tl : Int)) (.int .i64 te)
  go_wp2
  refine bodyPost_ret (ret_two rfl (g := w.heap.size + 2) rfl rfl (load57 (Row.set4 hZ _ _ _ _) rfl)) rfl ⟨?_, ?_⟩
  · rfl
  · exact below_set4 hB (by omega) _ _ _ _
set_option maxRecDepth 100000 in
set_option maxHeartbeats 600000 in
theorem sum_f2 (an bn : Bool) (ah al bh bl : Nat) (ae be : Int) (sn : Bool) (sh sl : Nat) (se : Int) (hza : ∀ w, Calls Tryz.prog 78 #[wv an ah al ae] w fun r w' => r = .returned (.bool false) ∧ Below w.heap.size w w') (hzb : ∀ w, Calls Tryz.prog 78 #[wv bn bh bl be] w fun r w' => r = .returned (.bool false) ∧ Below w.heap.size w w') (hla : ∀ w, Calls Tryz.prog 79 #[wv an ah al ae, .int .i64 be] w fun r w' => r = .returned (.tuple #[wv sn sh sl se, .bool true]) ∧ Below w.heap.size w w') (hlb : ∀ w, Calls Tryz.prog 79 #[wv bn bh bl be, .int .i64 se] w fun r w' => r = .returned (.tuple #[.agg #[.bool false, .int .u64 0, .int .u64 0, .int .i64 0], .bool false]) ∧ Below w.heap.size w w') (w : World) :
    Calls Tryz.prog 50 #[wv an ah al ae, wv bn bh bl be] w fun r w' => r = .returned (.tuple #[.agg #[.bool false, .int .u64 0, .int .u64 0, .int .i64 0], .bool false]) ∧ Below w.heap.size w w' := by
  unfold wv at *

  go_enter Tryz.func50, Tryz.ntmps50
  go_wp2_with fail
  refine (hza _).mono ?_
  rintro _ w1 ⟨rfl, h1⟩
  obtain ⟨hA, hC, hZ, hB⟩ := three_rows w w1 _ _ _ _ _ _ h1
  obtain ⟨a0, a1, a2, a3⟩ := hA.four
  obtain ⟨b0, b1, b2, b3⟩ := hC.four
  obtain ⟨d0, d1, d2, d3⟩ := hZ.four
  have z1 := hA.frozen; have z2 := hC.frozen; have z3 := hZ.frozen
  clear h1 hza
  go_wp2_with fail
  refine (hzb _).mono ?_
  rintro _ w2 ⟨rfl, h2⟩
  clear a0 a1 a2 a3 b0 b1 b2 b3 d0 d1 d2 d3 z1 z2 z3
  have hA := hA.below h2 hA.lt
  have hC := hC.below h2 hC.lt
  have hZ := hZ.below h2 hZ.lt
  have hB := hB.trans (h2.mono hB.size)
  obtain ⟨a0, a1, a2, a3⟩ := hA.four
  obtain ⟨b0, b1, b2, b3⟩ := hC.four
  obtain ⟨d0, d1, d2, d3⟩ := hZ.four
  have z1 := hA.frozen; have z2 := hC.frozen; have z3 := hZ.frozen
  clear h2 hzb
  go_wp2_with fail
  refine (hla _).mono ?_
  rintro _ w3a ⟨rfl, h3⟩
  clear a0 a1 a2 a3 b0 b1 b2 b3 d0 d1 d2 d3 z1 z2 z3
  have hA := hA.below h3 hA.lt
  have hC := hC.below h3 hC.lt
  have hZ := hZ.below h3 hZ.lt
  have hB := hB.trans (h3.mono hB.size)
  obtain ⟨a0, a1, a2, a3⟩ := hA.four
  obtain ⟨b0, b1, b2, b3⟩ := hC.four
  obtain ⟨d0, d1, d2, d3⟩ := hZ.four
  have z1 := hA.frozen; have z2 := hC.frozen; have z3 := hZ.frozen
  clear h3 hla
  have hA := hA.set4 (.bool sn) (.int .u64 (sh : Int)) (.int .u64 (sl : Int)) (.int .i64 se)
  have hC := hC.off4 (B' := w.heap.size) (by omega) (.bool sn) (.int .u64 (sh : Int)) (.int .u64 (sl : Int)) (.int .i64 se)
  have hZ := hZ.off4 (B' := w.heap.size) (by omega) (.bool sn) (.int .u64 (sh : Int)) (.int .u64 (sl : Int)) (.int .i64 se)
  have hB := below_set4 hB (B' := w.heap.size) (by omega) (.bool sn) (.int .u64 (sh : Int)) (.int .u64 (sl : Int)) (.int .i64 se)
  go_wp2_with fail
  refine (hlb _).mono ?_
  rintro _ w3b ⟨rfl, h3⟩
  clear a0 a1 a2 a3 b0 b1 b2 b3 d0 d1 d2 d3 z1 z2 z3
  have hA := hA.below h3 hA.lt
  have hC := hC.below h3 hC.lt
  have hZ := hZ.below h3 hZ.lt
  have hB := hB.trans (h3.mono hB.size)
  obtain ⟨a0, a1, a2, a3⟩ := hA.four
  obtain ⟨b0, b1, b2, b3⟩ := hC.four
  obtain ⟨d0, d1, d2, d3⟩ := hZ.four
  have z1 := hA.frozen; have z2 := hC.frozen; have z3 := hZ.frozen
  clear h3 hlb
  have hC := hC.set4 (.bool false) (.int .u64 0) (.int .u64 0) (.int .i64 0)
  have hA := hA.off4 (B' := w.heap.size + 1) (by omega) (.bool false) (.int .u64 0) (.int .u64 0) (.int .i64 0)
  have hZ := hZ.off4 (B' := w.heap.size + 1) (by omega) (.bool false) (.int .u64 0) (.int .u64 0) (.int .i64 0)
  have hB := below_set4 hB (B' := w.heap.size + 1) (by omega) (.bool false) (.int .u64 0) (.int .u64 0) (.int .i64 0)
  go_wp2
  refine bodyPost_ret (ret_two rfl (g := w.heap.size + 2) rfl rfl (load57 (Row.set4 hZ _ _ _ _) rfl)) rfl ⟨?_, ?_⟩
  · rfl
  · exact below_set4 hB (by omega) _ _ _ _
set_option maxRecDepth 100000 in
set_option maxHeartbeats 600000 in
theorem sum_tf (an bn : Bool) (ah al bh bl : Nat) (ae be : Int) (dn : Bool) (sh sl th tl dh dl : Nat) (se te de : Int) (hza : ∀ w, Calls Tryz.prog 78 #[wv an ah al ae] w fun r w' => r = .returned (.bool false) ∧ Below w.heap.size w w') (hzb : ∀ w, Calls Tryz.prog 78 #[wv bn bh bl be] w fun r w' => r = .returned (.bool false) ∧ Below w.heap.size w w') (hla : ∀ w, Calls Tryz.prog 79 #[wv an ah al ae, .int .i64 be] w fun r w' => r = .returned (.tuple #[wv true sh sl se, .bool true]) ∧ Below w.heap.size w w') (hlb : ∀ w, Calls Tryz.prog 79 #[wv bn bh bl be, .int .i64 se] w fun r w' => r = .returned (.tuple #[wv false th tl te, .bool true]) ∧ Below w.heap.size w w') (hd : ∀ w, Calls Tryz.prog 80 #[wv true sh sl se, wv false th tl te] w fun r w' => r = .returned (wv dn dh dl de) ∧ Below w.heap.size w w') (w : World) :
    Calls Tryz.prog 50 #[wv an ah al ae, wv bn bh bl be] w fun r w' => r = .returned (.tuple #[wv dn dh dl de, .bool true]) ∧ Below w.heap.size w w' := by
  unfold wv at *

  go_enter Tryz.func50, Tryz.ntmps50
  go_wp2_with fail
  refine (hza _).mono ?_
  rintro _ w1 ⟨rfl, h1⟩
  obtain ⟨hA, hC, hZ, hB⟩ := three_rows w w1 _ _ _ _ _ _ h1
  obtain ⟨a0, a1, a2, a3⟩ := hA.four
  obtain ⟨b0, b1, b2, b3⟩ := hC.four
  obtain ⟨d0, d1, d2, d3⟩ := hZ.four
  have z1 := hA.frozen; have z2 := hC.frozen; have z3 := hZ.frozen
  clear h1 hza
  go_wp2_with fail
  refine (hzb _).mono ?_
  rintro _ w2 ⟨rfl, h2⟩
  clear a0 a1 a2 a3 b0 b1 b2 b3 d0 d1 d2 d3 z1 z2 z3
  have hA := hA.below h2 hA.lt
  have hC := hC.below h2 hC.lt
  have hZ := hZ.below h2 hZ.lt
  have hB := hB.trans (h2.mono hB.size)
  obtain ⟨a0, a1, a2, a3⟩ := hA.four
  obtain ⟨b0, b1, b2, b3⟩ := hC.four
  obtain ⟨d0, d1, d2, d3⟩ := hZ.four
  have z1 := hA.frozen; have z2 := hC.frozen; have z3 := hZ.frozen
  clear h2 hzb
  go_wp2_with fail
  refine (hla _).mono ?_
  rintro _ w3a ⟨rfl, h3⟩
  clear a0 a1 a2 a3 b0 b1 b2 b3 d0 d1 d2 d3 z1 z2 z3
  have hA := hA.below h3 hA.lt
  have hC := hC.below h3 hC.lt
  have hZ := hZ.below h3 hZ.lt
  have hB := hB.trans (h3.mono hB.size)
  obtain ⟨a0, a1, a2, a3⟩ := hA.four
  obtain ⟨b0, b1, b2, b3⟩ := hC.four
  obtain ⟨d0, d1, d2, d3⟩ := hZ.four
  have z1 := hA.frozen; have z2 := hC.frozen; have z3 := hZ.frozen
  clear h3 hla
  have hA := hA.set4 (.bool true) (.int .u64 (sh : Int)) (.int .u64 (sl : Int)) (.int .i64 se)
  have hC := hC.off4 (B' := w.heap.size) (by omega) (.bool true) (.int .u64 (sh : Int)) (.int .u64 (sl : Int)) (.int .i64 se)
  have hZ := hZ.off4 (B' := w.heap.size) (by omega) (.bool true) (.int .u64 (sh : Int)) (.int .u64 (sl : Int)) (.int .i64 se)
  have hB := below_set4 hB (B' := w.heap.size) (by omega) (.bool true) (.int .u64 (sh : Int)) (.int .u64 (sl : Int)) (.int .i64 se)
  go_wp2_with fail
  refine (hlb _).mono ?_
  rintro _ w3b ⟨rfl, h3⟩
  clear a0 a1 a2 a3 b0 b1 b2 b3 d0 d1 d2 d3 z1 z2 z3
  have hA := hA.below h3 hA.lt
  have hC := hC.below h3 hC.lt
  have hZ := hZ.below h3 hZ.lt
  have hB := hB.trans (h3.mono hB.size)
  obtain ⟨a0, a1, a2, a3⟩ := hA.four
  obtain ⟨b0, b1, b2, b3⟩ := hC.four
  obtain ⟨d0, d1, d2, d3⟩ := hZ.four
  have z1 := hA.frozen; have z2 := hC.frozen; have z3 := hZ.frozen
  clear h3 hlb
  have hC := hC.set4 (.bool false) (.int .u64 (th : Int)) (.int .u64 (tl : Int)) (.int .i64 te)
  have hA := hA.off4 (B' := w.heap.size + 1) (by omega) (.bool false) (.int .u64 (th : Int)) (.int .u64 (tl : Int)) (.int .i64 te)
  have hZ := hZ.off4 (B' := w.heap.size + 1) (by omega) (.bool false) (.int .u64 (th : Int)) (.int .u64 (tl : Int)) (.int .i64 te)
  have hB := below_set4 hB (B' := w.heap.size + 1) (by omega) (.bool false) (.int .u64 (th : Int)) (.int .u64 (tl : Int)) (.int .i64 te)
  go_wp2_with fail
  refine (hd _).mono ?_
  rintro _ w5 ⟨rfl, h5⟩
  have hZ := hZ.below h5 hZ.lt
  have hB := hB.trans (h5.mono hB.size)
  clear a0 a1 a2 a3 b0 b1 b2 b3 d0 d1 d2 d3 z1 z2 z3 h5 hd
  obtain ⟨d0, d1, d2, d3⟩ := hZ.four
  have z3 := hZ.frozen
  go_wp2
  refine bodyPost_ret (ret_two rfl (g := w.heap.size + 2) rfl rfl (load57 (Row.set4 hZ _ _ _ _) rfl)) rfl ⟨?_, ?_⟩
  · rfl
  · exact below_set4 hB (by omega) _ _ _ _
set_option maxRecDepth 100000 in
set_option maxHeartbeats 600000 in
theorem sum_ft (an bn : Bool) (ah al bh bl : Nat) (ae be : Int) (dn : Bool) (sh sl th tl dh dl : Nat) (se te de : Int) (hza : ∀ w, Calls Tryz.prog 78 #[wv an ah al ae] w fun r w' => r = .returned (.bool false) ∧ Below w.heap.size w w') (hzb : ∀ w, Calls Tryz.prog 78 #[wv bn bh bl be] w fun r w' => r = .returned (.bool false) ∧ Below w.heap.size w w') (hla : ∀ w, Calls Tryz.prog 79 #[wv an ah al ae, .int .i64 be] w fun r w' => r = .returned (.tuple #[wv false sh sl se, .bool true]) ∧ Below w.heap.size w w') (hlb : ∀ w, Calls Tryz.prog 79 #[wv bn bh bl be, .int .i64 se] w fun r w' => r = .returned (.tuple #[wv true th tl te, .bool true]) ∧ Below w.heap.size w w') (hd : ∀ w, Calls Tryz.prog 80 #[wv false sh sl se, wv true th tl te] w fun r w' => r = .returned (wv dn dh dl de) ∧ Below w.heap.size w w') (w : World) :
    Calls Tryz.prog 50 #[wv an ah al ae, wv bn bh bl be] w fun r w' => r = .returned (.tuple #[wv dn dh dl de, .bool true]) ∧ Below w.heap.size w w' := by
  unfold wv at *

  go_enter Tryz.func50, Tryz.ntmps50
  go_wp2_with fail
  refine (hza _).mono ?_
  rintro _ w1 ⟨rfl, h1⟩
  obtain ⟨hA, hC, hZ, hB⟩ := three_rows w w1 _ _ _ _ _ _ h1
  obtain ⟨a0, a1, a2, a3⟩ := hA.four
  obtain ⟨b0, b1, b2, b3⟩ := hC.four
  obtain ⟨d0, d1, d2, d3⟩ := hZ.four
  have z1 := hA.frozen; have z2 := hC.frozen; have z3 := hZ.frozen
  clear h1 hza
  go_wp2_with fail
  refine (hzb _).mono ?_
  rintro _ w2 ⟨rfl, h2⟩
  clear a0 a1 a2 a3 b0 b1 b2 b3 d0 d1 d2 d3 z1 z2 z3
  have hA := hA.below h2 hA.lt
  have hC := hC.below h2 hC.lt
  have hZ := hZ.below h2 hZ.lt
  have hB := hB.trans (h2.mono hB.size)
  obtain ⟨a0, a1, a2, a3⟩ := hA.four
  obtain ⟨b0, b1, b2, b3⟩ := hC.four
  obtain ⟨d0, d1, d2, d3⟩ := hZ.four
  have z1 := hA.frozen; have z2 := hC.frozen; have z3 := hZ.frozen
  clear h2 hzb
  go_wp2_with fail
  refine (hla _).mono ?_
  rintro _ w3a ⟨rfl, h3⟩
  clear a0 a1 a2 a3 b0 b1 b2 b3 d0 d1 d2 d3 z1 z2 z3
  have hA := hA.below h3 hA.lt
  have hC := hC.below h3 hC.lt
  have hZ := hZ.below h3 hZ.lt
  have hB := hB.trans (h3.mono hB.size)
  obtain ⟨a0, a1, a2, a3⟩ := hA.four
  obtain ⟨b0, b1, b2, b3⟩ := hC.four
  obtain ⟨d0, d1, d2, d3⟩ := hZ.four
  have z1 := hA.frozen; have z2 := hC.frozen; have z3 := hZ.frozen
  clear h3 hla
  have hA := hA.set4 (.bool false) (.int .u64 (sh : Int)) (.int .u64 (sl : Int)) (.int .i64 se)
  have hC := hC.off4 (B' := w.heap.size) (by omega) (.bool false) (.int .u64 (sh : Int)) (.int .u64 (sl : Int)) (.int .i64 se)
  have hZ := hZ.off4 (B' := w.heap.size) (by omega) (.bool false) (.int .u64 (sh : Int)) (.int .u64 (sl : Int)) (.int .i64 se)
  have hB := below_set4 hB (B' := w.heap.size) (by omega) (.bool false) (.int .u64 (sh : Int)) (.int .u64 (sl : Int)) (.int .i64 se)
  go_wp2_with fail
  refine (hlb _).mono ?_
  rintro _ w3b ⟨rfl, h3⟩
  clear a0 a1 a2 a3 b0 b1 b2 b3 d0 d1 d2 d3 z1 z2 z3
  have hA := hA.below h3 hA.lt
  have hC := hC.below h3 hC.lt
  have hZ := hZ.below h3 hZ.lt
  have hB := hB.trans (h3.mono hB.size)
  obtain ⟨a0, a1, a2, a3⟩ := hA.four
  obtain ⟨b0, b1, b2, b3⟩ := hC.four
  obtain ⟨d0, d1, d2, d3⟩ := hZ.four
  have z1 := hA.frozen; have z2 := hC.frozen; have z3 := hZ.frozen
  clear h3 hlb
  have hC := hC.set4 (.bool true) (.int .u64 (th : Int)) (.int .u64 (tl : Int)) (.int .i64 te)
  have hA := hA.off4 (B' := w.heap.size + 1) (by omega) (.bool true) (.int .u64 (th : Int)) (.int .u64 (tl : Int)) (.int .i64 te)
  have hZ := hZ.off4 (B' := w.heap.size + 1) (by omega) (.bool true) (.int .u64 (th : Int)) (.int .u64 (tl : Int)) (.int .i64 te)
  have hB := below_set4 hB (B' := w.heap.size + 1) (by omega) (.bool true) (.int .u64 (th : Int)) (.int .u64 (tl : Int)) (.int .i64 te)
  go_wp2_with fail
  refine (hd _).mono ?_
  rintro _ w5 ⟨rfl, h5⟩
  have hZ := hZ.below h5 hZ.lt
  have hB := hB.trans (h5.mono hB.size)
  clear a0 a1 a2 a3 b0 b1 b2 b3 d0 d1 d2 d3 z1 z2 z3 h5 hd
  obtain ⟨d0, d1, d2, d3⟩ := hZ.four
  have z3 := hZ.frozen
  go_wp2
  refine bodyPost_ret (ret_two rfl (g := w.heap.size + 2) rfl rfl (load57 (Row.set4 hZ _ _ _ _) rfl)) rfl ⟨?_, ?_⟩
  · rfl
  · exact below_set4 hB (by omega) _ _ _ _
set_option maxRecDepth 100000 in
set_option maxHeartbeats 600000 in
theorem sum_ad (an bn : Bool) (ah al bh bl : Nat) (ae be : Int) (sn : Bool) (sh sl th tl H L cy ov : Nat) (se te : Int) (hza : ∀ w, Calls Tryz.prog 78 #[wv an ah al ae] w fun r w' => r = .returned (.bool false) ∧ Below w.heap.size w w') (hzb : ∀ w, Calls Tryz.prog 78 #[wv bn bh bl be] w fun r w' => r = .returned (.bool false) ∧ Below w.heap.size w w') (hla : ∀ w, Calls Tryz.prog 79 #[wv an ah al ae, .int .i64 be] w fun r w' => r = .returned (.tuple #[wv sn sh sl se, .bool true]) ∧ Below w.heap.size w w') (hlb : ∀ w, Calls Tryz.prog 79 #[wv bn bh bl be, .int .i64 se] w fun r w' => r = .returned (.tuple #[wv sn th tl te, .bool true]) ∧ Below w.heap.size w w') (s1 : ∀ w, (callFunc 81 #[.int .u64 (sl : Int), .int .u64 (tl : Int), .int .u64 0]).run Tryz.prog w = .ok (.value (.tuple #[.int .u64 (L : Int), .int .u64 (cy : Int)])) w) (s2 : ∀ w, (callFunc 81 #[.int .u64 (sh : Int), .int .u64 (th : Int), .int .u64 (cy : Int)]).run Tryz.prog w = .ok (.value (.tuple #[.int .u64 (H : Int), .int .u64 (ov : Int)])) w) (w : World) :
    Calls Tryz.prog 50 #[wv an ah al ae, wv bn bh bl be] w fun r w' => r = .returned (.tuple #[wv sn H L se, .bool ((ov : Int) == 0)]) ∧ Below w.heap.size w w' := by
  unfold wv at *

  go_enter Tryz.func50, Tryz.ntmps50
  go_wp2_with fail
  refine (hza _).mono ?_
  rintro _ w1 ⟨rfl, h1⟩
  obtain ⟨hA, hC, hZ, hB⟩ := three_rows w w1 _ _ _ _ _ _ h1
  obtain ⟨a0, a1, a2, a3⟩ := hA.four
  obtain ⟨b0, b1, b2, b3⟩ := hC.four
  obtain ⟨d0, d1, d2, d3⟩ := hZ.four
  have z1 := hA.frozen; have z2 := hC.frozen; have z3 := hZ.frozen
  clear h1 hza
  go_wp2_with fail
  refine (hzb _).mono ?_
  rintro _ w2 ⟨rfl, h2⟩
  clear a0 a1 a2 a3 b0 b1 b2 b3 d0 d1 d2 d3 z1 z2 z3
  have hA := hA.below h2 hA.lt
  have hC := hC.below h2 hC.lt
  have hZ := hZ.below h2 hZ.lt
  have hB := hB.trans (h2.mono hB.size)
  obtain ⟨a0, a1, a2, a3⟩ := hA.four
  obtain ⟨b0, b1, b2, b3⟩ := hC.four
  obtain ⟨d0, d1, d2, d3⟩ := hZ.four
  have z1 := hA.frozen; have z2 := hC.frozen; have z3 := hZ.frozen
  clear h2 hzb
  go_wp2_with fail
  refine (hla _).mono ?_
  rintro _ w3a ⟨rfl, h3⟩
  clear a0 a1 a2 a3 b0 b1 b2 b3 d0 d1 d2 d3 z1 z2 z3
  have hA := hA.below h3 hA.lt
  have hC := hC.below h3 hC.lt
  have hZ := hZ.below h3 hZ.lt
  have hB := hB.trans (h3.mono hB.size)
  obtain ⟨a0, a1, a2, a3⟩ := hA.four
  obtain ⟨b0, b1, b2, b3⟩ := hC.four
  obtain ⟨d0, d1, d2, d3⟩ := hZ.four
  have z1 := hA.frozen; have z2 := hC.frozen; have z3 := hZ.frozen
  clear h3 hla
  have hA := hA.set4 (.bool sn) (.int .u64 (sh : Int)) (.int .u64 (sl : Int)) (.int .i64 se)
  have hC := hC.off4 (B' := w.heap.size) (by omega) (.bool sn) (.int .u64 (sh : Int)) (.int .u64 (sl : Int)) (.int .i64 se)
  have hZ := hZ.off4 (B' := w.heap.size) (by omega) (.bool sn) (.int .u64 (sh : Int)) (.int .u64 (sl : Int)) (.int .i64 se)
  have hB := below_set4 hB (B' := w.heap.size) (by omega) (.bool sn) (.int .u64 (sh : Int)) (.int .u64 (sl : Int)) (.int .i64 se)
  go_wp2_with fail
  refine (hlb _).mono ?_
  rintro _ w3b ⟨rfl, h3⟩
  clear a0 a1 a2 a3 b0 b1 b2 b3 d0 d1 d2 d3 z1 z2 z3
  have hA := hA.below h3 hA.lt
  have hC := hC.below h3 hC.lt
  have hZ := hZ.below h3 hZ.lt
  have hB := hB.trans (h3.mono hB.size)
  obtain ⟨a0, a1, a2, a3⟩ := hA.four
  obtain ⟨b0, b1, b2, b3⟩ := hC.four
  obtain ⟨d0, d1, d2, d3⟩ := hZ.four
  have z1 := hA.frozen; have z2 := hC.frozen; have z3 := hZ.frozen
  clear h3 hlb
  have hC := hC.set4 (.bool sn) (.int .u64 (th : Int)) (.int .u64 (tl : Int)) (.int .i64 te)
  have hA := hA.off4 (B' := w.heap.size + 1) (by omega) (.bool sn) (.int .u64 (th : Int)) (.int .u64 (tl : Int)) (.int .i64 te)
  have hZ := hZ.off4 (B' := w.heap.size + 1) (by omega) (.bool sn) (.int .u64 (th : Int)) (.int .u64 (tl : Int)) (.int .i64 te)
  have hB := below_set4 hB (B' := w.heap.size + 1) (by omega) (.bool sn) (.int .u64 (th : Int)) (.int .u64 (tl : Int)) (.int .i64 te)
  go_wp2
  refine bodyPost_ret (ret_two rfl (g := w.heap.size + 2) rfl rfl (load57 (Row.set4 hZ _ _ _ _) rfl)) rfl ⟨?_, ?_⟩
  · rfl
  · exact below_set4 hB (by omega) _ _ _ _
end Go.Proofs.YtgihginfegckcaaGreatDoor
/- sum, less, product: what they answer. -/
namespace Go.Proofs.YtgihginfegckcaaGreatDoor
open Go.RowKit

theorem wayR_some {x : Wd} (h : x.n < M128) (he : EOk x) : WayR (some x) (.returned (.tuple #[x.val, .bool true])) := ⟨x, true, rfl, h, he.1, he.2, rfl⟩
theorem wayR_none : WayR none (.returned (.tuple #[.agg #[.bool false, .int .u64 0, .int .u64 0, .int .i64 0], .bool false])) := ⟨⟨false, 0, 0⟩, false, rfl, by decide, by decide, by decide, rfl⟩
theorem low_val (x : Wd) (t : Int) (h : x.n < M128) (he : EOk x) (ht : -9223372036854775808 ≤ t) :
    (lowW x t = none ∧ ∀ w, Calls Tryz.prog 79 #[x.val, .int .i64 t] w fun r w' => r = .returned (.tuple #[.agg #[.bool false, .int .u64 0, .int .u64 0, .int .i64 0], .bool false]) ∧ Below w.heap.size w w') ∨
    ∃ y, lowW x t = some y ∧ ∀ w, Calls Tryz.prog 79 #[x.val, .int .i64 t] w fun r w' => r = .returned (.tuple #[y.val, .bool true]) ∧ Below w.heap.size w w' := by
  have := lowered_any x t h he.2 he.1 ht
  cases hl : lowW x t with
  | none => rw [hl] at this; exact Or.inl ⟨rfl, this⟩
  | some y => rw [hl] at this; exact Or.inr ⟨y, rfl, this⟩
theorem sum_any (a b : Wd) (ha : a.n < M128) (hb : b.n < M128) (ea : EOk a) (eb : EOk b) (w : World) :
    Calls Tryz.prog 50 #[a.val, b.val] w fun r w' => WayR (sumW a b) r ∧ Below w.heap.size w w' := by
  have hza := zero_W a
  have hzb := zero_W b
  unfold sumW
  by_cases ha0 : a.n = 0
  · rw [decide_eq_true ha0] at hza
    rw [if_pos ha0]
    refine (sum_a0 a.neg b.neg _ _ _ _ a.e b.e hza w).mono ?_
    rintro r w' ⟨rfl, hB⟩
    exact ⟨wayR_some hb eb, hB⟩
  · rw [decide_eq_false ha0] at hza
    rw [if_neg ha0]
    by_cases hb0 : b.n = 0
    · rw [decide_eq_true hb0] at hzb
      rw [if_pos hb0]
      refine (sum_b0 a.neg b.neg _ _ _ _ a.e b.e hza hzb w).mono ?_
      rintro r w' ⟨rfl, hB⟩
      exact ⟨wayR_some ha ea, hB⟩
    · rw [decide_eq_false hb0] at hzb
      rw [if_neg hb0]
      rcases low_val a b.e ha ea eb.1 with ⟨hl, hla⟩ | ⟨a', hl, hla⟩
      · rw [hl]
        simp only
        rcases low_val b 0 hb eb (by omega) with ⟨_, hlb⟩ | ⟨y, _, hlb⟩
        · refine (sum_f1 a.neg b.neg _ _ _ _ a.e b.e false false 0 0 0 hza hzb hla hlb w).mono ?_
          rintro r w' ⟨rfl, hB⟩
          exact ⟨wayR_none, hB⟩
        · refine (sum_f1 a.neg b.neg _ _ _ _ a.e b.e y.neg true _ _ y.e hza hzb hla hlb w).mono ?_
          rintro r w' ⟨rfl, hB⟩
          exact ⟨wayR_none, hB⟩
      · rw [hl]
        simp only
        obtain ⟨p1, p2, p3, p4, p5⟩ := lowW_some hl ha
        have ea' : EOk a' := by unfold EOk at *; omega
        rcases low_val b a'.e hb eb ea'.1 with ⟨hl2, hlb⟩ | ⟨b', hl2, hlb⟩
        · rw [hl2]
          simp only
          refine (sum_f2 a.neg b.neg _ _ _ _ a.e b.e a'.neg _ _ a'.e hza hzb hla hlb w).mono ?_
          rintro r w' ⟨rfl, hB⟩
          exact ⟨wayR_none, hB⟩
        · rw [hl2]
          simp only
          obtain ⟨q1, q2, q3, q4, q5⟩ := lowW_some hl2 hb
          have eb' : EOk b' := by unfold EOk at *; omega
          unfold addW
          by_cases hs : a'.neg = b'.neg
          · rw [if_pos hs]
            have t1 := add64 (a'.n % 18446744073709551616) (b'.n % 18446744073709551616) 0 (by omega)
            have t2 := add64 (a'.n / 18446744073709551616) (b'.n / 18446744073709551616) ((a'.n % 18446744073709551616 + b'.n % 18446744073709551616 + 0) / 18446744073709551616) (by omega)
            unfold M128 at p1 q1
            have hlb' : ∀ w, Calls Tryz.prog 79 #[b.val, .int .i64 a'.e] w fun r w' => r = .returned (.tuple #[wv a'.neg (b'.n / 18446744073709551616) (b'.n % 18446744073709551616) b'.e, .bool true]) ∧ Below w.heap.size w w' := by rw [hs]; exact hlb
            refine (sum_ad a.neg b.neg _ _ _ _ a.e b.e a'.neg _ _ _ _ _ _ _ _ a'.e b'.e hza hzb hla hlb' t1 t2 w).mono ?_
            rintro r w' ⟨rfl, hB⟩
            refine ⟨?_, hB⟩
            have e1 : (a'.n % 18446744073709551616 + b'.n % 18446744073709551616 + 0) % 18446744073709551616 = ((a'.n + b'.n) % 340282366920938463463374607431768211456) % 18446744073709551616 := by omega
            have e2 : (a'.n / 18446744073709551616 + b'.n / 18446744073709551616 + (a'.n % 18446744073709551616 + b'.n % 18446744073709551616 + 0) / 18446744073709551616) % 18446744073709551616 = ((a'.n + b'.n) % 340282366920938463463374607431768211456) / 18446744073709551616 := by omega
            rw [e1, e2]
            refine ⟨⟨a'.neg, (a'.n + b'.n) % 340282366920938463463374607431768211456, a'.e⟩, decide (a'.n + b'.n < M128), ?_, ?_, ea'.1, ea'.2, ?_⟩
            · congr 4
              unfold M128
              by_cases hc : a'.n + b'.n < 340282366920938463463374607431768211456
              · rw [show (a'.n / 18446744073709551616 + b'.n / 18446744073709551616 + (a'.n % 18446744073709551616 + b'.n % 18446744073709551616 + 0) / 18446744073709551616) / 18446744073709551616 = 0 by omega]
                simp [hc]
              · rw [show (a'.n / 18446744073709551616 + b'.n / 18446744073709551616 + (a'.n % 18446744073709551616 + b'.n % 18446744073709551616 + 0) / 18446744073709551616) / 18446744073709551616 = 1 by omega]
                simp [hc]
            · show (a'.n + b'.n) % 340282366920938463463374607431768211456 < M128
              unfold M128; omega
            · by_cases hc : a'.n + b'.n < M128
              · rw [if_pos hc, decide_eq_true hc]
                simp only [if_true]
                unfold M128 at hc
                rw [Nat.mod_eq_of_lt hc]
              · rw [if_neg hc, decide_eq_false hc]
                simp
          · rw [if_neg hs]
            have hd := diff_any a' b' p1 q1
            have hdn : (diffW a' b').n < M128 ∧ EOk (diffW a' b') := by
              unfold diffW EOk at *
              split <;> (simp only; omega)
            cases hna : a'.neg <;> cases hnb : b'.neg
            · exact absurd (hna.trans hnb.symm) hs
            · unfold Wd.val at hla hlb hd
              rw [hna] at hla hd
              rw [hnb] at hlb hd
              refine (sum_ft a.neg b.neg _ _ _ _ a.e b.e _ _ _ _ _ _ _ a'.e b'.e _ hza hzb hla hlb hd w).mono ?_
              rintro r w' ⟨rfl, hB⟩
              exact ⟨wayR_some hdn.1 hdn.2, hB⟩
            · unfold Wd.val at hla hlb hd
              rw [hna] at hla hd
              rw [hnb] at hlb hd
              refine (sum_tf a.neg b.neg _ _ _ _ a.e b.e _ _ _ _ _ _ _ a'.e b'.e _ hza hzb hla hlb hd w).mono ?_
              rintro r w' ⟨rfl, hB⟩
              exact ⟨wayR_some hdn.1 hdn.2, hB⟩
            · exact absurd (hna.trans hnb.symm) hs
end Go.Proofs.YtgihginfegckcaaGreatDoor
