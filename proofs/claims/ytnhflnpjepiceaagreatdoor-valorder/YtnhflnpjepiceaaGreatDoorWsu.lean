import Derived.Test.YtnhflnpjepiceaaGreatDoorWbsM
/- sum: two numbers together. -/
namespace Go.Proofs.YtnhflnpjepiceaaGreatDoor
open Go.RowKit

theorem Row.off4 {W : World} {B : Nat} {t : TypeId} {cs : Array Value} (h : Row W B t cs) {B' : Nat} (hne : B ≠ B') (a b c d : Value) :
    Row ((((W.setCell ⟨B', 0, none⟩ a).setCell ⟨B', 1, none⟩ b).setCell ⟨B', 2, none⟩ c).setCell ⟨B', 3, none⟩ d) B t cs := (((h.off 0 a hne).off 1 b hne).off 2 c hne).off 3 d hne
theorem below_set4 {N : Nat} {x W : World} (h : Below N x W) {B' : Nat} (hN : N ≤ B') (a b c d : Value) :
    Below N x ((((W.setCell ⟨B', 0, none⟩ a).setCell ⟨B', 1, none⟩ b).setCell ⟨B', 2, none⟩ c).setCell ⟨B', 3, none⟩ d) := below_set (below_set (below_set (below_set h 0 a hN) 1 b hN) 2 c hN) 3 d hN
/-- What a way of two numbers answers: a number and whether it fits. -/
def WayR (o : Option Wd) (r : Ending) : Prop := ∃ (x : Wd) (b : Bool), r = .returned (.tuple #[x.val, .bool b]) ∧ x.n < M128 ∧ -9223372036854775808 ≤ x.e ∧ x.e ≤ 9223372036854775807 ∧ o = (if b then some x else none)
theorem lowW_some {x y : Wd} {t : Int} (h : lowW x t = some y) (hx : x.n < M128) : y.n < M128 ∧ y.neg = x.neg ∧ y.e ≤ t ∧ (y.e = x.e ∨ y.e = t) ∧ y.e ≤ x.e := by
  unfold lowW at h
  split at h
  · cases h; exact ⟨hx, rfl, by assumption, Or.inl rfl, Int.le_refl _⟩
  · split at h
    · cases h; exact ⟨by assumption, rfl, Int.le_refl _, Or.inr rfl, by simp only; omega⟩
    · cases h
def EOk (x : Wd) : Prop := -9223372036854775808 ≤ x.e ∧ x.e ≤ 9223372036854775807
set_option maxRecDepth 100000 in
set_option maxHeartbeats 600000 in
theorem sum_a0 (an bn : Bool) (ah al bh bl : Nat) (ae be : Int) (hza : ∀ w, Calls Tryz.prog 114 #[wv an ah al ae] w fun r w' => r = .returned (.bool true) ∧ Below w.heap.size w w') (w : World) :
    Calls Tryz.prog 105 #[wv an ah al ae, wv bn bh bl be] w fun r w' => r = .returned (.tuple #[wv bn bh bl be, .bool true]) ∧ Below w.heap.size w w' := by
  unfold wv at *

  go_enter Tryz.func105, Tryz.ntmps105
  go_wp2_with fail
  refine (hza _).mono ?_
  rintro _ w1 ⟨rfl, h1⟩
  obtain ⟨hA, hC, hZ, hB⟩ := three_rows w w1 _ _ _ _ _ _ h1
  obtain ⟨a0, a1, a2, a3⟩ := hA.four
  obtain ⟨b0, b1, b2, b3⟩ := hC.four
  obtain ⟨d0, d1, d2, d3⟩ := hZ.four
  have z1 := hA.frozen; have z2 := hC.frozen; have z3 := hZ.frozen
  clear h1 hza
  go_wp2
  refine bodyPost_ret (ret_two rfl (g := w.heap.size + 2) rfl rfl (load57 (Row.set4 hZ _ _ _ _) rfl)) rfl ⟨?_, ?_⟩
  · rfl
  · exact below_set4 hB (by omega) _ _ _ _
set_option maxRecDepth 100000 in
set_option maxHeartbeats 600000 in
theorem sum_b0 (an bn : Bool) (ah al bh bl : Nat) (ae be : Int) (hza : ∀ w, Calls Tryz.prog 114 #[wv an ah al ae] w fun r w' => r = .returned (.bool false) ∧ Below w.heap.size w w') (hzb : ∀ w, Calls Tryz.prog 114 #[wv bn bh bl be] w fun r w' => r = .returned (.bool true) ∧ Below w.heap.size w w') (w : World) :
    Calls Tryz.prog 105 #[wv an ah al ae, wv bn bh bl be] w fun r w' => r = .returned (.tuple #[wv an ah al ae, .bool true]) ∧ Below w.heap.size w w' := by
  unfold wv at *

  go_enter Tryz.func105, Tryz.ntmps105
  go_wp2_with fail
  refine (hza _).mono ?_
  rintro _ w1 ⟨rfl, h1⟩
  obtain ⟨hA, hC, hZ, hB⟩ := three_rows w w1 _ _ _ _ _ _ h1
  obtain ⟨a0, a1, a2, a3⟩ := hA.four
  obtain ⟨b0, b1, b2, b3⟩ := hC.four
  obtain ⟨d0, d1, d2, d3⟩ := hZ.four
  have z1 := hA.frozen; have z2 := hC.frozen; have z3 := hZ.frozen
  clear h1 hza
  go_wp2_with fail
  refine (hzb _).mono ?_
  rintro _ w2 ⟨rfl, h2⟩
  clear a0 a1 a2 a3 b0 b1 b2 b3 d0 d1 d2 d3 z1 z2 z3
  have hA := hA.below h2 hA.lt
  have hC := hC.below h2 hC.lt
  have hZ := hZ.below h2 hZ.lt
  have hB := hB.trans (h2.mono hB.size)
  obtain ⟨a0, a1, a2, a3⟩ := hA.four
  obtain ⟨b0, b1, b2, b3⟩ := hC.four
  obtain ⟨d0, d1, d2, d3⟩ := hZ.four
  have z1 := hA.frozen; have z2 := hC.frozen; have z3 := hZ.frozen
  clear h2 hzb
  go_wp2
  refine bodyPost_ret (ret_two rfl (g := w.heap.size + 2) rfl rfl (load57 (Row.set4 hZ _ _ _ _) rfl)) rfl ⟨?_, ?_⟩
  · rfl
  · exact below_set4 hB (by omega) _ _ _ _
set_option maxRecDepth 100000 in
set_option maxHeartbeats 600000 in
theorem sum_f1 (an bn : Bool) (ah al bh bl : Nat) (ae be : Int) (tn tb : Bool) (th tl : Nat) (te : Int) (hza : ∀ w, Calls Tryz.prog 114 #[wv an ah al ae] w fun r w' => r = .returned (.bool false) ∧ Below w.heap.size w w') (hzb : ∀ w, Calls Tryz.prog 114 #[wv bn bh bl be] w fun r w' => r = .returned (.bool false) ∧ Below w.heap.size w w') (hla : ∀ w, Calls Tryz.prog 145 #[wv an ah al ae, .int .i64 be] w fun r w' => r = .returned (.tuple #[.agg #[.bool false, .int .u64 0, .int .u64 0, .int .i64 0], .bool false]) ∧ Below w.heap.size w w') (hlb : ∀ w, Calls Tryz.prog 145 #[wv bn bh bl be, .int .i64 0] w fun r w' => r = .returned (.tuple #[wv tn th tl te, .bool tb]) ∧ Below w.heap.size w w') (w : World) :
    Calls Tryz.prog 105 #[wv an ah al ae, wv bn bh bl be] w fun r w' => r = .returned (.tuple #[.agg #[.bool false, .int .u64 0, .int .u64 0, .int .i64 0], .bool false]) ∧ Below w.heap.size w w' := by
  unfold wv at *

  go_enter Tryz.func105, Tryz.ntmps105
  go_wp2_with fail
  refine (hza _).mono ?_
  rintro _ w1 ⟨rfl, h1⟩
  obtain ⟨hA, hC, hZ, hB⟩ := three_rows w w1 _ _ _ _ _ _ h1
  obtain ⟨a0, a1, a2, a3⟩ := hA.four
  obtain ⟨b0, b1, b2, b3⟩ := hC.four
  obtain ⟨d0, d1, d2, d3⟩ := hZ.four
  have z1 := hA.frozen; have z2 := hC.frozen; have z3 := hZ.frozen
  clear h1 hza
  go_wp2_with fail
  refine (hzb _).mono ?_
  rintro _ w2 ⟨rfl, h2⟩
  clear a0 a1 a2 a3 b0 b1 b2 b3 d0 d1 d2 d3 z1 z2 z3
  have hA := hA.below h2 hA.lt
  have hC := hC.below h2 hC.lt
  have hZ := hZ.below h2 hZ.lt
  have hB := hB.trans (h2.mono hB.size)
  obtain ⟨a0, a1, a2, a3⟩ := hA.four
  obtain ⟨b0, b1, b2, b3⟩ := hC.four
  obtain ⟨d0, d1, d2, d3⟩ := hZ.four
  have z1 := hA.frozen; have z2 := hC.frozen; have z3 := hZ.frozen
  clear h2 hzb
  go_wp2_with fail
  refine (hla _).mono ?_
  rintro _ w3a ⟨rfl, h3⟩
  clear a0 a1 a2 a3 b0 b1 b2 b3 d0 d1 d2 d3 z1 z2 z3
  have hA := hA.below h3 hA.lt
  have hC := hC.below h3 hC.lt
  have hZ := hZ.below h3 hZ.lt
  have hB := hB.trans (h3.mono hB.size)
  obtain ⟨a0, a1, a2, a3⟩ := hA.four
  obtain ⟨b0, b1, b2, b3⟩ := hC.four
  obtain ⟨d0, d1, d2, d3⟩ := hZ.four
  have z1 := hA.frozen; have z2 := hC.frozen; have z3 := hZ.frozen
  clear h3 hla
  have hA := hA.set4 (.bool false) (.int .u64 0) (.int .u64 0) (.int .i64 0)
  have hC := hC.off4 (B' := w.heap.size) (by omega) (.bool false) (.int .u64 0) (.int .u64 0) (.int .i64 0)
  have hZ := hZ.off4 (B' := w.heap.size) (by omega) (.bool false) (.int .u64 0) (.int .u64 0) (.int .i64 0)
  have hB := below_set4 hB (B' := w.heap.size) (by omega) (.bool false) (.int .u64 0) (.int .u64 0) (.int .i64 0)
  go_wp2_with fail
  refine (hlb _).mono ?_
  rintro _ w3b ⟨rfl, h3⟩
  clear a0 a1 a2 a3 b0 b1 b2 b3 d0 d1 d2 d3 z1 z2 z3
  have hA := hA.below h3 hA.lt
  have hC := hC.below h3 hC.lt
  have hZ := hZ.below h3 hZ.lt
  have hB := hB.trans (h3.mono hB.size)
  obtain ⟨a0, a1, a2, a3⟩ := hA.four
  obtain ⟨b0, b1, b2, b3⟩ := hC.four
  obtain ⟨d0, d1, d2, d3⟩ := hZ.four
  have z1 := hA.frozen; have z2 := hC.frozen; have z3 := hZ.frozen
  clear h3 hlb
  have hC := hC.set4 (.bool tn) (.int .u64 (th : Int)) (.int .u64 (tl : Int)) (.int .i64 te)
  have hA := hA.off4 (B' := w.heap.size + 1) (by omega) (.bool tn) (.int .u64 (th : Int)) (.int .u64 (tl : Int)) (.int .i64 te)
  have hZ := hZ.off4 (B' := w.heap.size + 1) (by omega) (.bool tn) (.int .u64 (th : Int)) (.int .u64 (tl : Int)) (.int .i64 te)
  have hB := below_set4 hB (B' := w.heap.size + 1) (by omega) (.bool tn) (.int .u64 (th : Int)) (.int .u64 (tl : Int)) (.int .i64 te)
  go_wp2
  refine bodyPost_ret (ret_two rfl (g := w.heap.size + 2) rfl rfl (load57 (Row.set4 hZ _ _ _ _) rfl)) rfl ⟨?_, ?_⟩
  · rfl
  · exact below_set4 hB (by omega) _ _ _ _
set_option maxRecDepth 100000 in
set_option maxHeartbeats 600000 in
theorem sum_f2 (an bn : Bool) (ah al bh bl : Nat) (ae be : Int) (sn : Bool) (sh sl : Nat) (se : Int) (hza : ∀ w, Calls Tryz.prog 114 #[wv an ah al ae] w fun r w' => r = .returned (.bool false) ∧ Below w.heap.size w w') (hzb : ∀ w, Calls Tryz.prog 114 #[wv bn bh bl be] w fun r w' => r = .returned (.bool false) ∧ Below w.heap.size w w') (hla : ∀ w, Calls Tryz.prog 145 #[wv an ah al ae, .int .i64 be] w fun r w' => r = .returned (.tuple #[wv sn sh sl se, .bool true]) ∧ Below w.heap.size w w') (hlb : ∀ w, Calls Tryz.prog 145 #[wv bn bh bl be, .int .i64 se] w fun r w' => r = .returned (.tuple #[.agg #[.bool false, .int .u64 0, .int .u64 0, .int .i64 0], .bool false]) ∧ Below w.heap.size w w') (w : World) :
    Calls Tryz.prog 105 #[wv an ah al ae, wv bn bh bl be] w fun r w' => r = .returned (.tuple #[.agg #[.bool false, .int .u64 0, .int .u64 0, .int .i64 0], .bool false]) ∧ Below w.heap.size w w' := by
  unfold wv at *

  go_enter Tryz.func105, Tryz.ntmps105
  go_wp2_with fail
  refine (hza _).mono ?_
  rintro _ w1 ⟨rfl, h1⟩
  obtain ⟨hA, hC, hZ, hB⟩ := three_rows w w1 _ _ _ _ _ _ h1
  obtain ⟨a0, a1, a2, a3⟩ := hA.four
  obtain ⟨b0, b1, b2, b3⟩ := hC.four
  obtain ⟨d0, d1, d2, d3⟩ := hZ.four
  have z1 := hA.frozen; have z2 := hC.frozen; have z3 := hZ.frozen
  clear h1 hza
  go_wp2_with fail
  refine (hzb _).mono ?_
  rintro _ w2 ⟨rfl, h2⟩
  clear a0 a1 a2 a3 b0 b1 b2 b3 d0 d1 d2 d3 z1 z2 z3
  have hA := hA.below h2 hA.lt
  have hC := hC.below h2 hC.lt
  have hZ := hZ.below h2 hZ.lt
  have hB := hB.trans (h2.mono hB.size)
  obtain ⟨a0, a1, a2, a3⟩ := hA.four
  obtain ⟨b0, b1, b2, b3⟩ := hC.four
  obtain ⟨d0, d1, d2, d3⟩ := hZ.four
  have z1 := hA.frozen; have z2 := hC.frozen; have z3 := hZ.frozen
  clear h2 hzb
  go_wp2_with fail
  refine (hla _).mono ?_
  rintro _ w3a ⟨rfl, h3⟩
  clear a0 a1 a2 a3 b0 b1 b2 b3 d0 d1 d2 d3 z1 z2 z3
  have hA := hA.below h3 hA.lt
  have hC := hC.below h3 hC.lt
  have hZ := hZ.below h3 hZ.lt
  have hB := hB.trans (h3.mono hB.size)
  obtain ⟨a0, a1, a2, a3⟩ := hA.four
  obtain ⟨b0, b1, b2, b3⟩ := hC.four
  obtain ⟨d0, d1, d2, d3⟩ := hZ.four
  have z1 := hA.frozen; have z2 := hC.frozen; have z3 := hZ.frozen
  clear h3 hla
  have hA := hA.set4 (.bool sn) (.int .u64 (sh : Int)) (.int .u64 (sl : Int)) (.int .i64 se)
  have hC := hC.off4 (B' := w.heap.size) (by omega) (.bool sn) (.int .u64 (sh : Int)) (.int .u64 (sl : Int)) (.int .i64 se)
  have hZ := hZ.off4 (B' := w.heap.size) (by omega) (.bool sn) (.int .u64 (sh : Int)) (.int .u64 (sl : Int)) (.int .i64 se)
  have hB := below_set4 hB (B' := w.heap.size) (by omega) (.bool sn) (.int .u64 (sh : Int)) (.int .u64 (sl : Int)) (.int .i64 se)
  go_wp2_with fail
  refine (hlb _).mono ?_
  rintro _ w3b ⟨rfl, h3⟩
  clear a0 a1 a2 a3 b0 b1 b2 b3 d0 d1 d2 d3 z1 z2 z3
  have hA := hA.below h3 hA.lt
  have hC := hC.below h3 hC.lt
  have hZ := hZ.below h3 hZ.lt
  have hB := hB.trans (h3.mono hB.size)
  obtain ⟨a0, a1, a2, a3⟩ := hA.four
  obtain ⟨b0, b1, b2, b3⟩ := hC.four
  obtain ⟨d0, d1, d2, d3⟩ := hZ.four
  have z1 := hA.frozen; have z2 := hC.frozen; have z3 := hZ.frozen
  clear h3 hlb
  have hC := hC.set4 (.bool false) (.int .u64 0) (.int .u64 0) (.int .i64 0)
  have hA := hA.off4 (B' := w.heap.size + 1) (by omega) (.bool false) (.int .u64 0) (.int .u64 0) (.int .i64 0)
  have hZ := hZ.off4 (B' := w.heap.size + 1) (by omega) (.bool false) (.int .u64 0) (.int .u64 0) (.int .i64 0)
  have hB := below_set4 hB (B' := w.heap.size + 1) (by omega) (.bool false) (.int .u64 0) (.int .u64 0) (.int .i64 0)
  go_wp2
  refine bodyPost_ret (ret_two rfl (g := w.heap.size + 2) rfl rfl (load57 (Row.set4 hZ _ _ _ _) rfl)) rfl ⟨?_, ?_⟩
  · rfl
  · exact below_set4 hB (by omega) _ _ _ _
set_option maxRecDepth 100000 in
set_option maxHeartbeats 600000 in
theorem sum_tf (an bn : Bool) (ah al bh bl : Nat) (ae be : Int) (dn : Bool) (sh sl th tl dh dl : Nat) (se te de : Int) (hza : ∀ w, Calls Tryz.prog 114 #[wv an ah al ae] w fun r w' => r = .returned (.bool false) ∧ Below w.heap.size w w') (hzb : ∀ w, Calls Tryz.prog 114 #[wv bn bh bl be] w fun r w' => r = .returned (.bool false) ∧ Below w.heap.size w w') (hla : ∀ w, Calls Tryz.prog 145 #[wv an ah al ae, .int .i64 be] w fun r w' => r = .returned (.tuple #[wv true sh sl se, .bool true]) ∧ Below w.heap.size w w') (hlb : ∀ w, Calls Tryz.prog 145 #[wv bn bh bl be, .int .i64 se] w fun r w' => r = .returned (.tuple #[wv false th tl te, .bool true]) ∧ Below w.heap.size w w') (hd : ∀ w, Calls Tryz.prog 146 #[wv true sh sl se, wv false th tl te] w fun r w' => r = .returned (wv dn dh dl de) ∧ Below w.heap.size w w') (w : World) :
    Calls Tryz.prog 105 #[wv an ah al ae, wv bn bh bl be] w fun r w' => r = .returned (.tuple #[wv dn dh dl de, .bool true]) ∧ Below w.heap.size w w' := by
  unfold wv at *

  go_enter Tryz.func105, Tryz.ntmps105
  go_wp2_with fail
  refine (hza _).mono ?_
  rintro _ w1 ⟨rfl, h1⟩
  obtain ⟨hA, hC, hZ, hB⟩ := three_rows w w1 _ _ _ _ _ _ h1
  obtain ⟨a0, a1, a2, a3⟩ := hA.four
  obtain ⟨b0, b1, b2, b3⟩ := hC.four
  obtain ⟨d0, d1, d2, d3⟩ := hZ.four
  have z1 := hA.frozen; have z2 := hC.frozen; have z3 := hZ.frozen
  clear h1 hza
  go_wp2_with fail
  refine (hzb _).mono ?_
  rintro _ w2 ⟨rfl, h2⟩
  clear a0 a1 a2 a3 b0 b1 b2 b3 d0 d1 d2 d3 z1 z2 z3
  have hA := hA.below h2 hA.lt
  have hC := hC.below h2 hC.lt
  have hZ := hZ.below h2 hZ.lt
  have hB := hB.trans (h2.mono hB.size)
  obtain ⟨a0, a1, a2, a3⟩ := hA.four
  obtain ⟨b0, b1, b2, b3⟩ := hC.four
  obtain ⟨d0, d1, d2, d3⟩ := hZ.four
  have z1 := hA.frozen; have z2 := hC.frozen; have z3 := hZ.frozen
  clear h2 hzb
  go_wp2_with fail
  refine (hla _).mono ?_
  rintro _ w3a ⟨rfl, h3⟩
  clear a0 a1 a2 a3 b0 b1 b2 b3 d0 d1 d2 d3 z1 z2 z3
  have hA := hA.below h3 hA.lt
  have hC := hC.below h3 hC.lt
  have hZ := hZ.below h3 hZ.lt
  have hB := hB.trans (h3.mono hB.size)
  obtain ⟨a0, a1, a2, a3⟩ := hA.four
  obtain ⟨b0, b1, b2, b3⟩ := hC.four
  obtain ⟨d0, d1, d2, d3⟩ := hZ.four
  have z1 := hA.frozen; have z2 := hC.frozen; have z3 := hZ.frozen
  clear h3 hla
  have hA := hA.set4 (.bool true) (.int .u64 (sh : Int)) (.int .u64 (sl : Int)) (.int .i64 se)
  have hC := hC.off4 (B' := w.heap.size) (by omega) (.bool true) (.int .u64 (sh : Int)) (.int .u64 (sl : Int)) (.int .i64 se)
  have hZ := hZ.off4 (B' := w.heap.size) (by omega) (.bool true) (.int .u64 (sh : Int)) (.int .u64 (sl : Int)) (.int .i64 se)
  have hB := below_set4 hB (B' := w.heap.size) (by omega) (.bool true) (.int .u64 (sh : Int)) (.int .u64 (sl : Int)) (.int .i64 se)
  go_wp2_with fail
  refine (hlb _).mono ?_
  rintro _ w3b ⟨rfl, h3⟩
  clear a0 a1 a2 a3 b0 b1 b2 b3 d0 d1 d2 d3 z1 z2 z3
  have hA := hA.below h3 hA.lt
  have hC := hC.below h3 hC.lt
  have hZ := hZ.below h3 hZ.lt
  have hB := hB.trans (h3.mono hB.size)
  obtain ⟨a0, a1, a2, a3⟩ := hA.four
  obtain ⟨b0, b1, b2, b3⟩ := hC.four
  obtain ⟨d0, d1, d2, d3⟩ := hZ.four
  have z1 := hA.frozen; have z2 := hC.frozen; have z3 := hZ.frozen
  clear h3 hlb
  have hC := hC.set4 (.bool false) (.int .u64 (th : Int)) (.int .u64 (tl : Int)) (.int .i64 te)
  have hA := hA.off4 (B' := w.heap.size + 1) (by omega) (.bool false) (.int .u64 (th : Int)) (.int .u64 (tl : Int)) (.int .i64 te)
  have hZ := hZ.off4 (B' := w.heap.size + 1) (by omega) (.bool false) (.int .u64 (th : Int)) (.int .u64 (tl : Int)) (.int .i64 te)
  have hB := below_set4 hB (B' := w.heap.size + 1) (by omega) (.bool false) (.int .u64 (th : Int)) (.int .u64 (tl : Int)) (.int .i64 te)
  go_wp2_with fail
  refine (hd _).mono ?_
  rintro _ w5 ⟨rfl, h5⟩
  have hZ := hZ.below h5 hZ.lt
  have hB := hB.trans (h5.mono hB.size)
  clear a0 a1 a2 a3 b0 b1 b2 b3 d0 d1 d2 d3 z1 z2 z3 h5 hd
  obtain ⟨d0, d1, d2, d3⟩ := hZ.four
  have z3 := hZ.frozen
  go_wp2
  refine bodyPost_ret (ret_two rfl (g := w.heap.size + 2) rfl rfl (load57 (Row.set4 hZ _ _ _ _) rfl)) rfl ⟨?_, ?_⟩
  · rfl
  · exact below_set4 hB (by omega) _ _ _ _
set_option maxRecDepth 100000 in
set_option maxHeartbeats 600000 in
theorem sum_ft (an bn : Bool) (ah al bh bl : Nat) (ae be : Int) (dn : Bool) (sh sl th tl dh dl : Nat) (se te de : Int) (hza : ∀ w, Calls Tryz.prog 114 #[wv an ah al ae] w fun r w' => r = .returned (.bool false) ∧ Below w.heap.size w w') (hzb : ∀ w, Calls Tryz.prog 114 #[wv bn bh bl be] w fun r w' => r = .returned (.bool false) ∧ Below w.heap.size w w') (hla : ∀ w, Calls Tryz.prog 145 #[wv an ah al ae, .int .i64 be] w fun r w' => r = .returned (.tuple #[wv false sh sl se, .bool true]) ∧ Below w.heap.size w w') (hlb : ∀ w, Calls Tryz.prog 145 #[wv bn bh bl be, .int .i64 se] w fun r w' => r = .returned (.tuple #[wv true th tl te, .bool true]) ∧ Below w.heap.size w w') (hd : ∀ w, Calls Tryz.prog 146 #[wv false sh sl se, wv true th tl te] w fun r w' => r = .returned (wv dn dh dl de) ∧ Below w.heap.size w w') (w : World) :
    Calls Tryz.prog 105 #[wv an ah al ae, wv bn bh bl be] w fun r w' => r = .returned (.tuple #[wv dn dh dl de, .bool true]) ∧ Below w.heap.size w w' := by
  unfold wv at *

  go_enter Tryz.func105, Tryz.ntmps105
  go_wp2_with fail
  refine (hza _).mono ?_
  rintro _ w1 ⟨rfl, h1⟩
  obtain ⟨hA, hC, hZ, hB⟩ := three_rows w w1 _ _ _ _ _ _ h1
  obtain ⟨a0, a1, a2, a3⟩ := hA.four
  obtain ⟨b0, b1, b2, b3⟩ := hC.four
  obtain ⟨d0, d1, d2, d3⟩ := hZ.four
  have z1 := hA.frozen; have z2 := hC.frozen; have z3 := hZ.frozen
  clear h1 hza
  go_wp2_with fail
  refine (hzb _).mono ?_
  rintro _ w2 ⟨rfl, h2⟩
  clear a0 a1 a2 a3 b0 b1 b2 b3 d0 d1 d2 d3 z1 z2 z3
  have hA := hA.below h2 hA.lt
  have hC := hC.below h2 hC.lt
  have hZ := hZ.below h2 hZ.lt
  have hB := hB.trans (h2.mono hB.size)
  obtain ⟨a0, a1, a2, a3⟩ := hA.four
  obtain ⟨b0, b1, b2, b3⟩ := hC.four
  obtain ⟨d0, d1, d2, d3⟩ := hZ.four
  have z1 := hA.frozen; have z2 := hC.frozen; have z3 := hZ.frozen
  clear h2 hzb
  go_wp2_with fail
  refine (hla _).mono ?_
  rintro _ w3a ⟨rfl, h3⟩
  clear a0 a1 a2 a3 b0 b1 b2 b3 d0 d1 d2 d3 z1 z2 z3
  have hA := hA.below h3 hA.lt
  have hC := hC.below h3 hC.lt
  have hZ := hZ.below h3 hZ.lt
  have hB := hB.trans (h3.mono hB.size)
  obtain ⟨a0, a1, a2, a3⟩ := hA.four
  obtain ⟨b0, b1, b2, b3⟩ := hC.four
  obtain ⟨d0, d1, d2, d3⟩ := hZ.four
  have z1 := hA.frozen; have z2 := hC.frozen; have z3 := hZ.frozen
  clear h3 hla
  have hA := hA.set4 (.bool false) (.int .u64 (sh : Int)) (.int .u64 (sl : Int)) (.int .i64 se)
  have hC := hC.off4 (B' := w.heap.size) (by omega) (.bool false) (.int .u64 (sh : Int)) (.int .u64 (sl : Int)) (.int .i64 se)
  have hZ := hZ.off4 (B' := w.heap.size) (by omega) (.bool false) (.int .u64 (sh : Int)) (.int .u64 (sl : Int)) (.int .i64 se)
  have hB := below_set4 hB (B' := w.heap.size) (by omega) (.bool false) (.int .u64 (sh : Int)) (.int .u64 (sl : Int)) (.int .i64 se)
  go_wp2_with fail
  refine (hlb _).mono ?_
  rintro _ w3b ⟨rfl, h3⟩
  clear a0 a1 a2 a3 b0 b1 b2 b3 d0 d1 d2 d3 z1 z2 z3
  have hA := hA.below h3 hA.lt
  have hC := hC.below h3 hC.lt
  have hZ := hZ.below h3 hZ.lt
  have hB := hB.trans (h3.mono hB.size)
  obtain ⟨a0, a1, a2, a3⟩ := hA.four
  obtain ⟨b0, b1, b2, b3⟩ := hC.four
  obtain ⟨d0, d1, d2, d3⟩ := hZ.four
  have z1 := hA.frozen; have z2 := hC.frozen; have z3 := hZ.frozen
  clear h3 hlb
  have hC := hC.set4 (.bool true) (.int .u64 (th : Int)) (.int .u64 (tl : Int)) (.int .i64 te)
  have hA := hA.off4 (B' := w.heap.size + 1) (by omega) (.bool true) (.int .u64 (th : Int)) (.int .u64 (tl : Int)) (.int .i64 te)
  have hZ := hZ.off4 (B' := w.heap.size + 1) (by omega) (.bool true) (.int .u64 (th : Int)) (.int .u64 (tl : Int)) (.int .i64 te)
  have hB := below_set4 hB (B' := w.heap.size + 1) (by omega) (.bool true) (.int .u64 (th : Int)) (.int .u64 (tl : Int)) (.int .i64 te)
  go_wp2_with fail
  refine (hd _).mono ?_
  rintro _ w5 ⟨rfl, h5⟩
  have hZ := hZ.below h5 hZ.lt
  have hB := hB.trans (h5.mono hB.size)
  clear a0 a1 a2 a3 b0 b1 b2 b3 d0 d1 d2 d3 z1 z2 z3 h5 hd
  obtain ⟨d0, d1, d2, d3⟩ := hZ.four
  have z3 := hZ.frozen
  go_wp2
  refine bodyPost_ret (ret_two rfl (g := w.heap.size + 2) rfl rfl (load57 (Row.set4 hZ _ _ _ _) rfl)) rfl ⟨?_, ?_⟩
  · rfl
  · exact below_set4 hB (by omega) _ _ _ _
set_option maxRecDepth 100000 in
set_option maxHeartbeats 600000 in
theorem sum_ad (an bn : Bool) (ah al bh bl : Nat) (ae be : Int) (sn : Bool) (sh sl th tl H L cy ov : Nat) (se te : Int) (hza : ∀ w, Calls Tryz.prog 114 #[wv an ah al ae] w fun r w' => r = .returned (.bool false) ∧ Below w.heap.size w w') (hzb : ∀ w, Calls Tryz.prog 114 #[wv bn bh bl be] w fun r w' => r = .returned (.bool false) ∧ Below w.heap.size w w') (hla : ∀ w, Calls Tryz.prog 145 #[wv an ah al ae, .int .i64 be] w fun r w' => r = .returned (.tuple #[wv sn sh sl se, .bool true]) ∧ Below w.heap.size w w') (hlb : ∀ w, Calls Tryz.prog 145 #[wv bn bh bl be, .int .i64 se] w fun r w' => r = .returned (.tuple #[wv sn th tl te, .bool true]) ∧ Below w.heap.size w w') (s1 : ∀ w, (callFunc 147 #[.int .u64 (sl : Int), .int .u64 (tl : Int), .int .u64 0]).run Tryz.prog w = .ok (.value (.tuple #[.int .u64 (L : Int), .int .u64 (cy : Int)])) w) (s2 : ∀ w, (callFunc 147 #[.int .u64 (sh : Int), .int .u64 (th : Int), .int .u64 (cy : Int)]).run Tryz.prog w = .ok (.value (.tuple #[.int .u64 (H : Int), .int .u64 (ov : Int)])) w) (w : World) :
    Calls Tryz.prog 105 #[wv an ah al ae, wv bn bh bl be] w fun r w' => r = .returned (.tuple #[wv sn H L se, .bool ((ov : Int) == 0)]) ∧ Below w.heap.size w w' := by
  unfold wv at *

  go_enter Tryz.func105, Tryz.ntmps105
  go_wp2_with fail
  refine (hza _).mono ?_
  rintro _ w1 ⟨rfl, h1⟩
  obtain ⟨hA, hC, hZ, hB⟩ := three_rows w w1 _ _ _ _ _ _ h1
  obtain ⟨a0, a1, a2, a3⟩ := hA.four
  obtain ⟨b0, b1, b2, b3⟩ := hC.four
  obtain ⟨d0, d1, d2, d3⟩ := hZ.four
  have z1 := hA.frozen; have z2 := hC.frozen; have z3 := hZ.frozen
  clear h1 hza
  go_wp2_with fail
  refine (hzb _).mono ?_
  rintro _ w2 ⟨rfl, h2⟩
  clear a0 a1 a2 a3 b0 b1 b2 b3 d0 d1 d2 d3 z1 z2 z3
  have hA := hA.below h2 hA.lt
  have hC := hC.below h2 hC.lt
  have hZ := hZ.below h2 hZ.lt
  have hB := hB.trans (h2.mono hB.size)
  obtain ⟨a0, a1, a2, a3⟩ := hA.four
  obtain ⟨b0, b1, b2, b3⟩ := hC.four
  obtain ⟨d0, d1, d2, d3⟩ := hZ.four
  have z1 := hA.frozen; have z2 := hC.frozen; have z3 := hZ.frozen
  clear h2 hzb
  go_wp2_with fail
  refine (hla _).mono ?_
  rintro _ w3a ⟨rfl, h3⟩
  clear a0 a1 a2 a3 b0 b1 b2 b3 d0 d1 d2 d3 z1 z2 z3
  have hA := hA.below h3 hA.lt
  have hC := hC.below h3 hC.lt
  have hZ := hZ.below h3 hZ.lt
  have hB := hB.trans (h3.mono hB.size)
  obtain ⟨a0, a1, a2, a3⟩ := hA.four
  obtain ⟨b0, b1, b2, b3⟩ := hC.four
  obtain ⟨d0, d1, d2, d3⟩ := hZ.four
  have z1 := hA.frozen; have z2 := hC.frozen; have z3 := hZ.frozen
  clear h3 hla
  have hA := hA.set4 (.bool sn) (.int .u64 (sh : Int)) (.int .u64 (sl : Int)) (.int .i64 se)
  have hC := hC.off4 (B' := w.heap.size) (by omega) (.bool sn) (.int .u64 (sh : Int)) (.int .u64 (sl : Int)) (.int .i64 se)
  have hZ := hZ.off4 (B' := w.heap.size) (by omega) (.bool sn) (.int .u64 (sh : Int)) (.int .u64 (sl : Int)) (.int .i64 se)
  have hB := below_set4 hB (B' := w.heap.size) (by omega) (.bool sn) (.int .u64 (sh : Int)) (.int .u64 (sl : Int)) (.int .i64 se)
  go_wp2_with fail
  refine (hlb _).mono ?_
  rintro _ w3b ⟨rfl, h3⟩
  clear a0 a1 a2 a3 b0 b1 b2 b3 d0 d1 d2 d3 z1 z2 z3
  have hA := hA.below h3 hA.lt
  have hC := hC.below h3 hC.lt
  have hZ := hZ.below h3 hZ.lt
  have hB := hB.trans (h3.mono hB.size)
  obtain ⟨a0, a1, a2, a3⟩ := hA.four
  obtain ⟨b0, b1, b2, b3⟩ := hC.four
  obtain ⟨d0, d1, d2, d3⟩ := hZ.four
  have z1 := hA.frozen; have z2 := hC.frozen; have z3 := hZ.frozen
  clear h3 hlb
  have hC := hC.set4 (.bool sn) (.int .u64 (th : Int)) (.int .u64 (tl : Int)) (.int .i64 te)
  have hA := hA.off4 (B' := w.heap.size + 1) (by omega) (.bool sn) (.int .u64 (th : Int)) (.int .u64 (tl : Int)) (.int .i64 te)
  have hZ := hZ.off4 (B' := w.heap.size + 1) (by omega) (.bool sn) (.int .u64 (th : Int)) (.int .u64 (tl : Int)) (.int .i64 te)
  have hB := below_set4 hB (B' := w.heap.size + 1) (by omega) (.bool sn) (.int .u64 (th : Int)) (.int .u64 (tl : Int)) (.int .i64 te)
  go_wp2
  refine bodyPost_ret (ret_two rfl (g := w.heap.size + 2) rfl rfl (load57 (Row.set4 hZ _ _ _ _) rfl)) rfl ⟨?_, ?_⟩
  · rfl
  · exact below_set4 hB (by omega) _ _ _ _
end Go.Proofs.YtnhflnpjepiceaaGreatDoor
