import Derived.Test.YtfbhonjndepjbaaDoorWbsM
/- sum: two numbers together. -/
namespace Go.Proofs.YtfbhonjndepjbaaDoor
open Go.RowKit

theorem Row.off4 {W : World} {B : Nat} {t : TypeId} {cs : Array Value} (h : Row W B t cs) {B' : Nat} (hne : B ≠ B') (a b c d : Value) :
    Row ((((W.setCell ⟨B', 0, none⟩ a).setCell ⟨B', 1, none⟩ b).setCell ⟨B', 2, none⟩ c).setCell ⟨B', 3, none⟩ d) B t cs := (((h.off 0 a hne).off 1 b hne).off 2 c hne).off 3 d hne
theorem below_set4 {N : Nat} {x W : World} (h : Below N x W) {B' : Nat} (hN : N ≤ B') (a b c d : Value) :
    Below N x ((((W.setCell ⟨B', 0, none⟩ a).setCell ⟨B', 1, none⟩ b).setCell ⟨B', 2, none⟩ c).setCell ⟨B', 3, none⟩ d) := below_set (below_set (below_set (below_set h 0 a hN) 1 b hN) 2 c hN) 3 d hN
/-- What a way of two numbers answers: a number and whether it fits. -/
def WayR (o : Option Wd) (r : Ending) : Prop := ∃ (x : Wd) (b : Bool), r = .returned (.tuple #[x.val, .bool b]) ∧ x.n < M128 ∧ -9223372036854775808 ≤ x.e ∧ x.e ≤ 9223372036854775807 ∧ o = (if b then some x else none)
theorem lowW_some {x y : Wd} {t : Int} (h : lowW x t = some y) (hx : x.n < M128) : y.n < M128 ∧ y.neg = x.neg ∧ y.e ≤ t ∧ (y.e = x.e ∨ y.e = t) ∧ y.e ≤ x.e := by
  unfold lowW at h
  split at h
  · cases h; exact ⟨hx, rfl, by assumption, Or.inl rfl, Int.le_refl _⟩
  · split at h
    · cases h; exact ⟨by assumption, rfl, Int.le_refl _, Or.inr rfl, by simp only; omega⟩
    · cases h
def EOk (x : Wd) : Prop := -9223372036854775808 ≤ x.e ∧ x.e ≤ 9223372036854775807
set_option maxRecDepth 100000 in
set_option maxHeartbeats 600000 in
theorem sum_a0 (an bn : Bool) (ah al bh bl : Nat) (ae be : Int) (hza : ∀ w, Calls Tryd.prog 61 #[wv an ah al ae] w fun r w' => r = .returned (.bool true) ∧ Below w.heap.size w w') (w : World) :
    Calls Tryd.prog 43 #[wv an ah al ae, wv bn bh bl be] w fun r w' => r = .returned (.tuple #[wv bn bh bl be, .bool true]) ∧ Below w.heap.size w w' := by
  unfold wv at *

  go_enter Tryd.func43, Tryd.ntmps43
  go_wp2_with fail
  refine (hza _).mono ?_
  rintro _ w1 ⟨rfl, h1⟩
  obtain ⟨hA, hC, hZ, hB⟩ := three_rows w w1 _ _ _ _ _ _ h1
  obtain ⟨a0, a1, a2, a3⟩ := hA.four
  obtain ⟨b0, b1, b2, b3⟩ := hC.four
  obtain ⟨d0, d1, d2, d3⟩ := hZ.four
  have z1 := hA.frozen; have z2 := hC.frozen; have z3 := hZ.frozen
  clear h1 hza
  go_wp2
  refine bodyPost_ret (ret_two rfl (g := w.heap.size + 2) rfl rfl (load57 (Row.set4 hZ _ _ _ _) rfl)) rfl ⟨?_, ?_⟩
  · rfl
  · exact below_set4 hB (by omega) _ _ _ _
set_option maxRecDepth 100000 in
set_option maxHeartbeats 600000 in
theorem sum_b0 (an bn : Bool) (ah al bh bl : Nat) (ae be : Int) (hza : ∀ w, Calls Tryd.prog 61 #[wv an ah al ae] w fun r w' => r = .returned (.bool false) ∧ Below w.heap.size w w') (hzb : ∀ w, Calls Tryd.prog 61 #[wv bn bh bl be] w fun r w' => r = .returned (.bool true) ∧ Below w.heap.size w w') (w : World) :
    Calls Tryd.prog 43 #[wv an ah al ae, wv bn bh bl be] w fun r w' => r = .returned (.tuple #[wv an ah al ae, .bool true]) ∧ Below w.heap.size w w' := by
  unfold wv at *

  go_enter Tryd.func43, Tryd.ntmps43
  go_wp2_with fail
  refine (hza _).mono ?_
  rintro _ w1 ⟨rfl, h1⟩
  obtain ⟨hA, hC, hZ, hB⟩ := three_rows w w1 _ _ _ _ _ _ h1
  obtain ⟨a0, a1, a2, a3⟩ := hA.four
  obtain ⟨b0, b1, b2, b3⟩ := hC.four
  obtain ⟨d0, d1, d2, d3⟩ := hZ.four
  have z1 := hA.frozen; have z2 := hC.frozen; have z3 := hZ.frozen
  clear h1 hza
  go_wp2_with fail
  refine (hzb _).mono ?_
  rintro _ w2 ⟨rfl, h2⟩
  clear a0 a1 a2 a3 b0 b1 b2 b3 d0 d1 d2 d3 z1 z2 z3
  have hA := hA.below h2 hA.lt
  have hC := hC.below h2 hC.lt
  have hZ := hZ.below h2 hZ.lt
  have hB := hB.trans (h2.mono hB.size)
  obtain ⟨a0, a1, a2, a3⟩ := hA.four
  obtain ⟨b0, b1, b2, b3⟩ := hC.four
  obtain ⟨d0, d1, d2, d3⟩ := hZ.four
  have z1 := hA.frozen; have z2 := hC.frozen; have z3 := hZ.frozen
  clear h2 hzb
  go_wp2
  refine bodyPost_ret (ret_two rfl (g := w.heap.size + 2) rfl rfl (load57 (Row.set4 hZ _ _ _ _) rfl)) rfl ⟨?_, ?_⟩
  · rfl
  · exact below_set4 hB (by omega) _ _ _ _
set_option maxRecDepth 100000 in
set_option maxHeartbeats 600000 in
theorem sum_f1 (an bn : Bool) (ah al bh bl : Nat) (ae be : Int) (tn tb : Bool) (th tl : Nat) (te : Int) (hza : ∀ w, Calls Tryd.prog 61 #[wv an ah al ae] w fun r w' => r = .returned (.bool false) ∧ Below w.heap.size w w') (hzb : ∀ w, Calls Tryd.prog 61 #[wv bn bh bl be] w fun r w' => r = .returned (.bool false) ∧ Below w.heap.size w w') (hla : ∀ w, Calls Tryd.prog 71 #[wv an ah al ae, .int .i64 be] w fun r w' => r = .returned (.tuple #[.agg #[.bool false, .int .u64 0, .int .u64 0, .int .i64 0], .bool false]) ∧ Below w.heap.size w w') (hlb : ∀ w, Calls Tryd.prog 71 #[wv bn bh bl be, .int .i64 0] w fun r w' => r = .returned (.tuple #[wv tn th tl te, .bool tb]) ∧ Below w.heap.size w w') (w : World) :
    Calls Tryd.prog 43 #[wv an ah al ae, wv bn bh bl be] w fun r w' => r = .returned (.tuple #[.agg #[.bool false, .int .u64 0, .int .u64 0, .int .i64 0], .bool false]) ∧ Below w.heap.size w w' := by
  unfold wv at *

  go_enter Tryd.func43, Tryd.ntmps43
  go_wp2_with fail
  refine (hza _).mono ?_
  rintro _ w1 ⟨rfl, h1⟩
  obtain ⟨hA, hC, hZ, hB⟩ := three_rows w w1 _ _ _ _ _ _ h1
  obtain ⟨a0, a1, a2, a3⟩ := hA.four
  obtain ⟨b0, b1, b2, b3⟩ := hC.four
  obtain ⟨d0, d1, d2, d3⟩ := hZ.four
  have z1 := hA.frozen; have z2 := hC.frozen; have z3 := hZ.frozen
  clear h1 hza
  go_wp2_with fail
  refine (hzb _).mono ?_
  rintro _ w2 ⟨rfl, h2⟩
  clear a0 a1 a2 a3 b0 b1 b2 b3 d0 d1 d2 d3 z1 z2 z3
  have hA := hA.below h2 hA.lt
  have hC := hC.below h2 hC.lt
  have hZ := hZ.below h2 hZ.lt
  have hB := hB.trans (h2.mono hB.size)
  obtain ⟨a0, a1, a2, a3⟩ := hA.four
  obtain ⟨b0, b1, b2, b3⟩ := hC.four
  obtain ⟨d0, d1, d2, d3⟩ := hZ.four
  have z1 := hA.frozen; have z2 := hC.frozen; have z3 := hZ.frozen
  clear h2 hzb
  go_wp2_with fail
  refine (hla _).mono ?_
  rintro _ w3a ⟨rfl, h3⟩
  clear a0 a1 a2 a3 b0 b1 b2 b3 d0 d1 d2 d3 z1 z2 z3
  have hA := hA.below h3 hA.lt
  have hC := hC.below h3 hC.lt
  have hZ := hZ.below h3 hZ.lt
  have hB := hB.trans (h3.mono hB.size)
  obtain ⟨a0, a1, a2, a3⟩ := hA.four
  obtain ⟨b0, b1, b2, b3⟩ := hC.four
  obtain ⟨d0, d1, d2, d3⟩ := hZ.four
  have z1 := hA.frozen; have z2 := hC.frozen; have z3 := hZ.frozen
  clear h3 hla
  have hA := hA.set4 (.bool false) (.int .u64 0) (.int .u64 0) (.int .i64 0)
  have hC := hC.off4 (B' := w.heap.size) (by omega) (.bool false) (.int .u64 0) (.int .u64 0) (.int .i64 0)
  have hZ := hZ.off4 (B' := w.heap.size) (by omega) (.bool false) (.int .u64 0) (.int .u64 0) (.int .i64 0)
  have hB := below_set4 hB (B' := w.heap.size) (by omega) (.bool false) (.int .u64 0) (.int .u64 0) (.int .i64 0)
  go_wp2_with fail
  refine (hlb _).mono ?_
  rintro _ w3b ⟨rfl, h3⟩
  clear a0 a1 a2 a3 b0 b1 b2 b3 d0 d1 d2 d3 z1 z2 z3
  have hA := hA.below h3 hA.lt
  have hC := hC.below h3 hC.lt
  have hZ := hZ.below h3 hZ.lt
  have hB := hB.trans (h3.mono hB.size)
  obtain ⟨a0, a1, a2, a3⟩ := hA.four
  obtain ⟨b0, b1, b2, b3⟩ := hC.four
  obtain ⟨d0, d1, d2, d3⟩ := hZ.four
  have z1 := hA.frozen; have z2 := hC.frozen; have z3 := hZ.frozen
  clear h3 hlb
  have hC := hC.set4 (.bool tn) (.int .u64 (th : Int)) (.int .u64 (tl : Int)) (.int .i64 te)
  have hA := hA.off4 (B' := w.heap.size + 1) (by omega) (.bool tn) (.int .u64 (th : Int)) (.int .u64 (tl : Int)) (.int .i64 te)
  have hZ := hZ.off4 (B' := w.heap.size + 1) (by omega) (.bool tn) (.int .u64 (th : Int)) (.int .u64 (tl : Int)) (.int .i64 te)
  have hB := below_set4 hB (B' := w.heap.size + 1) (by omega) (.bool tn) (.int .u64 (th : Int)) (.int .u64 (tl : Int)) (.int .i64 te)
  go_wp2
  refine bodyPost_ret (ret_two rfl (g := w.heap.size + 2) rfl rfl (load57 (Row.set4 hZ _ _ _ _) rfl)) rfl ⟨?_, ?_⟩
  · rfl
  · exact below_set4 hB (by omega) _ _ _ _
set_option maxRecDepth 100000 in
set_option maxHeartbeats 600000 in
theorem sum_f2 (an bn : Bool) (ah al bh bl : Nat) (ae be : Int) (sn : Bool) (sh sl : Nat) (se : Int) (hza : ∀ w, Calls Tryd.prog 61 #[wv an ah al ae] w fun r w' => r = .returned (.bool false) ∧ Below w.heap.size w w') (hzb : ∀ w, Calls Tryd.prog 61 #[wv bn bh bl be] w fun r w' => r = .returned (.bool false) ∧ Below w.heap.size w w') (hla : ∀ w, Calls Tryd.prog 71 #[wv an ah al ae, .int .i64 be] w fun r w' => r = .returned (.tuple #[wv sn sh sl se, .bool true]) ∧ Below w.heap.size w w') (hlb : ∀ w, Calls Tryd.prog 71 #[wv bn bh bl be, .int .i64 se] w fun r w' => r = .returned (.tuple #[.agg #[.bool false, .int .u64 0, .int .u64 0, .int .i64 0], .bool false]) ∧ Below w.heap.size w w') (w : World) :
    Calls Tryd.prog 43 #[wv an ah al ae, wv bn bh bl be] w fun r w' => r = .returned (.tuple #[.agg #[.bool false, .int .u64 0, .int .u64 0, .int .i64 0], .bool false]) ∧ Below w.heap.size w w' := by
  unfold wv at *

  go_enter Tryd.func43, Tryd.ntmps43
  go_wp2_with fail
  refine (hza _).mono ?_
  rintro _ w1 ⟨rfl, h1⟩
  obtain ⟨hA, hC, hZ, hB⟩ := three_rows w w1 _ _ _ _ _ _ h1
  obtain ⟨a0, a1, a2, a3⟩ := hA.four
  obtain ⟨b0, b1, b2, b3⟩ := hC.four
  obtain ⟨d0, d1, d2, d3⟩ := hZ.four
  have z1 := hA.frozen; have z2 := hC.frozen; have z3 := hZ.frozen
  clear h1 hza
  go_wp2_with fail
  refine (hzb _).mono ?_
  rintro _ w2 ⟨rfl, h2⟩
  clear a0 a1 a2 a3 b0 b1 b2 b3 d0 d1 d2 d3 z1 z2 z3
  have hA := hA.below h2 hA.lt
  have hC := hC.below h2 hC.lt
  have hZ := hZ.below h2 hZ.lt
  have hB := hB.trans (h2.mono hB.size)
  obtain ⟨a0, a1, a2, a3⟩ := hA.four
  obtain ⟨b0, b1, b2, b3⟩ := hC.four
  obtain ⟨d0, d1, d2, d3⟩ := hZ.four
  have z1 := hA.frozen; have z2 := hC.frozen; have z3 := hZ.frozen
  clear h2 hzb
  go_wp2_with fail
  refine (hla _).mono ?_
  rintro _ w3a ⟨rfl, h3⟩
  clear a0 a1 a2 a3 b0 b1 b2 b3 d0 d1 d2 d3 z1 z2 z3
  have hA := hA.below h3 hA.lt
  have hC := hC.below h3 hC.lt
  have hZ := hZ.below h3 hZ.lt
  have hB := hB.trans (h3.mono hB.size)
  obtain ⟨a0, a1, a2, a3⟩ := hA.four
  obtain ⟨b0, b1, b2, b3⟩ := hC.four
  obtain ⟨d0, d1, d2, d3⟩ := hZ.four
  have z1 := hA.frozen; have z2 := hC.frozen; have z3 := hZ.frozen
  clear h3 hla
  have hA := hA.set4 (.bool sn) (.int .u64 (sh : Int)) (.int .u64 (sl : Int)) (.int .i64 se)
  have hC := hC.off4 (B' := w.heap.size) (by omega) (.bool sn) (.int .u64 (sh : Int)) (.int .u64 (sl : Int)) (.int .i64 se)
  have hZ := hZ.off4 (B' := w.heap.size) (by omega) (.bool sn) (.int .u64 (sh : Int)) (.int .u64 (sl : Int)) (.int .i64 se)
  have hB := below_set4 hB (B' := w.heap.size) (by omega) (.bool sn) (.int .u64 (sh : Int)) (.int .u64 (sl : Int)) (.int .i64 se)
  go_wp2_with fail
  refine (hlb _).mono ?_
  rintro _ w3b ⟨rfl, h3⟩
  clear a0 a1 a2 a3 b0 b1 b2 b3 d0 d1 d2 d3 z1 z2 z3
  have hA := hA.below h3 hA.lt
  have hC := hC.below h3 hC.lt
  have hZ := hZ.below h3 hZ.lt
  have hB := hB.trans (h3.mono hB.size)
  obtain ⟨a0, a1, a2, a3⟩ := hA.four
  obtain ⟨b0, b1, b2, b3⟩ := hC.four
  obtain ⟨d0, d1, d2, d3⟩ := hZ.four
  have z1 := hA.frozen; have z2 := hC.frozen; have z3 := hZ.frozen
  clear h3 hlb
  have hC := hC.set4 (.bool false) (.int .u64 0) (.int .u64 0) (.int .i64 0)
  have hA := hA.off4 (B' := w.heap.size + 1) (by omega) (.bool false) (.int .u64 0) (.int .u64 0) (.int .i64 0)
  have hZ := hZ.off4 (B' := w.heap.size + 1) (by omega) (.bool false) (.int .u64 0) (.int .u64 0) (.int .i64 0)
  have hB := below_set4 hB (B' := w.heap.size + 1) (by omega) (.bool false) (.int .u64 0) (.int .u64 0) (.int .i64 0)
  go_wp2
  refine bodyPost_ret (ret_two rfl (g := w.heap.size + 2) rfl rfl (load57 (Row.set4 hZ _ _ _ _) rfl)) rfl ⟨?_, ?_⟩
  · rfl
  · exact below_set4 hB (by omega) _ _ _ _
set_option maxRecDepth 100000 in
set_option maxHeartbeats 600000 in
theorem sum_tf (an bn : Bool) (ah al bh bl : Nat) (ae be : Int) (dn : Bool) (sh sl th tl dh dl : Nat) (se te de : Int) (hza : ∀ w, Calls Tryd.prog 61 #[wv an ah al ae] w fun r w' => r = .returned (.bool false) ∧ Below w.heap.size w w') (hzb : ∀ w, Calls Tryd.prog 61 #[wv bn bh bl be] w fun r w' => r = .returned (.bool false) ∧ Below w.heap.size w w') (hla : ∀ w, Calls Tryd.prog 71 #[wv an ah al ae, .int .i64 be] w fun r w' => r = .returned (.tuple #[wv true sh sl se, .bool true]) ∧ Below w.heap.size w w') (hlb : ∀ w, Calls Tryd.prog 71 #[wv bn bh bl be, .int .i64 se] w fun r w' => r = .returned (.tuple #[wv false th tl te, .bool true]) ∧ Below w.heap.size w w') (hd : ∀ w, Calls Tryd.prog 77 #[wv true sh sl se, wv false th tl te] w fun r w' => r = .returned (wv dn dh dl de) ∧ Below w.heap.size w w') (w : World) :
    Calls Tryd.prog 43 #[wv an ah al ae, wv bn bh bl be] w fun r w' => r = .returned (.tuple #[wv dn dh dl de, .bool true]) ∧ Below w.heap.size w w' := by
  unfold wv at *

  go_enter Tryd.func43, Tryd.ntmps43
  go_wp2_with fail
  refine (hza _).mono ?_
  rintro _ w1 ⟨rfl, h1⟩
  obtain ⟨hA, hC, hZ, hB⟩ := three_rows w w1 _ _ _ _ _ _ h1
  obtain ⟨a0, a1, a2, a3⟩ := hA.four
  obtain ⟨b0, b1, b2, b3⟩ := hC.four
  obtain ⟨d0, d1, d2, d3⟩ := hZ.four
  have z1 := hA.frozen; have z2 := hC.frozen; have z3 := hZ.frozen
  clear h1 hza
  go_wp2_with fail
  refine (hzb _).mono ?_
  rintro _ w2 ⟨rfl, h2⟩
  clear a0 a1 a2 a3 b0 b1 b2 b3 d0 d1 d2 d3 z1 z2 z3
  have hA := hA.below h2 hA.lt
  have hC := hC.below h2 hC.lt
  have hZ := hZ.below h2 hZ.lt
  have hB := hB.trans (h2.mono hB.size)
  obtain ⟨a0, a1, a2, a3⟩ := hA.four
  obtain ⟨b0, b1, b2, b3⟩ := hC.four
  obtain ⟨d0, d1, d2, d3⟩ := hZ.four
  have z1 := hA.frozen; have z2 := hC.frozen; have z3 := hZ.frozen
  clear h2 hzb
  go_wp2_with fail
  refine (hla _).mono ?_
  rintro _ w3a ⟨rfl, h3⟩
  clear a0 a1 a2 a3 b0 b1 b2 b3 d0 d1 d2 d3 z1 z2 z3
  have hA := hA.below h3 hA.lt
  have hC := hC.below h3 hC.lt
  have hZ := hZ.below h3 hZ.lt
  have hB := hB.trans (h3.mono hB.size)
  obtain ⟨a0, a1, a2, a3⟩ := hA.four
  obtain ⟨b0, b1, b2, b3⟩ := hC.four
  obtain ⟨d0, d1, d2, d3⟩ := hZ.four
  have z1 := hA.frozen; have z2 := hC.frozen; have z3 := hZ.frozen
  clear h3 hla
  have hA := hA.set4 (.bool true) (.int .u64 (sh : Int)) (.int .u64 (sl : Int)) (.int .i64 se)
  have hC := hC.off4 (B' := w.heap.size) (by omega) (.bool true) (.int .u64 (sh : Int)) (.int .u64 (sl : Int)) (.int .i64 se)
  have hZ := hZ.off4 (B' := w.heap.size) (by omega) (.bool true) (.int .u64 (sh : Int)) (.int .u64 (sl : Int)) (.int .i64 se)
  have hB := below_set4 hB (B' := w.heap.size) (by omega) (.bool true) (.int .u64 (sh : Int)) (.int .u64 (sl : Int)) (.int .i64 se)
  go_wp2_with fail
  refine (hlb _).mono ?_
  rintro _ w3b ⟨rfl, h3⟩
  clear a0 a1 a2 a3 b0 b1 b2 b3 d0 d1 d2 d3 z1 z2 z3
  have hA := hA.below h3 hA.lt
  have hC := hC.below h3 hC.lt
  have hZ := hZ.below h3 hZ.lt
  have hB := hB.trans (h3.mono hB.size)
  obtain ⟨a0, a1, a2, a3⟩ := hA.four
  obtain ⟨b0, b1, b2, b3⟩ := hC.four
  obtain ⟨d0, d1, d2, d3⟩ := hZ.four
  have z1 := hA.frozen; have z2 := hC.frozen; have z3 := hZ.frozen
  clear h3 hlb
  have hC := hC.set4 (.bool false) (.int .u64 (th : Int)) (.int .u64 (tl : Int)) (.int .i64 te)
  have hA := hA.off4 (B' := w.heap.size + 1) (by omega) (.bool false) (.int .u64 (th : Int)) (.int .u64 (tl : Int)) (.int .i64 te)
  have hZ := hZ.off4 (B' := w.heap.size + 1) (by omega) (.bool false) (.int .u64 (th : Int)) (.int .u64 (tl : Int)) (.int .i64 te)
  have hB := below_set4 hB (B' := w.heap.size + 1) (by omega) (.bool false) (.int .u64 (th : Int)) (.int .u64 (tl : Int)) (.int .i64 te)
  go_wp2_with fail
  refine (hd _).mono ?_
  rintro _ w5 ⟨rfl, h5⟩
  have hZ := hZ.below h5 hZ.lt
  have hB := hB.trans (h5.mono hB.size)
  clear a0 a1 a2 a3 b0 b1 b2 b3 d0 d1 d2 d3 z1 z2 z3 h5 hd
  obtain ⟨d0, d1, d2, d3⟩ := hZ.four
  have z3 := hZ.frozen
  go_wp2
  refine bodyPost_ret (ret_two rfl (g := w.heap.size + 2) rfl rfl (load57 (Row.set4 hZ _ _ _ _) rfl)) rfl ⟨?_, ?_⟩
  · rfl
  · exact below_set4 hB (by omega) _ _ _ _
set_option maxRecDepth 100000 in
set_option maxHeartbeats 600000 in
theorem sum_ft (an bn : Bool) (ah al bh bl : Nat) (ae be : Int) (dn : Bool) (sh sl th tl dh dl : Nat) (se te de : Int) (hza : ∀ w, Calls Tryd.prog 61 #[wv an ah al ae] w fun r w' => r = .returned (.bool false) ∧ Below w.heap.size w w') (hzb : ∀ w, Calls Tryd.prog 61 #[wv bn bh bl be] w fun r w' => r = .returned (.bool false) ∧ Below w.heap.size w w') (hla : ∀ w, Calls Tryd.prog 71 #[wv an ah al ae, .int .i64 be] w fun r w' => r = .returned (.tuple #[wv false sh sl se, .bool true]) ∧ Below w.heap.size w w') (hlb : ∀ w, Calls Tryd.prog 71 #[wv bn bh bl be, .int .i64 se] w fun r w' => r = .returned (.tuple #[wv true th tl te, .bool true]) ∧ Below w.heap.size w w') (hd : ∀ w, Calls Tryd.prog 77 #[wv false sh sl se, wv true th tl te] w fun r w' => r = .returned (wv dn dh dl de) ∧ Below w.heap.size w w') (w : World) :
    Calls Tryd.prog 43 #[wv an ah al ae, wv bn bh bl be] w fun r w' => r = .returned (.tuple #[wv dn dh dl de, .bool true]) ∧ Below w.heap.size w w' := by
  unfold wv at *

  go_enter Tryd.func43, Tryd.ntmps43
  go_wp2_with fail
  refine (hza _).mono ?_
  rintro _ w1 ⟨rfl, h1⟩
  obtain ⟨hA, hC, hZ, hB⟩ := three_rows w w1 _ _ _ _ _ _ h1
  obtain ⟨a0, a1, a2, a3⟩ := hA.four
  obtain ⟨b0, b1, b2, b3⟩ := hC.four
  obtain ⟨d0, d1, d2, d3⟩ := hZ.four
  have z1 := hA.frozen; have z2 := hC.frozen; have z3 := hZ.frozen
  clear h1 hza
  go_wp2_with fail
  refine (hzb _).mono ?_
  rintro _ w2 ⟨rfl, h2⟩
  clear a0 a1 a2 a3 b0 b1 b2 b3 d0 d1 d2 d3 z1 z2 z3
  have hA := hA.below h2 hA.lt
  have hC := hC.below h2 hC.lt
  have hZ := hZ.below h2 hZ.lt
  have hB := hB.trans (h2.mono hB.size)
  obtain ⟨a0, a1, a2, a3⟩ := hA.four
  obtain ⟨b0, b1, b2, b3⟩ := hC.four
  obtain ⟨d0, d1, d2, d3⟩ := hZ.four
  have z1 := hA.frozen; have z2 := hC.frozen; have z3 := hZ.frozen
  clear h2 hzb
  go_wp2_with fail
  refine (hla _).mono ?_
  rintro _ w3a ⟨rfl, h3⟩
  clear a0 a1 a2 a3 b0 b1 b2 b3 d0 d1 d2 d3 z1 z2 z3
  have hA := hA.below h3 hA.lt
  have hC := hC.below h3 hC.lt
  have hZ := hZ.below h3 hZ.lt
  have hB := hB.trans (h3.mono hB.size)
  obtain ⟨a0, a1, a2, a3⟩ := hA.four
  obtain ⟨b0, b1, b2, b3⟩ := hC.four
  obtain ⟨d0, d1, d2, d3⟩ := hZ.four
  have z1 := hA.frozen; have z2 := hC.frozen; have z3 := hZ.frozen
  clear h3 hla
  have hA := hA.set4 (.bool false) (.int .u64 (sh : Int)) (.int .u64 (sl : Int)) (.int .i64 se)
  have hC := hC.off4 (B' := w.heap.size) (by omega) (.bool false) (.int .u64 (sh : Int)) (.int .u64 (sl : Int)) (.int .i64 se)
  have hZ := hZ.off4 (B' := w.heap.size) (by omega) (.bool false) (.int .u64 (sh : Int)) (.int .u64 (sl : Int)) (.int .i64 se)
  have hB := below_set4 hB (B' := w.heap.size) (by omega) (.bool false) (.int .u64 (sh : Int)) (.int .u64 (sl : Int)) (.int .i64 se)
  go_wp2_with fail
  refine (hlb _).mono ?_
  rintro _ w3b ⟨rfl, h3⟩
  clear a0 a1 a2 a3 b0 b1 b2 b3 d0 d1 d2 d3 z1 z2 z3
  have hA := hA.below h3 hA.lt
  have hC := hC.below h3 hC.lt
  have hZ := hZ.below h3 hZ.lt
  have hB := hB.trans (h3.mono hB.size)
  obtain ⟨a0, a1, a2, a3⟩ := hA.four
  obtain ⟨b0, b1, b2, b3⟩ := hC.four
  obtain ⟨d0, d1, d2, d3⟩ := hZ.four
  have z1 := hA.frozen; have z2 := hC.frozen; have z3 := hZ.frozen
  clear h3 hlb
  have hC := hC.set4 (.bool true) (.int .u64 (th : Int)) (.int .u64 (tl : Int)) (.int .i64 te)
  have hA := hA.off4 (B' := w.heap.size + 1) (by omega) (.bool true) (.int .u64 (th : Int)) (.int .u64 (tl : Int)) (.int .i64 te)
  have hZ := hZ.off4 (B' := w.heap.size + 1) (by omega) (.bool true) (.int .u64 (th : Int)) (.int .u64 (tl : Int)) (.int .i64 te)
  have hB := below_set4 hB (B' := w.heap.size + 1) (by omega) (.bool true) (.int .u64 (th : Int)) (.int .u64 (tl : Int)) (.int .i64 te)
  go_wp2_with fail
  refine (hd _).mono ?_
  rintro _ w5 ⟨rfl, h5⟩
  have hZ := hZ.below h5 hZ.lt
  have hB := hB.trans (h5.mono hB.size)
  clear a0 a1 a2 a3 b0 b1 b2 b3 d0 d1 d2 d3 z1 z2 z3 h5 hd
  obtain ⟨d0, d1, d2, d3⟩ := hZ.four
  have z3 := hZ.frozen
  go_wp2
  refine bodyPost_ret (ret_two rfl (g := w.heap.size + 2) rfl rfl (load57 (Row.set4 hZ _ _ _ _) rfl)) rfl ⟨?_, ?_⟩
  · rfl
  · exact below_set4 hB (by omega) _ _ _ _
set_option maxRecDepth 100000 in
set_option maxHeartbeats 600000 in
theorem sum_ad (an bn : Bool) (ah al bh bl : Nat) (ae be : Int) (sn : Bool) (sh sl th tl H L cy ov : Nat) (se te : Int) (hza : ∀ w, Calls Tryd.prog 61 #[wv an ah al ae] w fun r w' => r = .returned (.bool false) ∧ Below w.heap.size w w') (hzb : ∀ w, Calls Tryd.prog 61 #[wv bn bh bl be] w fun r w' => r = .returned (.bool false) ∧ Below w.heap.size w w') (hla : ∀ w, Calls Tryd.prog 71 #[wv an ah al ae, .int .i64 be] w fun r w' => r = .returned (.tuple #[wv sn sh sl se, .bool true]) ∧ Below w.heap.size w w') (hlb : ∀ w, Calls Tryd.prog 71 #[wv bn bh bl be, .int .i64 se] w fun r w' => r = .returned (.tuple #[wv sn th tl te, .bool true]) ∧ Below w.heap.size w w') (s1 : ∀ w, (callFunc 78 #[.int .u64 (sl : Int), .int .u64 (tl : Int), .int .u64 0]).run Tryd.prog w = .ok (.value (.tuple #[.int .u64 (L : Int), .int .u64 (cy : Int)])) w) (s2 : ∀ w, (callFunc 78 #[.int .u64 (sh : Int), .int .u64 (th : Int), .int .u64 (cy : Int)]).run Tryd.prog w = .ok (.value (.tuple #[.int .u64 (H : Int), .int .u64 (ov : Int)])) w) (w : World) :
    Calls Tryd.prog 43 #[wv an ah al ae, wv bn bh bl be] w fun r w' => r = .returned (.tuple #[wv sn H L se, .bool ((ov : Int) == 0)]) ∧ Below w.heap.size w w' := by
  unfold wv at *

  go_enter Tryd.func43, Tryd.ntmps43
  go_wp2_with fail
  refine (hza _).mono ?_
  rintro _ w1 ⟨rfl, h1⟩
  obtain ⟨hA, hC, hZ, hB⟩ := three_rows w w1 _ _ _ _ _ _ h1
  obtain ⟨a0, a1, a2, a3⟩ := hA.four
  obtain ⟨b0, b1, b2, b3⟩ := hC.four
  obtain ⟨d0, d1, d2, d3⟩ := hZ.four
  have z1 := hA.frozen; have z2 := hC.frozen; have z3 := hZ.frozen
  clear h1 hza
  go_wp2_with fail
  refine (hzb _).mono ?_
  rintro _ w2 ⟨rfl, h2⟩
  clear a0 a1 a2 a3 b0 b1 b2 b3 d0 d1 d2 d3 z1 z2 z3
  have hA := hA.below h2 hA.lt
  have hC := hC.below h2 hC.lt
  have hZ := hZ.below h2 hZ.lt
  have hB := hB.trans (h2.mono hB.size)
  obtain ⟨a0, a1, a2, a3⟩ := hA.four
  obtain ⟨b0, b1, b2, b3⟩ := hC.four
  obtain ⟨d0, d1, d2, d3⟩ := hZ.four
  have z1 := hA.frozen; have z2 := hC.frozen; have z3 := hZ.frozen
  clear h2 hzb
  go_wp2_with fail
  refine (hla _).mono ?_
  rintro _ w3a ⟨rfl, h3⟩
  clear a0 a1 a2 a3 b0 b1 b2 b3 d0 d1 d2 d3 z1 z2 z3
  have hA := hA.below h3 hA.lt
  have hC := hC.below h3 hC.lt
  have hZ := hZ.below h3 hZ.lt
  have hB := hB.trans (h3.mono hB.size)
  obtain ⟨a0, a1, a2, a3⟩ := hA.four
  obtain ⟨b0, b1, b2, b3⟩ := hC.four
  obtain ⟨d0, d1, d2, d3⟩ := hZ.four
  have z1 := hA.frozen; have z2 := hC.frozen; have z3 := hZ.frozen
  clear h3 hla
  have hA := hA.set4 (.bool sn) (.int .u64 (sh : Int)) (.int .u64 (sl : Int)) (.int .i64 se)
  have hC := hC.off4 (B' := w.heap.size) (by omega) (.bool sn) (.int .u64 (sh : Int)) (.int .u64 (sl : Int)) (.int .i64 se)
  have hZ := hZ.off4 (B' := w.heap.size) (by omega) (.bool sn) (.int .u64 (sh : Int)) (.int .u64 (sl : Int)) (.int .i64 se)
  have hB := below_set4 hB (B' := w.heap.size) (by omega) (.bool sn) (.int .u64 (sh : Int)) (.int .u64 (sl : Int)) (.int .i64 se)
  go_wp2_with fail
  refine (hlb _).mono ?_
  rintro _ w3b ⟨rfl, h3⟩
  clear a0 a1 a2 a3 b0 b1 b2 b3 d0 d1 d2 d3 z1 z2 z3
  have hA := hA.below h3 hA.lt
  have hC := hC.below h3 hC.lt
  have hZ := hZ.below h3 hZ.lt
  have hB := hB.trans (h3.mono hB.size)
  obtain ⟨a0, a1, a2, a3⟩ := hA.four
  obtain ⟨b0, b1, b2, b3⟩ := hC.four
  obtain ⟨d0, d1, d2, d3⟩ := hZ.four
  have z1 := hA.frozen; have z2 := hC.frozen; have z3 := hZ.frozen
  clear h3 hlb
  have hC := hC.set4 (.bool sn) (.int .u64 (th : Int)) (.int .u64 (tl : Int)) (.int .i64 te)
  have hA := hA.off4 (B' := w.heap.size + 1) (by omega) (.bool sn) (.int .u64 (th : Int)) (.int .u64 (tl : Int)) (.int .i64 te)
  have hZ := hZ.off4 (B' := w.heap.size + 1) (by omega) (.bool sn) (.int .u64 (th : Int)) (.int .u64 (tl : Int)) (.int .i64 te)
  have hB := below_set4 hB (B' := w.heap.size + 1) (by omega) (.bool sn) (.int .u64 (th : Int)) (.int .u64 (tl : Int)) (.int .i64 te)
  go_wp2
  refine bodyPost_ret (ret_two rfl (g := w.heap.size + 2) rfl rfl (load57 (Row.set4 hZ _ _ _ _) rfl)) rfl ⟨?_, ?_⟩
  · rfl
  · exact below_set4 hB (by omega) _ _ _ _
end Go.Proofs.YtfbhonjndepjbaaDoor
/- sum, less, product: what they answer. -/
namespace Go.Proofs.YtfbhonjndepjbaaDoor
open Go.RowKit

theorem wayR_some {x : Wd} (h : x.n < M128) (he : EOk x) : WayR (some x) (.returned (.tuple #[x.val, .bool true])) := ⟨x, true, rfl, h, he.1, he.2, rfl⟩
theorem wayR_none : WayR none (.returned (.tuple #[.agg #[.bool false, .int .u64 0, .int .u64 0, .int .i64 0], .bool false])) := ⟨⟨false, 0, 0⟩, false, rfl, by decide, by decide, by decide, rfl⟩
theorem low_val (x : Wd) (t : Int) (h : x.n < M128) (he : EOk x) (ht : -9223372036854775808 ≤ t) :
    (lowW x t = none ∧ ∀ w, Calls Tryd.prog 71 #[x.val, .int .i64 t] w fun r w' => r = .returned (.tuple #[.agg #[.bool false, .int .u64 0, .int .u64 0, .int .i64 0], .bool false]) ∧ Below w.heap.size w w') ∨
    ∃ y, lowW x t = some y ∧ ∀ w, Calls Tryd.prog 71 #[x.val, .int .i64 t] w fun r w' => r = .returned (.tuple #[y.val, .bool true]) ∧ Below w.heap.size w w' := by
  have := lowered_any x t h he.2 he.1 ht
  cases hl : lowW x t with
  | none => rw [hl] at this; exact Or.inl ⟨rfl, this⟩
  | some y => rw [hl] at this; exact Or.inr ⟨y, rfl, this⟩
theorem sum_any (a b : Wd) (ha : a.n < M128) (hb : b.n < M128) (ea : EOk a) (eb : EOk b) (w : World) :
    Calls Tryd.prog 43 #[a.val, b.val] w fun r w' => WayR (sumW a b) r ∧ Below w.heap.size w w' := by
  have hza := zero_W a
  have hzb := zero_W b
  unfold sumW
  by_cases ha0 : a.n = 0
  · rw [decide_eq_true ha0] at hza
    rw [if_pos ha0]
    refine (sum_a0 a.neg b.neg _ _ _ _ a.e b.e hza w).mono ?_
    rintro r w' ⟨rfl, hB⟩
    exact ⟨wayR_some hb eb, hB⟩
  · rw [decide_eq_false ha0] at hza
    rw [if_neg ha0]
    by_cases hb0 : b.n = 0
    · rw [decide_eq_true hb0] at hzb
      rw [if_pos hb0]
      refine (sum_b0 a.neg b.neg _ _ _ _ a.e b.e hza hzb w).mono ?_
      rintro r w' ⟨rfl, hB⟩
      exact ⟨wayR_some ha ea, hB⟩
    · rw [decide_eq_false hb0] at hzb
      rw [if_neg hb0]
      rcases low_val a b.e ha ea eb.1 with ⟨hl, hla⟩ | ⟨a', hl, hla⟩
      · rw [hl]
        simp only
        rcases low_val b 0 hb eb (by omega) with ⟨_, hlb⟩ | ⟨y, _, hlb⟩
        · refine (sum_f1 a.neg b.neg _ _ _ _ a.e b.e false false 0 0 0 hza hzb hla hlb w).mono ?_
          rintro r w' ⟨rfl, hB⟩
          exact ⟨wayR_none, hB⟩
        · refine (sum_f1 a.neg b.neg _ _ _ _ a.e b.e y.neg true _ _ y.e hza hzb hla hlb w).mono ?_
          rintro r w' ⟨rfl, hB⟩
          exact ⟨wayR_none, hB⟩
      · rw [hl]
        simp only
        obtain ⟨p1, p2, p3, p4, p5⟩ := lowW_some hl ha
        have ea' : EOk a' := by unfold EOk at *; omega
        rcases low_val b a'.e hb eb ea'.1 with ⟨hl2, hlb⟩ | ⟨b', hl2, hlb⟩
        · rw [hl2]
          simp only
          refine (sum_f2 a.neg b.neg _ _ _ _ a.e b.e a'.neg _ _ a'.e hza hzb hla hlb w).mono ?_
          rintro r w' ⟨rfl, hB⟩
          exact ⟨wayR_none, hB⟩
        · rw [hl2]
          simp only
          obtain ⟨q1, q2, q3, q4, q5⟩ := lowW_some hl2 hb
          have eb' : EOk b' := by unfold EOk at *; omega
          unfold addW
          by_cases hs : a'.neg = b'.neg
          · rw [if_pos hs]
            have t1 := add64 (a'.n % 18446744073709551616) (b'.n % 18446744073709551616) 0 (by omega)
            have t2 := add64 (a'.n / 18446744073709551616) (b'.n / 18446744073709551616) ((a'.n % 18446744073709551616 + b'.n % 18446744073709551616 + 0) / 18446744073709551616) (by omega)
            unfold M128 at p1 q1
            have hlb' : ∀ w, Calls Tryd.prog 71 #[b.val, .int .i64 a'.e] w fun r w' => r = .returned (.tuple #[wv a'.neg (b'.n / 18446744073709551616) (b'.n % 18446744073709551616) b'.e, .bool true]) ∧ Below w.heap.size w w' := by rw [hs]; exact hlb
            refine (sum_ad a.neg b.neg _ _ _ _ a.e b.e a'.neg _ _ _ _ _ _ _ _ a'.e b'.e hza hzb hla hlb' t1 t2 w).mono ?_
            rintro r w' ⟨rfl, hB⟩
            refine ⟨?_, hB⟩
            have e1 : (a'.n % 18446744073709551616 + b'.n % 18446744073709551616 + 0) % 18446744073709551616 = ((a'.n + b'.n) % 340282366920938463463374607431768211456) % 18446744073709551616 := by omega
            have e2 : (a'.n / 18446744073709551616 + b'.n / 18446744073709551616 + (a'.n % 18446744073709551616 + b'.n % 18446744073709551616 + 0) / 18446744073709551616) % 18446744073709551616 = ((a'.n + b'.n) % 340282366920938463463374607431768211456) / 18446744073709551616 := by omega
            rw [e1, e2]
            refine ⟨⟨a'.neg, (a'.n + b'.n) % 340282366920938463463374607431768211456, a'.e⟩, decide (a'.n + b'.n < M128), ?_, ?_, ea'.1, ea'.2, ?_⟩
            · congr 4
              unfold M128
              by_cases hc : a'.n + b'.n < 340282366920938463463374607431768211456
              · rw [show (a'.n / 18446744073709551616 + b'.n / 18446744073709551616 + (a'.n % 18446744073709551616 + b'.n % 18446744073709551616 + 0) / 18446744073709551616) / 18446744073709551616 = 0 by omega]
                simp [hc]
              · rw [show (a'.n / 18446744073709551616 + b'.n / 18446744073709551616 + (a'.n % 18446744073709551616 + b'.n % 18446744073709551616 + 0) / 18446744073709551616) / 18446744073709551616 = 1 by omega]
                simp [hc]
            · show (a'.n + b'.n) % 340282366920938463463374607431768211456 < M128
              unfold M128; omega
            · by_cases hc : a'.n + b'.n < M128
              · rw [if_pos hc, decide_eq_true hc]
                simp only [if_true]
                unfold M128 at hc
                rw [Nat.mod_eq_of_lt hc]
              · rw [if_neg hc, decide_eq_false hc]
                simp
          · rw [if_neg hs]
            have hd := diff_any a' b' p1 q1
            have hdn : (diffW a' b').n < M128 ∧ EOk (diffW a' b') := by
              unfold diffW EOk at *
              split <;> (simp only; omega)
            cases hna : a'.neg <;> cases hnb : b'.neg
            · exact absurd (hna.trans hnb.symm) hs
            · unfold Wd.val at hla hlb hd
              rw [hna] at hla hd
              rw [hnb] at hlb hd
              refine (sum_ft a.neg b.neg _ _ _ _ a.e b.e _ _ _ _ _ _ _ a'.e b'.e _ hza hzb hla hlb hd w).mono ?_
              rintro r w' ⟨rfl, hB⟩
              exact ⟨wayR_some hdn.1 hdn.2, hB⟩
            · unfold Wd.val at hla hlb hd
              rw [hna] at hla hd
              rw [hnb] at hlb hd
              refine (sum_tf a.neg b.neg _ _ _ _ a.e b.e _ _ _ _ _ _ _ a'.e b'.e _ hza hzb hla hlb hd w).mono ?_
              rintro r w' ⟨rfl, hB⟩
              exact ⟨wayR_some hdn.1 hdn.2, hB⟩
            · exact absurd (hna.trans hnb.symm) hs
end Go.Proofs.YtfbhonjndepjbaaDoor
/- less: a number less another one. -/
namespace Go.Proofs.YtfbhonjndepjbaaDoor
open Go.RowKit

theorem val_agg (x : Wd) : ∃ a b c d, x.val = .agg #[.bool a, .int .u64 b, .int .u64 c, .int .i64 d] := ⟨_, _, _, _, rfl⟩
end Go.Proofs.YtfbhonjndepjbaaDoor
/- reckoned: what a way makes of two Decs. -/
namespace Go.Proofs.YtfbhonjndepjbaaDoor
open Go.RowKit

theorem four_rows (w w1 : World) (o1 o2 o3 o4 : Array Value) (t1 t2 t3 t4 : TypeId) (h : Below (((((w.alloc (.cells o1 t1)).alloc (.cells o2 t2)).alloc (.cells o3 t3)).alloc (.cells o4 t4)).heap.size) ((((w.alloc (.cells o1 t1)).alloc (.cells o2 t2)).alloc (.cells o3 t3)).alloc (.cells o4 t4)) w1) :
    Row w1 w.heap.size t1 o1 ∧ Row w1 (w.heap.size + 1) t2 o2 ∧ Row w1 (w.heap.size + 2) t3 o3 ∧ Row w1 (w.heap.size + 3) t4 o4 ∧ Below w.heap.size w w1 := by
  have r4 : Row ((((w.alloc (.cells o1 t1)).alloc (.cells o2 t2)).alloc (.cells o3 t3)).alloc (.cells o4 t4)) (w.heap.size + 3) t4 o4 := by
    have := Row.new (((w.alloc (.cells o1 t1)).alloc (.cells o2 t2)).alloc (.cells o3 t3)) t4 o4
    simpa using this
  obtain ⟨r1, r2, r3, hB⟩ := three_rows w w1 o1 o2 o3 t1 t2 t3 (((Below.refl _ _).alloc (Nat.le_refl _) (.cells o4 t4)).trans (h.mono (by simp)))
  exact ⟨r1, r2, r3, r4.below h r4.lt, hB⟩
theorem Row.eight {W : World} {B : Nat} {t : TypeId} {a b c d e f g h : Value} (hr : Row W B t #[a, b, c, d, e, f, g, h]) :
    W.cell? ⟨B, 0, none⟩ = some a ∧ W.cell? ⟨B, 1, none⟩ = some b ∧ W.cell? ⟨B, 2, none⟩ = some c ∧ W.cell? ⟨B, 3, none⟩ = some d ∧ W.cell? ⟨B, 4, none⟩ = some e ∧ W.cell? ⟨B, 5, none⟩ = some f ∧ W.cell? ⟨B, 6, none⟩ = some g ∧ W.cell? ⟨B, 7, none⟩ = some h :=
  ⟨hr.cell rfl, hr.cell rfl, hr.cell rfl, hr.cell rfl, hr.cell rfl, hr.cell rfl, hr.cell rfl, hr.cell rfl⟩
theorem decV_form (o : Option (Int × Int)) : ∃ a b v, decV o = .tuple #[.agg #[.int .i64 a, .int .i64 b], .int .i64 v] := by
  cases o with
  | none => exact ⟨_, _, _, rfl⟩
  | some p => exact ⟨_, _, _, rfl⟩
set_option maxRecDepth 100000 in
set_option maxHeartbeats 800000 in
theorem reckoned_bad1 (f : FuncId) (c e c2 e2 : Int) (he : ¬ within e) (w : World) :
    Calls Tryd.prog 42 #[.func (.func f) #[] #[], dv c e, dv c2 e2] w fun r w' => r = .returned (.tuple #[dv 0 0, .int .i64 1]) ∧ Below w.heap.size w w' := by
  unfold dv
  go_enter Tryd.func42, Tryd.ntmps42
  go_wp2_with fail
  obtain ⟨_, _, _, hK, _⟩ := four_rows w _ _ _ _ _ 23 23 23 23 (Below.refl _ ((((w.alloc (.cells #[.int .i64 c, .int .i64 e] 23)).alloc (.cells #[.int .i64 c2, .int .i64 e2] 23)).alloc (.cells #[.int .i64 0, .int .i64 0] 23)).alloc (.cells #[.int .i64 c, .int .i64 e, .int .i64 c2, .int .i64 e2] 23)))
  refine (taken2_bad1 c e c2 e2 _ _ he hK).mono ?_
  rintro _ w1 ⟨h1, rfl⟩
  obtain ⟨_, _, hZ, _, hB⟩ := four_rows w w1 _ _ _ _ _ _ _ _ h1
  obtain ⟨d0, d1⟩ := hZ.duo
  have z := hZ.frozen
  clear h1
  go_wp2
  refine bodyPost_ret (ret_two rfl (g := w.heap.size + 2) rfl rfl (load23 (Row.set2 hZ _ _) rfl)) rfl ⟨rfl, ?_⟩
  repeat (refine below_set ?_ _ _ (by omega))
  exact hB
set_option maxRecDepth 100000 in
set_option maxHeartbeats 800000 in
theorem reckoned_bad2 (f : FuncId) (c e c2 e2 : Int) (hc : I64 c) (he : within e) (he2 : ¬ within e2) (w : World) :
    Calls Tryd.prog 42 #[.func (.func f) #[] #[], dv c e, dv c2 e2] w fun r w' => r = .returned (.tuple #[dv 0 0, .int .i64 1]) ∧ Below w.heap.size w w' := by
  unfold dv
  go_enter Tryd.func42, Tryd.ntmps42
  go_wp2_with fail
  obtain ⟨_, _, _, hK, _⟩ := four_rows w _ _ _ _ _ 23 23 23 23 (Below.refl _ ((((w.alloc (.cells #[.int .i64 c, .int .i64 e] 23)).alloc (.cells #[.int .i64 c2, .int .i64 e2] 23)).alloc (.cells #[.int .i64 0, .int .i64 0] 23)).alloc (.cells #[.int .i64 c, .int .i64 e, .int .i64 c2, .int .i64 e2] 23)))
  refine (taken2_bad2 c e c2 e2 _ _ hc he he2 hK).mono ?_
  rintro _ w1 ⟨h1, rfl⟩
  obtain ⟨_, _, hZ, _, hB⟩ := four_rows w w1 _ _ _ _ _ _ _ _ h1
  obtain ⟨d0, d1⟩ := hZ.duo
  have z := hZ.frozen
  clear h1
  go_wp2
  refine bodyPost_ret (ret_two rfl (g := w.heap.size + 2) rfl rfl (load23 (Row.set2 hZ _ _) rfl)) rfl ⟨rfl, ?_⟩
  repeat (refine below_set ?_ _ _ (by omega))
  exact hB
set_option maxRecDepth 100000 in
set_option maxHeartbeats 800000 in
theorem reckoned_ok34 (c e c2 e2 : Int) (o : Option Wd) (hc : I64 c) (he : within e) (hc2 : I64 c2) (he2 : within e2) 
    (hw : ∀ w, Calls Tryd.prog 43 #[(decW c e).val, (decW c2 e2).val] w fun r w' => WayR o r ∧ Below w.heap.size w w') (w : World) :
    Calls Tryd.prog 42 #[.func (.func 43) #[] #[], dv c e, dv c2 e2] w fun r w' => r = .returned (decV (toldW o)) ∧ Below w.heap.size w w' := by
  have hT := fun K w (hK : Row w K 23 #[.int .i64 c, .int .i64 e, .int .i64 c2, .int .i64 e2]) => taken2 c e c2 e2 K w hc he hc2 he2 hK
  simp only [Wd.val_eq] at *
  obtain ⟨y0, y1, y2, y3, hy⟩ : ∃ y0 y1 y2 y3, (decW c e).cells = #[y0, y1, y2, y3] := ⟨_, _, _, _, rfl⟩
  obtain ⟨z0, z1, z2, z3, hz⟩ : ∃ y0 y1 y2 y3, (decW c2 e2).cells = #[y0, y1, y2, y3] := ⟨_, _, _, _, rfl⟩
  rw [hy, hz] at hw
  simp only [hy, hz] at hT
  clear hc he hc2 he2
  obtain ⟨p, q, v, hdv⟩ := decV_form (toldW o)
  rw [hdv]
  have HDV : Hid (decV (toldW o) = .tuple #[.agg #[.int .i64 p, .int .i64 q], .int .i64 v]) := hdv
  clear hdv
  unfold dv
  go_enter Tryd.func42, Tryd.ntmps42
  go_wp2_with fail
  obtain ⟨_, _, _, hK, _⟩ := four_rows w _ _ _ _ _ 23 23 23 23 (Below.refl _ ((((w.alloc (.cells #[.int .i64 c, .int .i64 e] 23)).alloc (.cells #[.int .i64 c2, .int .i64 e2] 23)).alloc (.cells #[.int .i64 0, .int .i64 0] 23)).alloc (.cells #[.int .i64 c, .int .i64 e, .int .i64 c2, .int .i64 e2] 23)))
  refine (hT _ _ hK).mono ?_
  rintro _ W ⟨h1, G, hG, rfl, hR⟩
  obtain ⟨_, _, hZ, _, hB⟩ := four_rows w W _ _ _ _ _ _ _ _ h1
  have hGn : w.heap.size + 2 ≠ G := by simp at hG; omega
  have hR : Row W G 59 #[y0, y1, y2, y3, z0, z1, z2, z3] := hR
  clear h1 hG hK hT
  go_wp2_with fail
  have hS0 : Below W.heap.size W W.drew := (Below.refl _ W).drew
  refine wp_region_M (fun wx : World => Below W.heap.size W wx) (fun j => decide (j < 10)) 15 rfl (by kernel_rfl) ?_
  refine wpM_held 0 (v := ?_) rfl (by kernel_rfl) (by kernel_rfl) rfl (fun _ _ _ h => h) rfl (by intro wx hx; go_simp <;> rfl) hS0 ?_
  refine wpM_held 1 (v := ?_) rfl (by kernel_rfl) (by kernel_rfl) rfl (fun _ _ _ h => h) rfl (by intro wx hx; go_simp <;> rfl) hS0 ?_
  refine wpM_held 2 (v := .pointer (some ⟨G, 0, none⟩)) rfl (by kernel_rfl) (by kernel_rfl) rfl (fun _ _ _ h => h) rfl (by intro wx hx; go_simp <;> rfl) hS0 ?_
  refine wpM_held 3 (v := .agg #[y0, y1, y2, y3]) rfl (by kernel_rfl) (by kernel_rfl) rfl (fun _ _ _ h => h) rfl (by intro wx hx; obtain ⟨g0, g1, g2, g3, g4, g5, g6, g7⟩ := (hR.below hx hR.lt).eight; go_simp <;> rfl) hS0 ?_
  refine wpM_held 4 (v := ?_) rfl (by kernel_rfl) (by kernel_rfl) rfl (fun _ _ _ h => h) rfl (by intro wx hx; go_simp <;> rfl) hS0 ?_
  refine wpM_held 5 (v := .pointer (some ⟨G, 4, none⟩)) rfl (by kernel_rfl) (by kernel_rfl) rfl (fun _ _ _ h => h) rfl (by intro wx hx; go_simp <;> rfl) hS0 ?_
  refine wpM_held 6 (v := .agg #[z0, z1, z2, z3]) rfl (by kernel_rfl) (by kernel_rfl) rfl (fun _ _ _ h => h) rfl (by intro wx hx; obtain ⟨g0, g1, g2, g3, g4, g5, g6, g7⟩ := (hR.below hx hR.lt).eight; go_simp <;> rfl) hS0 ?_
  refine wpM_one 7 rfl (by kernel_rfl) rfl ?_
  go_wp2_with fail
  refine (hw _).mono ?_
  rintro _ w1 ⟨⟨x, t, rfl, x1, x2, x3, x4⟩, h1⟩
  have hS1 := hS0.trans h1
  have hTD := told_any x t x1 x3 x2
  rw [show (if t = true then tellW x.neg x.n x.e else none) = toldW o by rw [x4]; cases t <;> rfl] at hTD
  rw [HDV.out] at hTD
  obtain ⟨d0, d1, d2, d3, hxv⟩ := val_agg x
  rw [hxv] at hTD ⊢
  clear h1 hw x1 x2 x3 x4 hxv
  go_wp2_with fail
  refine ⟨fun _ => hS1, ?_⟩
  refine wpM_held 8 (v := ?_) rfl (by kernel_rfl) (by kernel_rfl) rfl (fun _ _ _ h => h) rfl (by intro wx hx; go_simp <;> rfl) hS1 ?_
  refine wpM_held 9 (v := ?_) rfl (by kernel_rfl) (by kernel_rfl) rfl (fun _ _ _ h => h) rfl (by intro wx hx; go_simp <;> rfl) hS1 ?_
  refine wpM_one 10 rfl (by kernel_rfl) rfl ?_
  go_wp2_with fail
  refine (hTD _).mono ?_
  rintro _ w2 ⟨rfl, h2⟩
  have hS2 := hS1.trans (h2.mono hS1.size)
  have hZ2 := hZ.below hS2 hZ.lt
  have hB2 := hB.trans (hS2.mono hB.size)
  clear h2 hTD
  go_wp2_with fail
  refine ⟨(fun h => by simp at h), ?_⟩
  refine wpM_free 11 (v := ?_) rfl (by kernel_rfl) (by kernel_rfl) rfl (fun _ _ _ h => h) rfl (by intro wx; go_simp <;> rfl) ?_
  refine wpM_free 12 (v := ?_) rfl (by kernel_rfl) (by kernel_rfl) rfl (fun _ _ _ h => h) rfl (by intro wx; go_simp <;> rfl) ?_
  obtain ⟨g0, g1⟩ := hZ2.duo
  have z := hZ2.frozen
  refine wpM_one 13 rfl (by kernel_rfl) rfl ?_
  go_wp2_with fail
  refine ⟨(fun h => by simp at h), ?_⟩
  refine wpM_one 14 rfl (by kernel_rfl) rfl ?_
  go_wp2_with fail
  refine ⟨(fun h => by simp at h), ?_⟩
  refine wpM_done (by kernel_rfl) ?_
  go_wp2
  refine bodyPost_ret (v := .tuple #[.agg #[.int .i64 p, .int .i64 q], .int .i64 v]) (ret_two rfl (g := w.heap.size + 2) rfl rfl (load23 (Row.set2 hZ2 _ _) rfl)) rfl ⟨rfl, ?_⟩
  repeat (refine below_set ?_ _ _ (by omega))
  exact hB2
end Go.Proofs.YtfbhonjndepjbaaDoor
/- divisor, quotient. -/
namespace Go.Proofs.YtfbhonjndepjbaaDoor
open Go.RowKit

set_option maxRecDepth 100000 in
set_option maxHeartbeats 400000 in
theorem divisor_any (a b : Nat) (ha : a < 18446744073709551616) (hb : b < 18446744073709551616) (w : World) : Calls Tryd.prog 85 #[.int .u64 a, .int .u64 b] w fun r w' => r = .returned (.int .u64 (Nat.gcd a b : Int)) ∧ w' = w := by
  go_enter Tryd.func85, Tryd.ntmps85
  go_wp2
  go_loop [0, 1] (fun x y => ∃ p q : Nat, x = .int .u64 p ∧ y = .int .u64 q ∧ p < 18446744073709551616 ∧ q < 18446744073709551616 ∧ Hid (Nat.gcd p q = Nat.gcd a b)) (fun x _ => (intOf x).toNat)
  case atStart => exact ⟨a, b, rfl, rfl, ha, hb, rfl⟩
  case round =>
    obtain ⟨p, q, rfl, rfl, hp, hq, hg⟩ := hrel
    by_cases h0 : p = 0
    · subst h0
      go_wp2
      go_ret
      exact ⟨by rw [← hg.out, Nat.gcd_zero_left]; rfl, rfl⟩
    · have h1 : ((p : Int) != 0) = true := by simp; omega
      have h2 : ((p : Int) == 0) = false := by simp; omega
      obtain ⟨m, hm⟩ : ∃ m, q % p = m := ⟨_, rfl⟩
      have hlt : m < p := by rw [← hm]; exact Nat.mod_lt _ (by omega)
      have f1 : IntKind.u64.wrap ((q : Int).tmod (p : Int)) = (m : Int) := by
        rw [u64_wrap, Int.tmod_eq_emod_of_nonneg (by omega), ← hm, ← Int.natCast_emod]
        omega
      have HM : Hid (q % p = m) := hm
      clear hm h0
      go_wp2
      try rw [f1]
      go_round
      case rel => exact ⟨m, p, by first | rfl | (rw [← HM.out]; simp), rfl, by omega, hp, by show _ = _; rw [← HM.out, ← Nat.gcd_rec]; exact hg.out⟩
      case measure =>
        have := HM.out
        first
        | (simp only [intOf, Int.toNat_natCast]; omega)
        | (rw [← Int.natCast_emod, this]; simp only [intOf, Int.toNat_natCast]; omega)
def quotL (by' n : Nat) (e : Int) : Option (Nat × Int) :=
  if by' ≤ 1 then some (n, e)
  else if by' % 10 = 0 then quotL (by' / 10) n (e - 1)
  else if by' % 2 = 0 then (if n * 5 < M128 then quotL (by' / 2) (n * 5) (e - 1) else none)
  else if by' % 5 = 0 then (if n * 2 < M128 then quotL (by' / 5) (n * 2) (e - 1) else none)
  else none
  termination_by by'
  decreasing_by all_goals omega
def quotW (a b : Wd) : Option Wd := (quotL (b.n / Nat.gcd a.n b.n) (a.n / Nat.gcd a.n b.n) (a.e - b.e)).map fun p => ⟨a.neg != b.neg, p.1, p.2⟩
end Go.Proofs.YtfbhonjndepjbaaDoor
