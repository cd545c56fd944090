/- Make; which of two sizes is greater; product; less. -/
import Derived.Test.YtfbhonjndepjbaaDoorWtj
namespace Go.Proofs.YtfbhonjndepjbaaDoor
open Go.RowKit

set_option maxRecDepth 100000 in
set_option maxHeartbeats 400000 in
theorem make_any (c e : Int) (hc : I64 c) (he : I64 e) (w : World) : Calls Tryd.prog 24 #[.int .i64 c, .int .i64 e] w fun r w' => r = .returned (decV (tell c e)) ∧ Below w.heap.size w w' := by
  have hN := number_W c e hc.1 hc.2
  have hT := told_true (numW c e) (by unfold numW M128; have := hc.1; have := hc.2; simp only; omega) (by have := he.2; unfold numW; simp only; omega) (by have := he.1; unfold numW; simp only; omega)
  rw [show tellW (numW c e).neg (numW c e).n (numW c e).e = tell c e from rfl] at hT
  obtain ⟨a, b, v, hv⟩ : ∃ a b v, decV (tell c e) = .tuple #[.agg #[.int .i64 a, .int .i64 b], .int .i64 v] := by
    cases h : tell c e with
    | none => exact ⟨_, _, _, rfl⟩
    | some p => exact ⟨_, _, _, rfl⟩
  rw [hv] at hT ⊢
  generalize (numW c e).val = nv at *
  clear hv
  go_enter Tryd.func24, Tryd.ntmps24
  go_wp2_with fail
  refine (hN _).mono ?_
  rintro _ wa ⟨rfl, ha⟩
  have hr := (Row.new w 23 #[.int .i64 0, .int .i64 0]).below ha (by simp)
  have hB := ((Below.refl _ w).alloc (Nat.le_refl _) (.cells #[.int .i64 0, .int .i64 0] 23)).trans (ha.mono (by simp))
  clear ha
  go_wp2_with fail
  refine (hT _).mono ?_
  rintro _ wb ⟨rfl, hb⟩
  have hr := hr.below hb hr.lt
  have hB := hB.trans (hb.mono hB.size)
  obtain ⟨d0, d1⟩ := hr.duo
  have z := hr.frozen
  clear hb hN hT
  go_wp2
  refine bodyPost_ret (ret_two rfl (g := w.heap.size) rfl rfl (load23 (Row.set2 hr _ _) rfl)) rfl ⟨rfl, ?_⟩
  repeat (refine below_set ?_ _ _ (by omega))
  exact hB
set_option maxRecDepth 100000 in
set_option maxHeartbeats 400000 in
theorem cmpU (x y : Nat) (w : World) : Calls Tryd.prog 100 #[.int .u64 x, .int .u64 y] w fun r w' => r = .returned (.int .i64 (cN x y)) ∧ w' = w := by
  rcases Nat.lt_trichotomy x y with h | h | h
  · have e1 : (x : Int) < y := by omega
    rw [show cN x y = -1 by unfold cN; rw [if_pos h]]
    go_enter Tryd.func100, Tryd.ntmps100
    go_wp2
    go_ret
    exact ⟨rfl, rfl⟩
  · subst h
    rw [show cN x x = 0 by unfold cN; rw [if_neg (by omega), if_neg (by omega)]]
    go_enter Tryd.func100, Tryd.ntmps100
    go_wp2
    go_ret
    exact ⟨rfl, rfl⟩
  · have e1 : ¬ ((x : Int) < y) := by omega
    have e2 : (y : Int) < x := by omega
    rw [show cN x y = 1 by unfold cN; rw [if_neg (by omega), if_pos h]]
    go_enter Tryd.func100, Tryd.ntmps100
    go_wp2
    go_ret
    exact ⟨rfl, rfl⟩
set_option maxRecDepth 100000 in
set_option maxHeartbeats 400000 in
theorem or2 (x y : Int) (K : Nat) (w : World) (hK : Row w K 3 #[.int .i64 x, .int .i64 y]) : Calls Tryd.prog 99 #[.slice (some ⟨K, 0, none⟩) 2 2] w fun r w' => r = .returned (.int .i64 (if x ≠ 0 then x else y)) ∧ w' = w := by
  obtain ⟨k0, k1⟩ := hK.duo
  by_cases h : x = 0
  · subst h
    by_cases h2 : y = 0
    · subst h2
      rw [if_neg (by simp)]
      go_enter Tryd.func99, Tryd.ntmps99
      go_wp2
      refine wp_loop_rounds 3 ?_
      rw [rounds_succ]
      go_wp2
      rw [rounds_succ]
      go_wp2
      rw [rounds_succ]
      go_wp2
      go_ret
      exact ⟨rfl, rfl⟩
    · have e2 : (y != 0) = true := by simpa using h2
      rw [if_neg (by simp)]
      clear h2
      go_enter Tryd.func99, Tryd.ntmps99
      go_wp2
      refine wp_loop_rounds 3 ?_
      rw [rounds_succ]
      go_wp2
      rw [rounds_succ]
      go_wp2
      go_ret
      exact ⟨rfl, rfl⟩
  · have e2 : (x != 0) = true := by simpa using h
    rw [if_pos h]
    clear h
    go_enter Tryd.func99, Tryd.ntmps99
    go_wp2
    refine wp_loop_rounds 3 ?_
    rw [rounds_succ]
    go_wp2
    go_ret
    exact ⟨rfl, rfl⟩
end Go.Proofs.YtfbhonjndepjbaaDoor
