import Derived.Test.YtgihginfegckcaaGreatDoorDtd
import Derived.Test.YtgihginfegckcaaGreatDoorDpuM
import Derived.LoopN
import Derived.Laws.MakeOwn
/- taken: Decs as numbers in their short form. -/
namespace Go.Proofs.YtgihginfegckcaaGreatDoor
open Go.RowKit

def within (e : Int) : Prop := -18 ≤ e ∧ e ≤ 18
def I64 (c : Int) : Prop := -9223372036854775808 ≤ c ∧ c ≤ 9223372036854775807

end Go.Proofs.YtgihginfegckcaaGreatDoor
/- taken: two Decs as numbers in their short form. -/
namespace Go.Proofs.YtgihginfegckcaaGreatDoor
open Go.RowKit

end Go.Proofs.YtgihginfegckcaaGreatDoor
/- Make; which of two sizes is greater; product; less. -/
namespace Go.Proofs.YtgihginfegckcaaGreatDoor
open Go.RowKit

set_option maxRecDepth 100000 in
set_option maxHeartbeats 400000 in
theorem cmpU (x y : Nat) (w : World) : Calls Tryz.prog 138 #[.int .u64 x, .int .u64 y] w fun r w' => r = .returned (.int .i64 (cN x y)) ∧ w' = w := by
  rcases Nat.lt_trichotomy x y with h | h | h
  · have e1 : (x : Int) < y := by omega
    rw [show cN x y = -1 by unfold cN; rw [if_pos h]]
    go_enter Tryz.func138, Tryz.ntmps138
    go_wp2
    go_ret
    exact ⟨rfl, rfl⟩
  · subst h
    rw [show cN x x = 0 by unfold cN; rw [if_neg (by omega), if_neg (by omega)]]
    go_enter Tryz.func138, Tryz.ntmps138
    go_wp2
    go_ret
    exact ⟨rfl, rfl⟩
  · have e1 : ¬ ((x : Int) < y) := by omega
    have e2 : (y : Int) < x := by omega
    rw [show cN x y = 1 by unfold cN; rw [if_neg (by omega), if_pos h]]
    go_enter Tryz.func138, Tryz.ntmps138
    go_wp2
    go_ret
    exact ⟨rfl, rfl⟩
set_option maxRecDepth 100000 in
set_option maxHeartbeats 400000 in
theorem or2 (x y : Int) (K : Nat) (w : World) (hK : Row w K 3 #[.int .i64 x, .int .i64 y]) : Calls Tryz.prog 137 #[.slice (some ⟨K, 0, none⟩) 2 2] w fun r w' => r = .returned (.int .i64 (if x ≠ 0 then x else y)) ∧ w' = w := by
  obtain ⟨k0, k1⟩ := hK.duo
  by_cases h : x = 0
  · subst h
    by_cases h2 : y = 0
    · subst h2
      rw [if_neg (by simp)]
      go_enter Tryz.func137, Tryz.ntmps137
      go_wp2
      refine wp_loop_rounds 3 ?_
      rw [rounds_succ]
      go_wp2
      rw [rounds_succ]
      go_wp2
      rw [rounds_succ]
      go_wp2
      go_ret
      exact ⟨rfl, rfl⟩
    · have e2 : (y != 0) = true := by simpa using h2
      rw [if_neg (by simp)]
      clear h2
      go_enter Tryz.func137, Tryz.ntmps137
      go_wp2
      refine wp_loop_rounds 3 ?_
      rw [rounds_succ]
      go_wp2
      rw [rounds_succ]
      go_wp2
      go_ret
      exact ⟨rfl, rfl⟩
  · have e2 : (x != 0) = true := by simpa using h
    rw [if_pos h]
    clear h
    go_enter Tryz.func137, Tryz.ntmps137
    go_wp2
    refine wp_loop_rounds 3 ?_
    rw [rounds_succ]
    go_wp2
    go_ret
    exact ⟨rfl, rfl⟩
end Go.Proofs.YtgihginfegckcaaGreatDoor
