/- column, row, further. -/
import Derived.Test.YtnblbakjfpfipaaGreatDoorShf
import Derived.WalkKit
import Derived.WalkSpells
namespace Go.Proofs.YtnblbakjfpfipaaGreatDoor
open Go.RowKit

theorem wrap64_id (n : Int) (h : -9223372036854775808 ≤ n ∧ n ≤ 9223372036854775807) : wrap64 n = n := by unfold wrap64; omega
def colB (n : Int) : Bool := decide (1 ≤ n) && decide (n ≤ 64)
def rowB (n : Int) : Bool := decide (1 ≤ n) && decide (n ≤ 512)

set_option maxHeartbeats 400000 in
theorem column_any (n : Int) (w : World) : Calls Tryz.prog 31 #[.int .i64 n] w fun e w' => e = .returned (.bool (colB n)) ∧ w' = w := by
  by_cases h1 : 1 ≤ n
  · by_cases h2 : n ≤ 64
    all_goals
      go_enter Tryz.func31, Tryz.ntmps31
      go_wp2
      go_ret
      exact ⟨by simp [colB, h1, h2], rfl⟩
  · go_enter Tryz.func31, Tryz.ntmps31
    go_wp2
    go_ret
    exact ⟨by simp [colB]; omega, rfl⟩
set_option maxHeartbeats 400000 in
theorem row_any (n : Int) (w : World) : Calls Tryz.prog 40 #[.int .i64 n] w fun e w' => e = .returned (.bool (rowB n)) ∧ w' = w := by
  by_cases h1 : 1 ≤ n
  · by_cases h2 : n ≤ 512
    all_goals
      go_enter Tryz.func40, Tryz.ntmps40
      go_wp2
      go_ret
      exact ⟨by simp [rowB, h1, h2], rfl⟩
  · go_enter Tryz.func40, Tryz.ntmps40
    go_wp2
    go_ret
    exact ⟨by simp [rowB]; omega, rfl⟩

/-- n and b together, if that is from 1 to m. -/
def farB (n b m : Int) : Bool := decide (1 ≤ n + b) && decide (n + b ≤ m)
set_option maxHeartbeats 400000 in
theorem further_any (n b m : Int) (hm : m ≤ 512) (h1 : 1 ≤ n) (h2 : n ≤ m) (hb1 : -9223372036854775808 ≤ b) (hb2 : b ≤ 9223372036854775807) (w : World) :
    Calls Tryz.prog 47 #[.int .i64 n, .int .i64 b, .int .i64 m] w fun e w' => e = .returned (.tuple #[.int .i64 (if farB n b m then n + b else 0), .bool (farB n b m)]) ∧ w' = w := by
  have e1 : wrap64 (1 - n) = 1 - n := wrap64_id _ (by omega)
  have e2 : wrap64 (m - n) = m - n := wrap64_id _ (by omega)
  by_cases ha : b < 1 - n
  · have e : farB n b m = false := by simp [farB]; omega
    rw [e]
    go_enter Tryz.func47, Tryz.ntmps47
    go_wp2
    go_ret2
    exact ⟨rfl, rfl⟩
  · by_cases hc : b > m - n
    · have e : farB n b m = false := by simp [farB]; omega
      rw [e]
      go_enter Tryz.func47, Tryz.ntmps47
      go_wp2
      go_ret2
      exact ⟨rfl, rfl⟩
    · have e : farB n b m = true := by simp [farB]; omega
      rw [e]
      have e3 : wrap64 (n + b) = n + b := wrap64_id _ (by omega)
      go_enter Tryz.func47, Tryz.ntmps47
      go_wp2
      go_ret2
      exact ⟨rfl, rfl⟩
end Go.Proofs.YtnblbakjfpfipaaGreatDoor
