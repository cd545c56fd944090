/- Take where it refuses: a wrong number of bits, or too few left. -/
import Derived.Test.YtiheajlgaehfmaaDoorMem
namespace Go.Proofs.YtiheajlgaehfmaaDoor
open Go.RowKit

set_option maxHeartbeats 400000 in
theorem take_arg (R : Nat) (n : Int) (w : World) (hn : n < 0 ∨ 32 < n) : Calls Tryd.prog 46 #[.pointer (some ⟨R, 0, none⟩), .int .i64 n] w fun e w' => e = .returned (.tuple #[.int .u32 0, .int .i64 1]) ∧ w' = w := by
  rcases hn with h | h
  · go_enter Tryd.func46, Tryd.ntmps46
    go_wp2
    go_ret2
    exact ⟨rfl, rfl⟩
  · have h' : ¬ n < 0 := by omega
    go_enter Tryd.func46, Tryd.ntmps46
    go_wp2
    go_ret2
    exact ⟨rfl, rfl⟩

set_option maxHeartbeats 400000 in
theorem take_end (R : Nat) (g : Option Addr) (len c pos : Nat) (n : Int) (w : World) (hl : len ≤ 140737488355328) (hp : pos ≤ 8 * len) (h2 : Two w R 63 (.slice g len c) (.int .i64 pos)) (h0 : 0 ≤ n) (h32 : n ≤ 32) (hn : (8 * len - pos : Int) < n) :
    Calls Tryd.prog 46 #[.pointer (some ⟨R, 0, none⟩), .int .i64 n] w fun e w' => e = .returned (.tuple #[.int .u32 0, .int .i64 10]) ∧ ∃ q, w' = w.drewN q := by
  have t1 : ¬ n < 0 := by omega
  have t2 : ¬ 32 < n := by omega
  go_enter Tryd.func46, Tryd.ntmps46
  go_wp2_with (go_at_call 22; refine (left_any R g len c pos _ hl hp h2).mono ?_; rintro e w' ⟨rfl, q, rfl⟩)
  go_ret2
  exact ⟨rfl, _, rfl⟩
end Go.Proofs.YtiheajlgaehfmaaDoor
