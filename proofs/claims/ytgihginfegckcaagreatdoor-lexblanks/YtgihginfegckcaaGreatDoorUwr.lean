import Derived.Test.YtgihginfegckcaaGreatDoorMem
import Derived.Test.YtgihginfegckcaaGreatDoorApp
import Derived.Test.YtgihginfegckcaaGreatDoorUfpM
import Derived.Test.YtgihginfegckcaaGreatDoorRows
/- utf: the document's char and Write. -/
namespace Go.Proofs.YtgihginfegckcaaGreatDoor
open Go.RowKit

set_option maxRecDepth 100000 in
set_option maxHeartbeats 2000000 in
theorem char_any (m : Int) (w : World) : Calls Tryz.prog 100 #[.int .i64 m] w fun e w' => e = .returned (.bool (decide (charZ m))) ∧ w' = w := by
  by_cases h0 : m < 0
  · have e : decide (charZ m) = false := decide_eq_false (fun h => by have := h.1; omega)
    rw [e]
    go_enter Tryz.func100, Tryz.ntmps100
    go_wp2
    go_ret
    exact ⟨rfl, rfl⟩
  by_cases h1 : 1114111 < m
  · have e : decide (charZ m) = false := decide_eq_false (fun h => by have := h.2.1; omega)
    rw [e]
    go_enter Tryz.func100, Tryz.ntmps100
    go_wp2
    go_ret
    exact ⟨rfl, rfl⟩
  by_cases h2 : m < 55296
  · have e : decide (charZ m) = true := decide_eq_true ⟨by omega, by omega, by omega⟩
    rw [e]
    go_enter Tryz.func100, Tryz.ntmps100
    go_wp2
    go_ret
    exact ⟨rfl, rfl⟩
  by_cases h3 : m ≤ 57343
  · have e : decide (charZ m) = false := decide_eq_false (fun h => by have := h.2.2; omega)
    rw [e]
    go_enter Tryz.func100, Tryz.ntmps100
    go_wp2
    go_ret
    exact ⟨rfl, rfl⟩
  · have e : decide (charZ m) = true := decide_eq_true ⟨by omega, by omega, by omega⟩
    rw [e]
    go_enter Tryz.func100, Tryz.ntmps100
    go_wp2
    go_ret
    exact ⟨rfl, rfl⟩
end Go.Proofs.YtgihginfegckcaaGreatDoor
