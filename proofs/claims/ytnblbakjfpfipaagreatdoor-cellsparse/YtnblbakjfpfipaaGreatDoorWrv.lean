import Derived.Test.YtnblbakjfpfipaaGreatDoorRws
import Derived.BigQuiet
/- slices.Reverse of one byte or two. -/
namespace Go.Proofs.YtnblbakjfpfipaaGreatDoor
open Go.RowKit

set_option maxRecDepth 100000 in
set_option maxHeartbeats 1000000 in
theorem rev1 (g cap : Nat) (w : World) : Calls Tryz.prog 35 #[.slice (some ⟨g, 0, none⟩) 1 cap] w fun e w' => e = .returned (.tuple #[]) ∧ w' = w := by
  go_enter Tryz.func35, Tryz.ntmps35
  go_wp2
  refine wp_loop_rounds 1 ?_
  rw [rounds_succ]
  go_wp2
  go_end0
  exact ⟨rfl, rfl⟩
set_option maxRecDepth 100000 in
set_option maxHeartbeats 2000000 in
theorem rev2 (g cap : Nat) (a b : Int) (w : World) (h0 : w.cell? ⟨g, 0, none⟩ = some (.int .u8 a)) (h1 : w.cell? ⟨g, 1, none⟩ = some (.int .u8 b)) (z : ∀ o, w.frozen? ⟨g, o, none⟩ = false) :
    Calls Tryz.prog 35 #[.slice (some ⟨g, 0, none⟩) 2 cap] w fun e w' => e = .returned (.tuple #[]) ∧ ∃ q, w' = ((w.setCell ⟨g, 0, none⟩ (.int .u8 b)).setCell ⟨g, 1, none⟩ (.int .u8 a)).drewN q := by
  have z0 := z 0
  have z1 := z 1
  go_enter Tryz.func35, Tryz.ntmps35
  go_wp2
  refine wp_loop_rounds 2 ?_
  rw [rounds_succ]
  go_wp2_with fail
  go_region
  all_goals
    simp only [Exit.inBlock, Exit.then]
    go_wp2
    rw [rounds_succ]
    go_wp2
    go_end0
    exact ⟨rfl, 1, rfl⟩
end Go.Proofs.YtnblbakjfpfipaaGreatDoor
