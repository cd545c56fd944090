/- Box and Less, the program's and the document's. -/
import Derived.Test.YtnblbakjfpfipaaGreatDoorRws
import Derived.Test.YtnblbakjfpfipaaGreatDoorWah
import Derived.Test.YtnblbakjfpfipaaGreatDoorOrn
import Derived.BigQuiet
namespace Go.Proofs.YtnblbakjfpfipaaGreatDoor
open Go.RowKit

theorem ret_four {fn : Func} {t u v x : Tmp} (h : fn.results = #[.tmp t, .tmp u, .tmp v, .tmp x]) (tmps : Array Value) (P : Program) (w : World) :
    (results fn tmps).run P w = .ok (.tuple #[tmps.getD t undef, tmps.getD u undef, tmps.getD v undef, tmps.getD x undef]) w := by
  simp [results, h]
set_option maxRecDepth 100000 in
set_option maxHeartbeats 1000000 in
theorem box_any (a b : Rf) (w : World) :
    Calls Tryz.prog 27 #[a.v, b.v] w fun e w' => e = .returned (.tuple #[.int .i64 (min a.c b.c), .int .i64 (min a.r b.r), .int .i64 (max a.c b.c), .int .i64 (max a.r b.r)]) ∧ Below w.heap.size w w' := by
  obtain ⟨sa, ca, ra, aca, ara⟩ := a
  obtain ⟨sb, cb, rb, acb, arb⟩ := b
  unfold Rf.v
  simp only
  go_enter Tryz.func27, Tryz.ntmps27
  go_wp2_with fail
  obtain ⟨hA, hC, hB⟩ := two_rows w _ _ _ 23 23 (Below.refl _ ((w.alloc (.cells #[.string sa, .int .i64 ca, .int .i64 ra, .bool aca, .bool ara] 23)).alloc (.cells #[.string sb, .int .i64 cb, .int .i64 rb, .bool acb, .bool arb] 23)))
  generalize ((w.alloc (.cells #[.string sa, .int .i64 ca, .int .i64 ra, .bool aca, .bool ara] 23)).alloc (.cells #[.string sb, .int .i64 cb, .int .i64 rb, .bool acb, .bool arb] 23)) = W at *
  obtain ⟨a0, a1, a2, a3, a4⟩ := hA.five
  obtain ⟨c0, c1, c2, c3, c4⟩ := hC.five
  go_quiet (fail)
  go_wp2
  refine bodyPost_ret (ret_four rfl _ _ _) rfl ?_
  exact ⟨rfl, below_drewN hB _⟩
set_option maxRecDepth 100000 in
set_option maxHeartbeats 1000000 in
theorem refBox_any (a b : Rf) (w : World) :
    Calls Tryz.prog 28 #[a.v, b.v] w fun e w' => e = .returned (.tuple #[.int .i64 (min a.c b.c), .int .i64 (min a.r b.r), .int .i64 (max a.c b.c), .int .i64 (max a.r b.r)]) ∧ Below w.heap.size w w' := by
  obtain ⟨sa, ca, ra, aca, ara⟩ := a
  obtain ⟨sb, cb, rb, acb, arb⟩ := b
  unfold Rf.v
  simp only
  go_enter Tryz.func28, Tryz.ntmps28
  go_wp2_with fail
  obtain ⟨hA, hC, hB⟩ := two_rows w _ _ _ 23 23 (Below.refl _ ((w.alloc (.cells #[.string sa, .int .i64 ca, .int .i64 ra, .bool aca, .bool ara] 23)).alloc (.cells #[.string sb, .int .i64 cb, .int .i64 rb, .bool acb, .bool arb] 23)))
  generalize ((w.alloc (.cells #[.string sa, .int .i64 ca, .int .i64 ra, .bool aca, .bool ara] 23)).alloc (.cells #[.string sb, .int .i64 cb, .int .i64 rb, .bool acb, .bool arb] 23)) = W at *
  obtain ⟨a0, a1, a2, a3, a4⟩ := hA.five
  obtain ⟨c0, c1, c2, c3, c4⟩ := hC.five
  go_quiet (fail)
  go_wp2
  refine bodyPost_ret (ret_four rfl _ _ _) rfl ?_
  exact ⟨rfl, below_drewN hB _⟩
def cmpS (a b : ByteArray) : Int := if Op.bytesLess a.toList b.toList then -1 else if !Op.bytesLess a.toList b.toList && !(a.toList == b.toList) then 1 else 0
set_option maxRecDepth 100000 in
set_option maxHeartbeats 1000000 in
theorem compareS_any (a b : ByteArray) (w : World) : Calls Tryz.prog 50 #[.string a, .string b] w fun e w' => e = .returned (.int .i64 (cmpS a b)) ∧ w' = w := by
  have hn : ∀ (s : ByteArray), (s.toList != s.toList) = false := fun s => by simp
  have ha := hn a
  have hb := hn b
  clear hn
  unfold cmpS
  cases h1 : Op.bytesLess a.toList b.toList
  · cases h2 : (a.toList == b.toList)
    all_goals
      go_enter Tryz.func50, Tryz.ntmps50
      go_wp2
      go_ret
      exact ⟨by simp, rfl⟩
  · go_enter Tryz.func50, Tryz.ntmps50
    go_wp2
    go_ret
    exact ⟨by simp, rfl⟩
def orI (x y z : Int) : Int := if x = 0 then (if y = 0 then z else y) else x
set_option maxRecDepth 100000 in
set_option maxHeartbeats 1000000 in
theorem or_any (x y z : Int) (g : Nat) (w : World) (h0 : w.cell? ⟨g, 0, none⟩ = some (.int .i64 x)) (h1 : w.cell? ⟨g, 1, none⟩ = some (.int .i64 y)) (h2 : w.cell? ⟨g, 2, none⟩ = some (.int .i64 z)) :
    Calls Tryz.prog 49 #[.slice (some ⟨g, 0, none⟩) 3 3] w fun e w' => e = .returned (.int .i64 (orI x y z)) ∧ w' = w := by
  unfold orI
  by_cases hx : x = 0
  · rw [if_pos hx]
    have ex : ((x != 0) : Bool) = false := by simp [hx]
    by_cases hy : y = 0
    · rw [if_pos hy]
      have ey : ((y != 0) : Bool) = false := by simp [hy]
      by_cases hz : z = 0
      · have ez : ((z != 0) : Bool) = false := by simp [hz]
        go_enter Tryz.func49, Tryz.ntmps49
        go_wp2
        refine wp_loop_rounds 4 ?_
        rw [rounds_succ]
        go_wp2
        rw [rounds_succ]
        go_wp2
        rw [rounds_succ]
        go_wp2
        rw [rounds_succ]
        go_wp2
        go_ret
        exact ⟨by rw [hz]; rfl, rfl⟩
      · have ez : ((z != 0) : Bool) = true := by simp [hz]
        go_enter Tryz.func49, Tryz.ntmps49
        go_wp2
        refine wp_loop_rounds 4 ?_
        rw [rounds_succ]
        go_wp2
        rw [rounds_succ]
        go_wp2
        rw [rounds_succ]
        go_wp2
        go_ret
        exact ⟨rfl, rfl⟩
    · rw [if_neg hy]
      have ey : ((y != 0) : Bool) = true := by simp [hy]
      go_enter Tryz.func49, Tryz.ntmps49
      go_wp2
      refine wp_loop_rounds 4 ?_
      rw [rounds_succ]
      go_wp2
      rw [rounds_succ]
      go_wp2
      go_ret
      exact ⟨rfl, rfl⟩
  · rw [if_neg hx]
    have ex : ((x != 0) : Bool) = true := by simp [hx]
    go_enter Tryz.func49, Tryz.ntmps49
    go_wp2
    refine wp_loop_rounds 4 ?_
    rw [rounds_succ]
    go_wp2
    go_ret
    exact ⟨rfl, rfl⟩
end Go.Proofs.YtnblbakjfpfipaaGreatDoor
