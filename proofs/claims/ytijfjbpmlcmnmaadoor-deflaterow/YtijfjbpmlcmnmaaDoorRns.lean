/- Runs of lengths: what is none counts as 0; the symbol that tells the most. -/
import Derived.Test.YtijfjbpmlcmnmaaDoorRel
import Derived.Test.YtijfjbpmlcmnmaaDoorRtp
import Derived.Shelf.Abstract
import Derived.Shelf.RegionOpen
import Derived.WalkKit
import Derived.OwnWalkIn
import Derived.TacticsInMore
import Derived.LoopNIn
import Derived.LoopIn
namespace Go.Proofs.YtijfjbpmlcmnmaaDoor
open Go.RowKit Go.Shelf

def cln (z : Int) : Int := if z < 0 ∨ 15 < z then 0 else z
theorem cln_bd (z : Int) : 0 ≤ cln z ∧ cln z ≤ 15 := by unfold cln; split <;> omega

set_option maxRecDepth 100000 in
set_option maxHeartbeats 400000 in
theorem clean_any (z : Int) (w : World) : Calls Tryd.prog 44 #[.int .i64 z] w fun e w' => e = .returned (.int .i64 (cln z)) ∧ w' = w := by
  by_cases h : z < 0
  · have e : Hid (cln z = 0) := by show _ = _; unfold cln; rw [if_pos (.inl h)]
    go_enter Tryd.func44, Tryd.ntmps44
    go_wp2
    go_ret
    exact ⟨by rw [e.out]; rfl, rfl⟩
  · by_cases h2 : 15 < z
    · have e : Hid (cln z = 0) := by show _ = _; unfold cln; rw [if_pos (.inr h2)]
      go_enter Tryd.func44, Tryd.ntmps44
      go_wp2
      go_ret
      exact ⟨by rw [e.out]; rfl, rfl⟩
    · have e : Hid (cln z = z) := by show _ = _; unfold cln; rw [if_neg (by omega)]
      go_enter Tryd.func44, Tryd.ntmps44
      go_wp2
      go_ret
      exact ⟨by rw [e.out]; rfl, rfl⟩

/-- The symbol that tells the most of so many times a length, and how many it tells at least. -/
def symOf (len : Int) (t : Nat) : Int × Nat := if t < 3 then (len, 1) else if 0 < len then (16, 3) else if t < 11 then (17, 3) else (18, 11)
def bitsN (s : Int) : Nat := if s = 16 then 2 else if s = 17 then 3 else if s = 18 then 7 else 0

set_option maxRecDepth 100000 in
set_option maxHeartbeats 400000 in
theorem runSymbol_any (len : Int) (t : Nat) (w : World) (ht : t ≤ 140737488355328) : Calls Tryd.prog 27 #[.int .i64 len, .int .i64 (t : Int)] w fun e w' => e = .returned (.tuple #[.int .i64 (symOf len t).1, .int .i64 ((symOf len t).2 : Int)]) ∧ w' = w := by
  by_cases h1 : t < 3
  · have e : Hid (symOf len t = (len, 1)) := by show _ = _; simp [symOf, h1]
    have t1 : (t : Int) < 3 := by omega
    go_enter Tryd.func27, Tryd.ntmps27
    go_wp2
    exact bodyPost_ret (v := .tuple #[.int .i64 len, .int .i64 1]) (by simp [results, Tryd.f27, go_sem]) rfl ⟨by rw [e.out]; rfl, rfl⟩
  have t1 : ¬ ((t : Int) < 3) := by omega
  by_cases h2 : 0 < len
  · have e : Hid (symOf len t = (16, 3)) := by show _ = _; simp [symOf, h1, h2]
    go_enter Tryd.func27, Tryd.ntmps27
    go_wp2
    exact bodyPost_ret (v := .tuple #[.int .i64 16, .int .i64 3]) (by simp [results, Tryd.f27, go_sem]) rfl ⟨by rw [e.out]; rfl, rfl⟩
  by_cases h3 : t < 11
  · have e : Hid (symOf len t = (17, 3)) := by show _ = _; simp [symOf, h1, h2, h3]
    have t3 : (t : Int) < 11 := by omega
    go_enter Tryd.func27, Tryd.ntmps27
    go_wp2
    exact bodyPost_ret (v := .tuple #[.int .i64 17, .int .i64 3]) (by simp [results, Tryd.f27, go_sem]) rfl ⟨by rw [e.out]; rfl, rfl⟩
  · have e : Hid (symOf len t = (18, 11)) := by show _ = _; simp [symOf, h1, h2, h3]
    have t3 : ¬ ((t : Int) < 11) := by omega
    go_enter Tryd.func27, Tryd.ntmps27
    go_wp2
    exact bodyPost_ret (v := .tuple #[.int .i64 18, .int .i64 11]) (by simp [results, Tryd.f27, go_sem]) rfl ⟨by rw [e.out]; rfl, rfl⟩

set_option maxRecDepth 100000 in
set_option maxHeartbeats 400000 in
theorem runBits_any (s : Int) (w : World) : Calls Tryd.prog 28 #[.int .i64 s] w fun e w' => e = .returned (.int .i64 (bitsN s : Int)) ∧ w' = w := by
  by_cases h1 : s = 16
  · subst h1
    go_enter Tryd.func28, Tryd.ntmps28
    go_wp2
    go_ret
    exact ⟨rfl, rfl⟩
  have e1 : (s == 16) = false := by simpa using h1
  by_cases h2 : s = 17
  · subst h2
    go_enter Tryd.func28, Tryd.ntmps28
    go_wp2
    go_ret
    exact ⟨rfl, rfl⟩
  have e2 : (s == 17) = false := by simpa using h2
  by_cases h3 : s = 18
  · subst h3
    go_enter Tryd.func28, Tryd.ntmps28
    go_wp2
    go_ret
    exact ⟨rfl, rfl⟩
  have e3 : (s == 18) = false := by simpa using h3
  have e : Hid (bitsN s = 0) := by show _ = _; simp [bitsN, h1, h2, h3]
  go_enter Tryd.func28, Tryd.ntmps28
  go_wp2
  go_ret
  exact ⟨by rw [e.out]; rfl, rfl⟩

set_option maxRecDepth 100000 in
set_option maxHeartbeats 400000 in
theorem runs_any (sv : Option Addr) (len cap : Nat) (w : World) :
    Calls Tryd.prog 26 #[.slice sv len cap] w fun e w' => e = .returned (.func (.func 43) #[] #[.pointer (some ⟨w.heap.size, 0, none⟩)]) ∧ w' = w.alloc (.cells #[.slice sv len cap] 40) := by
  go_enter Tryd.func26, Tryd.ntmps26
  go_wp2
  go_ret
  exact ⟨rfl, rfl⟩
end Go.Proofs.YtijfjbpmlcmnmaaDoor
