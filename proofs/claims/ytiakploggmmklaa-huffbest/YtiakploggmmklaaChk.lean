/- check and Full: the counts of lengths that are right, or the error. -/
import Derived.Test.YtiakploggmmklaaFul
namespace Go.Proofs.Ytiakploggmmklaa
open Go.RowKit

/-- The error of these lengths: 1 ErrArg, 11 ErrCode, 0 none. -/
def errOf (zs : List Int) : Int := if okLen zs then (if rightB zs then 0 else 11) else 1
/-- The table that comes with it. -/
def tabOf (zs : List Int) : Array Value := if errOf zs = 0 then tab zs else tab []

set_option maxRecDepth 100000 in
set_option maxHeartbeats 2000000 in
theorem check_arg (S : Nat → Prop) (a : Option Addr) (cap : Nat) (zs : List Int) (w : World) (hS : ∀ k, S k → k < w.heap.size) (hI : IntsIn S w (.slice a zs.length cap) zs) (h : ¬ okLen zs) :
    Calls Try.prog 22 #[.slice a zs.length cap] w fun e w' => e = .returned (.tuple #[.agg (tab []), .int .i64 1]) ∧ Below w.heap.size w w' := by
  have hz := (zero_of_info Try.info53).1
  have hcnt := count_any S a cap zs (w.alloc (.cells (tab []) 58)) (fun k hk => by have := hS k hk; simp; omega) (hI.kept (((Kept.refl _ w).alloc hS _)))
  rw [if_neg h] at hcnt
  go_enter Try.func22, Try.ntmps22
  go_wp2_with fail
  refine hcnt.mono ?_
  rintro e w1 ⟨rfl, hB1⟩
  clear hcnt
  have R0 : Row w1 w.heap.size 58 (tab []) := (Row.new w 58 (tab [])).below hB1 (by simp)
  have hB : Below w.heap.size w w1 := ((Below.refl _ w).alloc (Nat.le_refl _) _).trans (hB1.mono (by simp))
  have R1 := Row.new w1 58 (tab [])
  have hs1 := store53 [] R1 (tab_size _)
  have hlt := hB.size
  have R0' : Row ((w1.alloc (.cells (tab []) 58)).setRow w1.heap.size (tab [])) w.heap.size 58 (tab []) := ((R0.alloc (.cells (tab []) 58)).kept (S := fun k => k ≠ w1.heap.size) ((Kept.refl _ _).setRow (by simp) _) (by have := R0.lt; simp; omega))
  have hB' : Below w.heap.size w ((w1.alloc (.cells (tab []) 58)).setRow w1.heap.size (tab [])) := below_setRow (hB.alloc hlt _) hlt _
  obtain ⟨w2, HW⟩ : ∃ w2, Hid (w2 = (w1.alloc (.cells (tab []) 58)).setRow w1.heap.size (tab [])) := ⟨_, rfl⟩
  rw [← HW.out] at hs1 R0' hB'
  have hs2 := store53 [] R0' (tab_size _)
  have HF : Hid (Below w.heap.size w (w2.setRow w.heap.size (tab []))) := below_setRow hB' (Nat.le_refl _) _
  have HL : Hid ((loadVar 58 ⟨w.heap.size, 0, none⟩).run Try.prog (w2.setRow w.heap.size (tab [])) = .ok (.agg (tab [])) (w2.setRow w.heap.size (tab []))) := load53v (R0'.setRow _) (tab_size _)
  clear R0 R1 R0' hB hB' hB1 hI
  go_wp2
  refine bodyPost_ret (v := .tuple #[.agg (tab []), .int .i64 1]) ?_ rfl ⟨rfl, HF.out⟩
  rw [results_cell_tmp rfl]
  have hl := HL.out
  simp [asAddr, Result.andThen, hl]

set_option maxRecDepth 100000 in
set_option maxHeartbeats 2000000 in
theorem check_code (S : Nat → Prop) (a : Option Addr) (cap : Nat) (zs : List Int) (w : World) (hS : ∀ k, S k → k < w.heap.size) (hI : IntsIn S w (.slice a zs.length cap) zs) (h : okLen zs) (hr : rightB zs = false) :
    Calls Try.prog 22 #[.slice a zs.length cap] w fun e w' => e = .returned (.tuple #[.agg (tab []), .int .i64 11]) ∧ Below w.heap.size w w' := by
  have hz := (zero_of_info Try.info53).1
  have hcnt := count_any S a cap zs (w.alloc (.cells (tab []) 58)) (fun k hk => by have := hS k hk; simp; omega) (hI.kept (((Kept.refl _ w).alloc hS _)))
  rw [if_pos h] at hcnt
  go_enter Try.func22, Try.ntmps22
  go_wp2_with fail
  refine hcnt.mono ?_
  rintro e w1 ⟨rfl, hB1⟩
  clear hcnt
  have R0 : Row w1 w.heap.size 58 (tab []) := (Row.new w 58 (tab [])).below hB1 (by simp)
  have hB : Below w.heap.size w w1 := ((Below.refl _ w).alloc (Nat.le_refl _) _).trans (hB1.mono (by simp))
  have R1 := Row.new w1 58 (tab [])
  have hs1 := store53 zs R1 (tab_size _)
  have hlt := hB.size
  have R0' : Row ((w1.alloc (.cells (tab []) 58)).setRow w1.heap.size (tab zs)) w.heap.size 58 (tab []) := ((R0.alloc (.cells (tab []) 58)).kept (S := fun k => k ≠ w1.heap.size) ((Kept.refl _ _).setRow (by simp) _) (by have := R0.lt; simp; omega))
  have R1' := R1.setRow (tab zs)
  have hB' : Below w.heap.size w ((w1.alloc (.cells (tab []) 58)).setRow w1.heap.size (tab zs)) := below_setRow (hB.alloc hlt _) hlt _
  have hsz : w1.heap.size < ((w1.alloc (.cells (tab []) 58)).setRow w1.heap.size (tab zs)).heap.size := R1'.lt
  obtain ⟨w2, HW⟩ : ∃ w2, Hid (w2 = (w1.alloc (.cells (tab []) 58)).setRow w1.heap.size (tab zs)) := ⟨_, rfl⟩
  rw [← HW.out] at hs1 R0' hB' R1' hsz
  obtain ⟨c0, c1, c2, c3, c4, c5, c6, c7, c8, c9, c10, c11, c12, c13, c14⟩ := R1'.tab
  have hfold := tab_fold zs
  have hrt := right_any zs h.1 w2
  rw [hr] at hrt
  have HB1 : Hid (w1.heap.size < w2.heap.size) := hsz
  have HB0 : Hid (w.heap.size ≤ w1.heap.size) := hlt
  clear R0 R1 hB hB1 hI hsz hlt HW
  go_wp2_with fail
  refine hrt.mono ?_
  rintro e w3 ⟨rfl, hB3⟩
  clear c0 c1 c2 c3 c4 c5 c6 c7 c8 c9 c10 c11 c12 c13 c14 hrt
  have R0' := R0'.below hB3 R0'.lt
  have R1' := R1'.below hB3 R1'.lt
  have hB' : Below w.heap.size w w3 := hB'.trans (hB3.mono hB'.size)
  obtain ⟨c0, c1, c2, c3, c4, c5, c6, c7, c8, c9, c10, c11, c12, c13, c14⟩ := R1'.tab
  have hs2 := store53 ([]) R0' (tab_size _)
  have HF : Hid (Below w.heap.size w (w3.setRow w.heap.size (tab ([])))) := below_setRow hB' (Nat.le_refl _) _
  have HL : Hid ((loadVar 58 ⟨w.heap.size, 0, none⟩).run Try.prog (w3.setRow w.heap.size (tab ([]))) = .ok (.agg (tab ([]))) (w3.setRow w.heap.size (tab ([])))) := load53v (R0'.setRow _) (tab_size _)
  clear R0' R1' hB' hB3 hs1
  go_wp2
  refine bodyPost_ret (v := .tuple #[.agg (tab ([])), .int .i64 11]) ?_ rfl ⟨rfl, HF.out⟩
  rw [results_cell_tmp rfl]
  have hl := HL.out
  simp [asAddr, Result.andThen, hl]

set_option maxRecDepth 100000 in
set_option maxHeartbeats 2000000 in
theorem check_ok (S : Nat → Prop) (a : Option Addr) (cap : Nat) (zs : List Int) (w : World) (hS : ∀ k, S k → k < w.heap.size) (hI : IntsIn S w (.slice a zs.length cap) zs) (h : okLen zs) (hr : rightB zs = true) :
    Calls Try.prog 22 #[.slice a zs.length cap] w fun e w' => e = .returned (.tuple #[.agg (tab zs), .int .i64 0]) ∧ Below w.heap.size w w' := by
  have hz := (zero_of_info Try.info53).1
  have hcnt := count_any S a cap zs (w.alloc (.cells (tab []) 58)) (fun k hk => by have := hS k hk; simp; omega) (hI.kept (((Kept.refl _ w).alloc hS _)))
  rw [if_pos h] at hcnt
  go_enter Try.func22, Try.ntmps22
  go_wp2_with fail
  refine hcnt.mono ?_
  rintro e w1 ⟨rfl, hB1⟩
  clear hcnt
  have R0 : Row w1 w.heap.size 58 (tab []) := (Row.new w 58 (tab [])).below hB1 (by simp)
  have hB : Below w.heap.size w w1 := ((Below.refl _ w).alloc (Nat.le_refl _) _).trans (hB1.mono (by simp))
  have R1 := Row.new w1 58 (tab [])
  have hs1 := store53 zs R1 (tab_size _)
  have hlt := hB.size
  have R0' : Row ((w1.alloc (.cells (tab []) 58)).setRow w1.heap.size (tab zs)) w.heap.size 58 (tab []) := ((R0.alloc (.cells (tab []) 58)).kept (S := fun k => k ≠ w1.heap.size) ((Kept.refl _ _).setRow (by simp) _) (by have := R0.lt; simp; omega))
  have R1' := R1.setRow (tab zs)
  have hB' : Below w.heap.size w ((w1.alloc (.cells (tab []) 58)).setRow w1.heap.size (tab zs)) := below_setRow (hB.alloc hlt _) hlt _
  have hsz : w1.heap.size < ((w1.alloc (.cells (tab []) 58)).setRow w1.heap.size (tab zs)).heap.size := R1'.lt
  obtain ⟨w2, HW⟩ : ∃ w2, Hid (w2 = (w1.alloc (.cells (tab []) 58)).setRow w1.heap.size (tab zs)) := ⟨_, rfl⟩
  rw [← HW.out] at hs1 R0' hB' R1' hsz
  obtain ⟨c0, c1, c2, c3, c4, c5, c6, c7, c8, c9, c10, c11, c12, c13, c14⟩ := R1'.tab
  have hfold := tab_fold zs
  have hrt := right_any zs h.1 w2
  rw [hr] at hrt
  have HB1 : Hid (w1.heap.size < w2.heap.size) := hsz
  have HB0 : Hid (w.heap.size ≤ w1.heap.size) := hlt
  clear R0 R1 hB hB1 hI hsz hlt HW
  go_wp2_with fail
  refine hrt.mono ?_
  rintro e w3 ⟨rfl, hB3⟩
  clear c0 c1 c2 c3 c4 c5 c6 c7 c8 c9 c10 c11 c12 c13 c14 hrt
  have R0' := R0'.below hB3 R0'.lt
  have R1' := R1'.below hB3 R1'.lt
  have hB' : Below w.heap.size w w3 := hB'.trans (hB3.mono hB'.size)
  obtain ⟨c0, c1, c2, c3, c4, c5, c6, c7, c8, c9, c10, c11, c12, c13, c14⟩ := R1'.tab
  have hs2 := store53 (zs) R0' (tab_size _)
  have HF : Hid (Below w.heap.size w (w3.setRow w.heap.size (tab (zs)))) := below_setRow hB' (Nat.le_refl _) _
  have HL : Hid ((loadVar 58 ⟨w.heap.size, 0, none⟩).run Try.prog (w3.setRow w.heap.size (tab (zs))) = .ok (.agg (tab (zs))) (w3.setRow w.heap.size (tab (zs)))) := load53v (R0'.setRow _) (tab_size _)
  clear R0' R1' hB' hB3 hs1
  go_wp2
  refine bodyPost_ret (v := .tuple #[.agg (tab (zs)), .int .i64 0]) ?_ rfl ⟨rfl, HF.out⟩
  rw [results_cell_tmp rfl]
  have hl := HL.out
  simp [asAddr, Result.andThen, hl]

theorem check_any (S : Nat → Prop) (a : Option Addr) (cap : Nat) (zs : List Int) (w : World) (hS : ∀ k, S k → k < w.heap.size) (hI : IntsIn S w (.slice a zs.length cap) zs) :
    Calls Try.prog 22 #[.slice a zs.length cap] w fun e w' => e = .returned (.tuple #[.agg (tabOf zs), .int .i64 (errOf zs)]) ∧ Below w.heap.size w w' := by
  by_cases h : okLen zs
  · cases hr : rightB zs
    · have e : errOf zs = 11 := by rw [errOf, if_pos h, hr]; rfl
      rw [tabOf, e]
      exact check_code S a cap zs w hS hI h hr
    · have e : errOf zs = 0 := by rw [errOf, if_pos h, hr]; rfl
      rw [tabOf, e]
      exact check_ok S a cap zs w hS hI h hr
  · have e : errOf zs = 1 := by rw [errOf, if_neg h]
    rw [tabOf, e]
    exact check_arg S a cap zs w hS hI h
end Go.Proofs.Ytiakploggmmklaa
