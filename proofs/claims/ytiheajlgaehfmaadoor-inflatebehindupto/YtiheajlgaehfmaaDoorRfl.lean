/- Full, the document's and the program's; the document's Codes. -/
import Derived.Test.YtiheajlgaehfmaaDoorRrt
namespace Go.Proofs.YtiheajlgaehfmaaDoor
open Go.RowKit

def fullB (zs : List Int) : Bool := decide (errOf zs = 0) && decide (room zs 15 = 32768)

set_option maxRecDepth 100000 in
set_option maxHeartbeats 2000000 in
theorem refFull_r (r : Bool) (S : Nat → Prop) (a : Option Addr) (cap : Nat) (zs : List Int) (HR : Hid (r = fullB zs)) (w : World) (hI : IntsIn S w (.slice a zs.length cap) zs) :
    Calls Tryd.prog 64 #[.slice a zs.length cap] w fun e w' => e = .returned (.bool r) ∧ w' = w := by
  have HRT : Hid _ := refRight_any S a cap zs w hI
  by_cases h0 : errOf zs = 0
  · have hok := (errOf_zero h0).1
    have hsp := spS_spec zs hok.2 zs.length (Nat.le_refl _)
    rw [List.take_length] at hsp
    have HSPC : Hid _ := space_any S a cap zs w hI hok.1 hok.2 _ _ hsp
    have HRR : Hid (r = decide (room zs 15 = 32768)) := by show _ = _; rw [show r = _ from HR.out, fullB, h0]; simp
    rw [h0] at HRT
    clear hsp hok HR h0 hI
    go_enter Tryd.func64, Tryd.ntmps64
    go_wp2_with fail
    refine Calls.mono HRT.out ?_
    rintro e w' ⟨rfl, rfl⟩
    go_wp2_with fail
    refine Calls.mono HSPC.out ?_
    rintro e w' ⟨rfl, rfl⟩
    clear HSPC HRT
    generalize room zs 15 = R at HRR
    have HQ : Hid (((R : Int) == 32768) = r) := by
      show _ = _
      rw [HRR.out, Bool.eq_iff_iff]
      simp
      omega
    go_wp2
    go_ret
    exact ⟨congrArg (fun b => Ending.returned (.bool b)) HQ.out, rfl⟩
  · obtain rfl : r = false := by rw [show r = _ from HR.out, fullB]; simp [h0]
    have ht : (errOf zs != 0) = true := by simpa using h0
    clear hI HR h0
    generalize errOf zs = q at HRT ht
    go_enter Tryd.func64, Tryd.ntmps64
    go_wp2_with fail
    refine Calls.mono HRT.out ?_
    rintro e w' ⟨rfl, rfl⟩
    go_wp2
    go_ret
    exact ⟨rfl, rfl⟩
theorem refFull_any (S : Nat → Prop) (a : Option Addr) (cap : Nat) (zs : List Int) (w : World) (hI : IntsIn S w (.slice a zs.length cap) zs) :
    Calls Tryd.prog 64 #[.slice a zs.length cap] w fun e w' => e = .returned (.bool (fullB zs)) ∧ w' = w := refFull_r _ S a cap zs rfl w hI

set_option maxRecDepth 100000 in
set_option maxHeartbeats 2000000 in
theorem full10_r (r : Bool) (S : Nat → Prop) (a : Option Addr) (cap : Nat) (zs : List Int) (HR : Hid (r = fullB zs)) (w : World) (hS : ∀ k, S k → k < w.heap.size) (hI : IntsIn S w (.slice a zs.length cap) zs) :
    Calls Tryd.prog 74 #[.slice a zs.length cap] w fun e w' => e = .returned (.bool r) ∧ Below w.heap.size w w' := by
  have hz := (zero_of_info Tryd.info53).1
  have HC : Hid _ := check_any S a cap zs w hS hI
  by_cases h0 : errOf zs = 0
  · have hok := (errOf_zero h0).1.1
    have HRR : Hid (decide (room zs 15 = 32768) = r) := by show _ = _; rw [show r = _ from HR.out, fullB, h0]; simp
    rw [show tabOf zs = tab zs by rw [tabOf, if_pos h0], h0] at HC
    clear HR h0 hI
    go_enter Tryd.func74, Tryd.ntmps74
    go_wp2_with fail
    refine Calls.mono HC.out ?_
    rintro e w1 ⟨rfl, hB⟩
    have R1 := Row.new w1 108 (tab [])
    have hs1 := store53 zs R1 (tab_size _)
    have hlt := hB.size
    have hB' : Below w.heap.size w ((w1.alloc (.cells (tab []) 108)).setRow w1.heap.size (tab zs)) := below_setRow (hB.alloc hlt _) hlt _
    have R1' := R1.setRow (tab zs)
    obtain ⟨w2, HW⟩ : ∃ w2, w2 = (w1.alloc (.cells (tab []) 108)).setRow w1.heap.size (tab zs) := ⟨_, rfl⟩
    rw [← HW] at hs1 hB' R1'
    obtain ⟨c0, c1, c2, c3, c4, c5, c6, c7, c8, c9, c10, c11, c12, c13, c14⟩ := R1'.tab
    have hfold := tab_fold zs
    clear HW R1 R1' hB HC
    go_wp2_with fail
    refine (full_any zs hok w2).mono ?_
    rintro e w3 ⟨rfl, hw3⟩
    have hB3 : Below w.heap.size w w3 := by rw [hw3]; exact hB'.alloc hB'.size _
    clear hw3 hB' c0 c1 c2 c3 c4 c5 c6 c7 c8 c9 c10 c11 c12 c13 c14
    rw [HRR.out]
    go_wp2
    go_ret
    exact ⟨rfl, hB3⟩
  · obtain rfl : r = false := by rw [show r = _ from HR.out, fullB]; simp [h0]
    have ht : (errOf zs == 0) = false := by simpa using h0
    rw [show tabOf zs = tab [] by rw [tabOf, if_neg h0]] at HC
    clear hI HR h0
    generalize errOf zs = q at HC ht
    go_enter Tryd.func74, Tryd.ntmps74
    go_wp2_with fail
    refine Calls.mono HC.out ?_
    rintro e w1 ⟨rfl, hB⟩
    have R1 := Row.new w1 108 (tab [])
    have hs1 := store53 [] R1 (tab_size _)
    have hlt := hB.size
    have HB' : Hid (Below w.heap.size w ((w1.alloc (.cells (tab []) 108)).setRow w1.heap.size (tab []))) := below_setRow (hB.alloc hlt _) hlt _
    clear R1 hB HC
    go_wp2
    go_ret
    exact ⟨rfl, HB'.out⟩
theorem full10_any (S : Nat → Prop) (a : Option Addr) (cap : Nat) (zs : List Int) (w : World) (hS : ∀ k, S k → k < w.heap.size) (hI : IntsIn S w (.slice a zs.length cap) zs) :
    Calls Tryd.prog 74 #[.slice a zs.length cap] w fun e w' => e = .returned (.bool (fullB zs)) ∧ Below w.heap.size w w' := full10_r _ S a cap zs rfl w hS hI
end Go.Proofs.YtiheajlgaehfmaaDoor
