import Derived.Test.YtinbilbgipfemaaDoorRep
import Derived.Test.YtinbilbgipfemaaDoorWay
import Derived.RegionTactic
import Derived.Test.YtinbilbgipfemaaDoorOrdM
/- The finder is made. -/
namespace Go.Proofs.YtinbilbgipfemaaDoor
open Go.RowKit

/-- What has been made: the row of heads, the row of places, the finder. -/
def Found (w : World) (a : Option Addr) (len cap m : Nat) (v : Value) (w' : World) : Prop :=
  ∃ F H P, v = .pointer (some ⟨F, 0, none⟩) ∧ w.heap.size ≤ F ∧ w.heap.size ≤ H ∧ w.heap.size ≤ P ∧ F ≠ H ∧ F ≠ P ∧ H ≠ P ∧
      Row w' F 75 #[.slice a len cap, .slice (some ⟨H, 0, none⟩) m m, .slice (some ⟨P, 0, none⟩) len len] ∧ Row w' H 3 (repC m m (-1)).toArray ∧ Row w' P 3 (repC 0 len 0).toArray ∧ Below w.heap.size w w'

theorem found_of {w w5 : World} {a : Option Addr} {len cap m H P F : Nat} (hH : Row w5 H 3 (repC m m (-1)).toArray) (hP : Row w5 P 3 (repC 0 len 0).toArray) (h1 : w.heap.size ≤ H) (h2 : w.heap.size ≤ P) (h3 : H ≠ P) (hF : F = w5.heap.size) (hb : Below w.heap.size w w5) :
    Found w a len cap m (.pointer (some ⟨F, 0, none⟩)) (w5.alloc (.cells #[.slice a len cap, .slice (some ⟨H, 0, none⟩) m m, .slice (some ⟨P, 0, none⟩) len len] 75)) := by
  subst hF
  have := hH.lt
  have := hP.lt
  exact ⟨w5.heap.size, H, P, rfl, by omega, h1, h2, by omega, by omega, h3, Row.new w5 75 _, hH.alloc _, hP.alloc _, hb.alloc (by omega) _⟩

set_option maxRecDepth 100000 in
set_option maxHeartbeats 2000000 in
theorem newFinder_any (a : Option Addr) (len cap m : Nat) (w : World) (hl : len ≤ 2000000) (hm : m = min 32768 (len + 1)) :
    Calls Tryd.prog 17 #[.slice a len cap] w fun e w' => ∃ v, e = .returned v ∧ Found w a len cap m v w' := by
  have hmk : ∀ W : World, _ := fun W => run_make_row' (P := Tryd.prog) 40 3 (.int .i64 0) 8 Tryd.underlying40 Tryd.info3' rfl .i64 .i64 len (by omega) (by omega) W
  have h1 : Hid (1 ≤ m ∧ m ≤ 100000) := by show _ ∧ _; omega
  have HM : Hid (m = min 32768 (len + 1)) := hm
  clear hm
  have hwr : IntKind.i64.wrap ((len : Int) + 1) = (len : Int) + 1 := by simp [IntKind.wrap, IntKind.bits, IntKind.signed]; omega
  have hz0 : Hid (∀ W : World, Row (W.alloc (.cells (madeCells #[.int .i64 0] len) 3)) W.heap.size 3 (repC 0 len 0).toArray) := fun W => by rw [made_repC len 0]; exact Row.new W 3 _
  go_enter Tryd.func17, Tryd.ntmps17
  go_wp2_with fail
  refine wp_region_L 13 rfl (by kernel_rfl) ?_
  refine wpL_free 0 (v := ?_) rfl (by kernel_rfl) (by kernel_rfl) rfl (fun _ _ _ h => h) rfl (by intro wx; go_simp <;> rfl) ?_
  refine wpL_free 2 (v := ?_) rfl (by kernel_rfl) (by kernel_rfl) rfl (fun _ _ _ h => h) rfl (by intro wx; go_simp <;> rfl) ?_
  refine wpL_free 3 (v := ?_) rfl (by kernel_rfl) (by kernel_rfl) rfl (fun _ _ _ h => h) rfl (by intro wx; go_simp <;> rfl) ?_
  refine wpL_free 4 (v := ?_) rfl (by kernel_rfl) (by kernel_rfl) rfl (fun _ _ _ h => h) rfl (by intro wx; go_simp <;> rfl) ?_
  refine wpL_free 5 (v := .int .i64 (m : Int)) rfl (by kernel_rfl) (by kernel_rfl) rfl (fun _ _ _ h => h) rfl (by
    intro wx
    have e : (m : Int) = if (len : Int) + 1 < 32768 then (len : Int) + 1 else 32768 := by have := HM.out; split <;> omega
    rw [e]
    by_cases h : (len : Int) + 1 < 32768
    · rw [if_pos h]; go_simp; try omega
    · rw [if_neg h]; go_simp; try omega) ?_
  refine wpL_free 7 (v := ?_) rfl (by kernel_rfl) (by kernel_rfl) rfl (fun _ _ _ h => h) rfl (by intro wx; go_simp <;> rfl) ?_
  refine wpL_free 8 (v := ?_) rfl (by kernel_rfl) (by kernel_rfl) rfl (fun _ _ _ h => h) rfl (by intro wx; go_simp <;> rfl) ?_
  refine wpL_two 1 9 rfl rfl (by kernel_rfl) rfl rfl ?_ ?_
  · go_wp2
    show wpL _ _ _ _ _ _ _
    refine wpL_two 6 9 rfl rfl (by kernel_rfl) rfl rfl ?_ ?_
    · go_wp2_with fail
      refine Calls.mono (repeat_any (-1) m _ h1.out.1 h1.out.2 _ (by simp)) ?_
      rintro e w4 ⟨B, rfl, hB, hRow, hbel⟩
      go_wp2
      show wpL _ _ _ _ _ _ _
      refine wpL_one 9 rfl (by kernel_rfl) rfl ?_
      go_wp2
      show wpL _ _ _ _ _ _ _
      refine wpL_one 10 rfl (by kernel_rfl) rfl ?_
      go_wp2
      show wpL _ _ _ _ _ _ _
      refine wpL_one 11 rfl (by kernel_rfl) rfl ?_
      go_wp2
      show wpL _ _ _ _ _ _ _
      refine wpL_one 12 rfl (by kernel_rfl) rfl ?_
      go_wp2
      show wpL _ _ _ _ _ _ _
      refine wpL_done (by kernel_rfl) ?_
      go_wp2
      go_ret
      refine ⟨_, rfl, found_of (H := B) (P := w4.heap.size) (hRow.alloc _) (hz0.out w4) ?_ ?_ ?_ ?_ ?_⟩
      · simp at hB; omega
      · have := hRow.lt; simp at hB; omega
      · have := hRow.lt; omega
      · simp
      · exact ((((Below.refl _ w).alloc (Nat.le_refl _) (.cells #[.int .i64 (-1)] 3)).drew.trans (hbel.mono (by simp)))).alloc (by have := hRow.lt; simp at hB; omega) _
    · go_wp2
      show wpL _ _ _ _ _ _ _
      refine wpL_one 6 rfl (by kernel_rfl) rfl ?_
      go_wp2_with fail
      refine Calls.mono (repeat_any (-1) m _ h1.out.1 h1.out.2 _ (by simp)) ?_
      rintro e w4 ⟨B, rfl, hB, hRow, hbel⟩
      go_wp2
      show wpL _ _ _ _ _ _ _
      refine wpL_one 10 rfl (by kernel_rfl) rfl ?_
      go_wp2
      show wpL _ _ _ _ _ _ _
      refine wpL_one 11 rfl (by kernel_rfl) rfl ?_
      go_wp2
      show wpL _ _ _ _ _ _ _
      refine wpL_one 12 rfl (by kernel_rfl) rfl ?_
      go_wp2
      show wpL _ _ _ _ _ _ _
      refine wpL_done (by kernel_rfl) ?_
      go_wp2
      go_ret
      have hb2 : Below w.heap.size w ((w.alloc (.cells #[.int .i64 (-1)] 3)).alloc (.cells (madeCells #[.int .i64 0] len) 3)).drew := (((Below.refl _ w).alloc (Nat.le_refl _) _).alloc (by simp) _).drew
      have hB' : w.heap.size + 2 ≤ B := by simpa using hB
      have hP : Row w4 (w.heap.size + 1) 3 (repC 0 len 0).toArray := by
        have h0 := hz0.out (w.alloc (.cells #[.int .i64 (-1)] 3))
        rw [show (w.alloc (.cells #[.int .i64 (-1)] 3)).heap.size = w.heap.size + 1 by simp] at h0
        exact (hbel.block _ (by simp)).trans h0
      exact ⟨_, rfl, found_of (H := B) (P := w.heap.size + 1) hRow hP (by omega) (by omega) (by omega) rfl (hb2.trans (hbel.mono (by simp; omega)))⟩
  · go_wp2
    show wpL _ _ _ _ _ _ _
    refine wpL_one 1 rfl (by kernel_rfl) rfl ?_
    go_wp2
    show wpL _ _ _ _ _ _ _
    refine wpL_one 6 rfl (by kernel_rfl) rfl ?_
    go_wp2_with fail
    refine Calls.mono (repeat_any (-1) m _ h1.out.1 h1.out.2 _ (by simp)) ?_
    rintro e w4 ⟨B, rfl, hB, hRow, hbel⟩
    go_wp2
    show wpL _ _ _ _ _ _ _
    refine wpL_one 10 rfl (by kernel_rfl) rfl ?_
    go_wp2
    show wpL _ _ _ _ _ _ _
    refine wpL_one 11 rfl (by kernel_rfl) rfl ?_
    go_wp2
    show wpL _ _ _ _ _ _ _
    refine wpL_one 12 rfl (by kernel_rfl) rfl ?_
    go_wp2
    show wpL _ _ _ _ _ _ _
    refine wpL_done (by kernel_rfl) ?_
    go_wp2
    go_ret
    have hb2 : Below w.heap.size w ((w.alloc (.cells (madeCells #[.int .i64 0] len) 3)).alloc (.cells #[.int .i64 (-1)] 3)).drew := (((Below.refl _ w).alloc (Nat.le_refl _) _).alloc (by simp) _).drew
    have hB' : w.heap.size + 2 ≤ B := by simpa using hB
    have hP : Row w4 w.heap.size 3 (repC 0 len 0).toArray := (hbel.block _ (by simp; omega)).trans ((hz0.out w).alloc _)
    exact ⟨_, rfl, found_of (H := B) (P := w.heap.size) hRow hP (by omega) (by omega) (by omega) rfl (hb2.trans (hbel.mono (by simp; omega)))⟩
end Go.Proofs.YtinbilbgipfemaaDoor
