/- count, full, right, check: which lengths can be, and their table. -/
import Derived.Test.YtiakploggmmklaaTab
namespace Go.Proofs.Ytiakploggmmklaa
open Go.RowKit

set_option maxRecDepth 100000 in
set_option maxHeartbeats 1000000 in
theorem count_long (a : Option Addr) (n cap : Nat) (hn : 320 < n) (w : World) :
    Calls Try.prog 27 #[.slice a n cap] w fun e w' => e = .returned (.tuple #[.agg (tab []), .int .i64 1]) ∧ Below w.heap.size w w' := by
  have hz := (zero_of_info Try.info53).1
  have hb : ∀ w : World, (Instr.build 58 #[]).run Try.prog w = .ok (.agg (tab [])) w := fun _ => by kernel_rfl
  have R0 := Row.new w 58 (tab [])
  have hst := store53 [] R0 (tab_size _)
  go_enter Try.func27, Try.ntmps27
  go_wp2
  refine bodyPost_ret (v := .tuple #[.agg (tab []), .int .i64 1]) ?_ rfl ⟨rfl, below_setRow ((Below.refl _ w).alloc (Nat.le_refl _) _) (Nat.le_refl _) _⟩
  rw [results_cell_tmp rfl]
  have hld := load53v (R0.setRow (tab [])) (tab_size _)
  simp [asAddr, Result.andThen, hld]
/-- Lengths that can be at all. -/
def okLen (zs : List Int) : Prop := zs.length ≤ 320 ∧ inRange zs
instance (zs : List Int) : Decidable (okLen zs) := inferInstanceAs (Decidable (_ ∧ _))

set_option maxRecDepth 100000 in
set_option maxHeartbeats 2000000 in
theorem count_r (r : Value) (S : Nat → Prop) (a : Option Addr) (cap : Nat) (zs : List Int) (HR : Hid (r = if okLen zs then .tuple #[.agg (tab zs), .int .i64 0] else .tuple #[.agg (tab []), .int .i64 1])) (w : World) (hS : ∀ k, S k → k < w.heap.size) (hI : IntsIn S w (.slice a zs.length cap) zs) :
    Calls Try.prog 27 #[.slice a zs.length cap] w fun e w' => e = .returned r ∧ Below w.heap.size w w' := by
  by_cases hn : 320 < zs.length
  · rw [show r = _ from HR.out, if_neg (fun h => by have := h.1; omega)]
    exact count_long a _ cap hn w
  have hz := (zero_of_info Try.info53).1
  have hb : ∀ w : World, (Instr.build 58 #[]).run Try.prog w = .ok (.agg (tab [])) w := fun _ => by kernel_rfl
  go_enter Try.func27, Try.ntmps27
  go_wp2
  go_loopw [13] (fun i wr => ∃ k : Nat, k ≤ zs.length ∧ i = .int .i64 k ∧ Row wr w.heap.size 58 (tab []) ∧ Row wr (w.heap.size + 1) 58 (tab (zs.take k)) ∧ Below w.heap.size w wr ∧ inRange (zs.take k))
    (fun i _ => zs.length - (intOf i).toNat)
  case atStart => exact ⟨0, Nat.zero_le _, rfl, (Row.new w 58 (tab [])).alloc _, by have := Row.new (w.alloc (.cells (tab []) 58)) 58 (tab []); simpa using this, ((Below.refl _ w).alloc (Nat.le_refl _) _).alloc (by simp) _, fun z hz => by simp at hz⟩
  case round =>
    obtain ⟨k, hk, rfl, R0, R1, hB, hr⟩ := hrel
    by_cases hlt : k < zs.length
    · obtain ⟨b, off, rfl, hb', hc⟩ := hI.at k hlt
      have hcx := ((Kept.of_below hB hS).cell (p := ⟨b, off + k, none⟩) hb').trans hc
      have HT : Hid (zs.take (k + 1) = zs.take k ++ [zs[k]?.getD 0]) := by
        show _ = _
        rw [List.take_succ_eq_append_getElem hlt]; simp [hlt]
      have HM : Hid (zs[k]?.getD 0 ∈ zs) := by
        show _ ∈ _
        simp [hlt]
      clear hc
      generalize zs[k]?.getD 0 = z at hcx HT HM
      have hst := store53 [] R0 (tab_size _)
      by_cases hbad : z < 0 ∨ 15 < z
      · have hno : ¬ okLen zs := fun h => by have := h.2 z HM.out; omega
        have hrv : r = .tuple #[.agg (tab []), .int .i64 1] := by rw [show r = _ from HR.out, if_neg hno]
        clear HR
        have HF : Hid (Below w.heap.size w (wr.setRow w.heap.size (tab []))) := below_setRow hB (Nat.le_refl _) _
        have HL : Hid ((loadVar 58 ⟨w.heap.size, 0, none⟩).run Try.prog (wr.setRow w.heap.size (tab [])) = .ok (.agg (tab [])) (wr.setRow w.heap.size (tab []))) := load53v (R0.setRow _) (tab_size _)
        clear R0 R1 hB hr HT HM hno
        rcases hbad with h | h
        all_goals
          go_wp2
          refine bodyPost_ret (v := .tuple #[.agg (tab []), .int .i64 1]) ?_ rfl ⟨by rw [hrv], HF.out⟩
          rw [results_cell_tmp rfl]
          have hl := HL.out
          simp [asAddr, Result.andThen, hl]
      · obtain ⟨m, rfl⟩ := Int.eq_ofNat_of_zero_le (show 0 ≤ z by omega)
        have hr' : inRange (zs.take (k + 1)) := by
          rw [HT.out]
          intro z hz
          rcases List.mem_append.1 hz with h | h
          · exact hr z h
          · simp at h; omega
        by_cases h0 : m = 0
        · subst h0
          have HR1 : Hid (Row wr (w.heap.size + 1) 58 (tab (zs.take (k + 1)))) := by
            show Row _ _ _ _
            rw [HT.out, show ((0 : Nat) : Int) = 0 from rfl, tab_snoc0]
            exact R1
          clear R1
          go_wp2
          go_roundw
          case rel => exact ⟨k + 1, by omega, by simp, R0, HR1.out, hB, hr'⟩
          case measure => simp [intOf]; omega
        · have hcell := R1.cell (tab_at (zs.take k) (m - 1) (by omega))
          have hfr := R1.frozen (m - 1)
          have hle := cnt_le (zs.take k) m
          have htl : (zs.take k).length ≤ 320 := by simp; omega
          rw [show m - 1 + 1 = m by omega] at hcell
          have HR1 : Hid (Row (wr.setCell ⟨w.heap.size + 1, m - 1, none⟩ (.int .i64 ((cnt (zs.take k) m : Nat) + 1 : Int))) (w.heap.size + 1) 58 (tab (zs.take (k + 1)))) := by
            show Row _ _ _ _
            rw [HT.out, tab_snoc _ m (by omega) (by omega)]
            exact R1.set _ _
          have HR0 : Hid (Row (wr.setCell ⟨w.heap.size + 1, m - 1, none⟩ (.int .i64 ((cnt (zs.take k) m : Nat) + 1 : Int))) w.heap.size 58 (tab [])) :=
            R0.kept (S := fun x => x ≠ w.heap.size + 1) ((Kept.refl _ wr).setCell (p := ⟨w.heap.size + 1, m - 1, none⟩) (by simp) _) (by simp)
          have HB : Hid (Below w.heap.size w (wr.setCell ⟨w.heap.size + 1, m - 1, none⟩ (.int .i64 ((cnt (zs.take k) m : Nat) + 1 : Int)))) := hB.setCell (p := ⟨w.heap.size + 1, m - 1, none⟩) (by simp) _
          clear R1 R0 hB hst
          generalize cnt (zs.take k) m = q at hcell HR1 HR0 HB hle
          have e1 : ((m : Int) - 1).toNat = m - 1 := by omega
          go_wp2
          go_roundw
          case rel => exact ⟨k + 1, by omega, by simp, HR0.out, HR1.out, HB.out, hr'⟩
          case measure => simp [intOf]; omega
    · obtain rfl : k = zs.length := by omega
      rw [List.take_length] at R1 hr
      have hrv : r = .tuple #[.agg (tab zs), .int .i64 0] := by rw [show r = _ from HR.out, if_pos ⟨by omega, hr⟩]
      obtain ⟨c0, c1, c2, c3, c4, c5, c6, c7, c8, c9, c10, c11, c12, c13, c14⟩ := R1.tab
      have hfold := tab_fold zs
      have hst := store53 zs R0 (tab_size _)
      have HF : Hid (Below w.heap.size w (wr.setRow w.heap.size (tab zs))) := below_setRow hB (Nat.le_refl _) _
      have HL : Hid ((loadVar 58 ⟨w.heap.size, 0, none⟩).run Try.prog (wr.setRow w.heap.size (tab zs)) = .ok (.agg (tab zs)) (wr.setRow w.heap.size (tab zs))) := load53v (R0.setRow _) (tab_size _)
      clear HR R0 R1 hB hr hI
      go_wp2
      refine bodyPost_ret (v := .tuple #[.agg (tab zs), .int .i64 0]) ?_ rfl ⟨by rw [hrv], HF.out⟩
      rw [results_cell_tmp rfl]
      have hl := HL.out
      simp [asAddr, Result.andThen, hl]
theorem count_any (S : Nat → Prop) (a : Option Addr) (cap : Nat) (zs : List Int) (w : World) (hS : ∀ k, S k → k < w.heap.size) (hI : IntsIn S w (.slice a zs.length cap) zs) :
    Calls Try.prog 27 #[.slice a zs.length cap] w fun e w' => e = .returned (if okLen zs then .tuple #[.agg (tab zs), .int .i64 0] else .tuple #[.agg (tab []), .int .i64 1]) ∧ Below w.heap.size w w' :=
  count_r _ S a cap zs rfl w hS hI
end Go.Proofs.Ytiakploggmmklaa
