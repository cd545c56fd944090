import Derived.Test.YtiheajlgaehfmaaDoorRrtM
/- The document's Codes. -/
namespace Go.Proofs.YtiheajlgaehfmaaDoor
open Go.RowKit

/-- Within one pass: the first j symbols are looked at. -/
def inPass (zs : List Int) (k j : Nat) : List Nat × Nat := (ofF zs ((k : Int) + 1) j).foldl (fun s x => cstep s x.1) ((cstate zs k).1, (cstate zs k).2 * 2 % 4294967296)
theorem inPass_end (zs : List Int) (k : Nat) : inPass zs k zs.length = cstate zs (k + 1) := rfl
theorem inPass_length (zs : List Int) (k j : Nat) : (inPass zs k j).1.length = zs.length := (cfold_length (fun x : Fin zs.length => x.1) _ _).trans (cstate_length zs k)
theorem inPass_yes (zs : List Int) (k j : Nat) (h : j < zs.length) (e : zs[j]?.getD 0 = (k : Int) + 1) : inPass zs k (j + 1) = cstep (inPass zs k j) j := by
  rw [inPass, ofF_yes zs _ j h e, List.foldl_append]
  rfl
theorem inPass_no (zs : List Int) (k j : Nat) (e : ¬ zs[j]?.getD 0 = (k : Int) + 1) : inPass zs k (j + 1) = inPass zs k j := by
  rw [inPass, ofF_no zs _ j e]
  rfl

set_option maxRecDepth 100000 in
set_option maxHeartbeats 4000000 in
theorem refCodes_ok (S : Nat → Prop) (a : Option Addr) (cap : Nat) (zs : List Int) (w : World) (hS : ∀ k, S k → k < w.heap.size) (hI : IntsIn S w (.slice a zs.length cap) zs) (h : errOf zs = 0) :
    Calls Tryd.prog 59 #[.slice a zs.length cap] w fun e w' => e = .returned (.tuple #[.slice (some ⟨w.heap.size, 0, none⟩) zs.length zs.length, .int .i64 0]) ∧ Row w' w.heap.size 51 (u32s (codesOf zs)) ∧ Below w.heap.size w w' := by
  have h320 := (errOf_zero h).1.1
  have HRT : Hid _ := refRight_any S a cap zs w hI
  rw [h] at HRT
  have hmk := run_make_row' (P := Tryd.prog) 68 51 (.int .u32 0) 4 Tryd.underlying68 Tryd.info28 rfl .i64 .i64 zs.length (by omega) (by omega)
  rw [u32s_made] at hmk
  go_enter Tryd.func59, Tryd.ntmps59
  go_wp2_with fail
  refine Calls.mono HRT.out ?_
  rintro e w' ⟨rfl, hw'⟩
  rw [hw']
  clear HRT hw'
  go_wp2_with fail
  have R0 := Row.new w 51 (u32s (List.replicate zs.length 0))
  have hB0 : Below w.heap.size w (w.alloc (.cells (u32s (List.replicate zs.length 0)) 51)) := (Below.refl _ w).alloc (Nat.le_refl _) _
  generalize w.alloc (.cells (u32s (List.replicate zs.length 0)) 51) = w1 at R0 hB0 ⊢
  clear hmk
  go_loopw [6, 7] (fun v6 v7 wr => ∃ k : Nat, k ≤ 15 ∧ v7 = .int .i64 ((k : Int) + 1) ∧ v6 = .int .u32 ((cstate zs k).2 : Int) ∧ Row wr w.heap.size 51 (u32s (cstate zs k).1) ∧ Below w.heap.size w wr) (fun _ v7 _ => 16 - (intOf v7).toNat)
  case atStart => exact ⟨0, Nat.zero_le _, rfl, rfl, R0, hB0⟩
  case round =>
    obtain ⟨k, hk, rfl, rfl, R1, hB1⟩ := hrel
    by_cases hlt : k < 15
    · have hkz : (k : Int) + 1 ≤ 15 := by omega
      have HIP : Hid (inPass zs k 0 = ((cstate zs k).1, (cstate zs k).2 * 2 % 4294967296)) := rfl
      generalize hcs : cstate zs k = cs at R1 HIP
      obtain ⟨co, cn⟩ := cs
      simp only at R1 HIP
      clear hcs
      go_wp2
      go_loopw [6, 8] (fun v6 v8 wr2 => ∃ j : Nat, j ≤ zs.length ∧ v8 = .int .i64 j ∧ v6 = .int .u32 ((inPass zs k j).2 : Int) ∧ Row wr2 w.heap.size 51 (u32s (inPass zs k j).1) ∧ Below w.heap.size w wr2) (fun _ v8 _ => zs.length - (intOf v8).toNat)
      case atStart => exact ⟨0, Nat.zero_le _, rfl, by rw [HIP.out]; simp, by rw [HIP.out]; exact R1, hB1⟩
      case round =>
        clear HIP R1 hB1
        obtain ⟨j, hj, rfl, rfl, R2, hB2⟩ := hrel
        by_cases hjl : j < zs.length
        · obtain ⟨b, off, rfl, hb, hc⟩ := hI.at j hjl
          have hcx := ((Kept.of_below hB2 hS).cell (p := ⟨b, off + j, none⟩) hb).trans hc
          have j1 : (j : Int) < zs.length := by omega
          have hlen := inPass_length zs k j
          clear hc
          by_cases heq : zs[j]?.getD 0 = (k : Int) + 1
          · have HY : Hid _ := inPass_yes zs k j hjl heq
            rw [heq] at hcx
            have ht : (((k : Int) + 1) == ((k : Int) + 1)) = true := by simp
            clear heq
            generalize inPass zs k j = st at R2 HY hlen
            obtain ⟨so, sn⟩ := st
            simp only at R2 hlen
            have cG := R2.cell (u32s_at so j (by omega))
            have fG := R2.frozen j
            have HR2 : Hid (Row (wr.setCell ⟨w.heap.size, j, none⟩ (.int .u32 (sn : Int))) w.heap.size 51 (u32s (so.set j sn))) := by
              have := R2.set j (.int .u32 (sn : Int))
              rwa [u32s_set] at this
            have HB2 : Hid (Below w.heap.size w (wr.setCell ⟨w.heap.size, j, none⟩ (.int .u32 (sn : Int)))) := hB2.setCell (p := ⟨w.heap.size, j, none⟩) (Nat.le_refl _) _
            have HYE : Hid (inPass zs k (j + 1) = (so.set j sn, (sn + 1) % 4294967296)) := HY.out
            generalize so[j] = old at cG
            clear R2 hB2 HY hlen
            go_wp2
            exact ⟨⟨j + 1, by omega, by simp, by rw [HYE.out]; simp, by rw [HYE.out]; exact HR2.out, HB2.out⟩, by simp [intOf]; omega⟩
          · have HN : Hid _ := inPass_no zs k j heq
            generalize zs[j]?.getD 0 = z at hcx heq
            have ht : (z == ((k : Int) + 1)) = false := by simpa using heq
            have HRN : Hid (Row wr w.heap.size 51 (u32s (inPass zs k (j + 1)).1)) := by show Row _ _ _ _; rw [HN.out]; exact R2
            have HVN : Hid ((inPass zs k j).2 = (inPass zs k (j + 1)).2) := by show _ = _; rw [HN.out]
            clear heq R2
            go_wp2
            exact ⟨⟨j + 1, by omega, by simp, by rw [HVN.out], HRN.out, hB2⟩, by simp [intOf]; omega⟩
        · obtain rfl : j = zs.length := by omega
          rw [inPass_end] at R2 ⊢
          clear hI
          go_wp2
          exact ⟨⟨k + 1, by omega, by simp, rfl, R2, hB2⟩, by simp [intOf]; omega⟩
    · obtain rfl : k = 15 := by omega
      clear hI
      go_wp2
      exact bodyPost_ret (v := .tuple #[.slice (some ⟨w.heap.size, 0, none⟩) zs.length zs.length, .int .i64 0]) (by simp [results, Tryd.f59, go_sem]) rfl ⟨rfl, R1, hB1⟩

set_option maxRecDepth 100000 in
set_option maxHeartbeats 2000000 in
theorem refCodes_err (S : Nat → Prop) (a : Option Addr) (cap : Nat) (zs : List Int) (w : World) (hI : IntsIn S w (.slice a zs.length cap) zs) (h : errOf zs ≠ 0) :
    Calls Tryd.prog 59 #[.slice a zs.length cap] w fun e w' => e = .returned (.tuple #[.slice none 0 0, .int .i64 (errOf zs)]) ∧ w' = w := by
  have HRT : Hid _ := refRight_any S a cap zs w hI
  have ht : (errOf zs != 0) = true := by simpa using h
  clear h hI
  generalize errOf zs = r at HRT ht
  go_enter Tryd.func59, Tryd.ntmps59
  go_wp2_with fail
  refine Calls.mono HRT.out ?_
  rintro e w' ⟨rfl, rfl⟩
  go_wp2
  exact bodyPost_ret (v := .tuple #[.slice none 0 0, .int .i64 r]) (by simp [results, Tryd.f59, go_sem]) rfl ⟨rfl, rfl⟩
end Go.Proofs.YtiheajlgaehfmaaDoor
