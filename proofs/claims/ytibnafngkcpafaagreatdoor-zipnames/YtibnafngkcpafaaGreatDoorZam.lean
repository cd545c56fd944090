/- alive, walked. -/
import Derived.Test.YtibnafngkcpafaaGreatDoorZal
namespace Go.Proofs.YtibnafngkcpafaaGreatDoor
open Go.RowKit Go.Shelf

attribute [local go_sem] Oper.semAt_some

set_option maxRecDepth 100000 in
set_option maxHeartbeats 2000000 in
theorem alive_any (mx : Int) (w : World) (h0 : 0 < w.heap.size) (hm : w.cell? ⟨0, 0, none⟩ = some (.int .i64 mx)) :
    Calls Tryz.prog 6 #[] w fun e w' => e = .returned (.bool true) ∧ Below w.heap.size w w' := by
  have hcv := Go.Joins.run_convert_bytes_const_at (P := Tryz.prog) w 28 5 #[.int .u8 120] 1 1 w.heap.size rfl Tryz.underlying28 Tryz.underlying5
  have hs1 : ((w.alloc (.cells #[.int .u8 120] 5 (1, 2))).alloc (.cells #[.string ⟨#[97]⟩, .slice (some ⟨w.heap.size, 0, none⟩) 1 1] 33)).heap.size = w.heap.size + 2 := by simp
  have hb1 : Below w.heap.size w ((w.alloc (.cells #[.int .u8 120] 5 (1, 2))).alloc (.cells #[.string ⟨#[97]⟩, .slice (some ⟨w.heap.size, 0, none⟩) 1 1] 33)) := ((Below.refl _ w).alloc (Nat.le_refl _) _).alloc (by simp) _
  have hF := al_files w
  go_enter Tryz.func6, Tryz.ntmps6
  go_wp2_with fail
  clear hcv
  generalize ((w.alloc (.cells #[.int .u8 120] 5 (1, 2))).alloc (.cells #[.string ⟨#[97]⟩, .slice (some ⟨w.heap.size, 0, none⟩) 1 1] 33)) = w1 at hs1 hb1 hF ⊢
  have hm1 := (hb1.cell (p := ⟨0, 0, none⟩) h0).trans hm
  have hWR : Calls Tryz.prog 11 #[.slice (some ⟨w.heap.size + 1, 0, none⟩) 1 1, .int .i64 0] w1 fun e w' => ∃ g c, e = .returned (.tuple #[.slice g 101 c, .int .i64 0]) ∧ w'.ownsRow w1.heap.size 5 1 (.slice g alZ.length c) alZ.length (alZ.map (Value.int .u8)) ∧ Below w1.heap.size w1 w' := by
    have h := callsIn_wide.1 (write_in (fun k => k = w.heap.size ∨ k = w.heap.size + 1) (some ⟨w.heap.size + 1, 0, none⟩) 1 [⟨alN, some ⟨w.heap.size, 0, none⟩, 1, [120]⟩] w1 (fun k h => by omega) hF (by simp) (refusal1_any (fun k => k = w.heap.size ∨ k = w.heap.size + 1) _ 1 _ mx w1 (fun k h => by omega) (by omega) hF (by simp) al_right hm1))
    rw [al_arch] at h
    exact h
  have HWR : Hid _ := hWR
  clear hWR hF
  refine Calls.mono HWR.out ?_
  clear HWR
  rintro e w2 ⟨g, c, rfl, ho, hb2⟩
  obtain ⟨b, cur, rfl, hbb, hbl, hc, hblk, hI⟩ := al_own ho (by decide)
  have hb12 : Below w.heap.size w w2 := hb1.trans (hb2.mono (by omega))
  have hm2 := (hb12.cell (p := ⟨0, 0, none⟩) h0).trans hm
  have HB : Hid (w.heap.size ≤ b) := by show _ ≤ _; omega
  have hsz : w.heap.size ≤ w2.heap.size := hb12.size
  clear ho hb2 hb1 hs1 hm1 hbb
  have hR1 : Calls Tryz.prog 12 #[.slice (some ⟨b, 0, none⟩) 101 c, .int .i64 9] w2 fun e w' => ∃ v, e = .returned (.tuple #[v, .int .i64 0]) ∧ ReadEnd 1 alN [120] w2 v w' := by
    refine Calls.mono (read1_any (fun k => k = b) b 0 c 9 alZ 47 32 alN 2363233923 1 mx w2 (fun k h => h ▸ hbl) al_one al_ent hc hI (by omega) (by decide) (by omega) (by omega) rfl (by omega) al_pre al_right (by omega) hm2) ?_
    rintro e w' (⟨_, v, rfl, h⟩ | ⟨h, _⟩)
    · rw [al_ds] at h
      exact ⟨v, rfl, h⟩
    · exact absurd (by rw [al_ds]; exact crc_x) h
  have HR1 : Hid _ := hR1
  clear hR1
  go_wp2_with fail
  refine Calls.mono HR1.out ?_
  clear HR1
  rintro e w3 ⟨v, rfl, F, cF, g, cg, rfl, e2, e3, e4, hk3⟩
  have e2' : w3.cell? ⟨F, 0, none⟩ = some (.string ⟨#[97]⟩) := e2
  have hcv := al_conv e4
  have hblk3 : w3.heap[b]? = some (.cells cur 5 (0, 0)) := (hk3.block b hbl).trans hblk
  have hI3 := hI.kept (hk3.mono (fun k (h : k = b) => h ▸ hbl))
  have hm3 : w3.cell? ⟨0, 0, none⟩ = some (.int .i64 mx) := (hk3.cell (p := ⟨0, 0, none⟩) (by show 0 < _; omega)).trans hm2
  have hz3 : w3.frozen? ⟨b, 31, none⟩ = false := by simp [World.frozen?, hblk3]
  have hx3 : w3.cell? ⟨b, 31, none⟩ = some (.int .u8 120) := by
    obtain ⟨b', off', e, _, hc⟩ := hI3.at 31 (by decide)
    simp at e
    obtain ⟨rfl, rfl⟩ := e
    rw [Nat.zero_add] at hc
    exact hc
  have HK : Hid (Kept (fun k => k < w.heap.size) w w3) := (Kept.of_below hb12 (fun _ h => h)).trans (hk3.mono (fun k h => Nat.lt_of_lt_of_le h hsz))
  have hI4 := turned hblk3 hI3
  have hk4 : Kept (fun k => k < w.heap.size) w (w3.setCell ⟨b, 31, none⟩ (.int .u8 121)) := HK.out.setCell (by have := HB.out; show ¬ b < _; omega) _
  have hm4 := (hk4.cell (p := ⟨0, 0, none⟩) h0).trans hm
  have hbl4 : b < (w3.setCell ⟨b, 31, none⟩ (.int .u8 121)).heap.size := by
    have := (Array.getElem?_eq_some_iff.1 hblk3).1
    simpa using this
  clear e2 e4 hk3 hblk hblk3 hI hI3 hm2 hm3 hb12 hsz hbl
  go_wp2_with fail
  clear hz3 hx3 hcv e2' e3
  generalize w3.setCell ⟨b, 31, none⟩ (.int .u8 121) = w4 at hI4 hk4 hm4 hbl4 ⊢
  have hR2 : Calls Tryz.prog 12 #[.slice (some ⟨b, 0, none⟩) 101 c, .int .i64 9] w4 fun e w' => e = .returned (.tuple #[.slice none 0 0, .int .i64 13]) ∧ Kept (fun k => k < w4.heap.size) w4 w' := by
    refine Calls.mono (read1_any (fun k => k = b) b 0 c 9 alY 47 32 alN 2363233923 1 mx w4 (fun k h => h ▸ hbl4) al_oneY al_entY hc hI4 (by omega) (by decide) (by omega) (by omega) rfl (by omega) al_preY al_right (by omega) hm4) ?_
    rintro e w' (⟨h, _⟩ | ⟨_, rfl, h⟩)
    · rw [al_dsY] at h
      exact absurd h crc_y
    · exact ⟨rfl, h⟩
  refine Calls.mono hR2 ?_
  rintro e w5 ⟨rfl, hk5⟩
  have HF : Hid (Below w.heap.size w w5) := (hk4.trans (hk5.mono (fun k h => Nat.lt_of_lt_of_le h hk4.size))).below (fun _ h => h)
  clear hR2 hI4 hk4 hk5 hm4 hbl4
  go_wp2_with fail
  go_ret
  exact ⟨rfl, HF.out⟩
end Go.Proofs.YtibnafngkcpafaaGreatDoor
