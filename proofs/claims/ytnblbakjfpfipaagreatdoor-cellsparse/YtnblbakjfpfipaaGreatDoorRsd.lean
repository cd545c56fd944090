import Derived.Test.YtnblbakjfpfipaaGreatDoorRsc
import Derived.Test.YtnblbakjfpfipaaGreatDoorPprM
/- The document's sheet, not quoted. -/
namespace Go.Proofs.YtnblbakjfpfipaaGreatDoor
open Go.RowKit

section
variable {P : Program} {ops : Array Oper} {Q : Exit → Act → World → Prop} {S : World → Prop} {E : Nat → Bool}
theorem wpM_skip (i : Nat) {o : Oper} {listed listed' : Array Bool} {fuel : Nat} {a : Act} {w : World} (ho : ops[i]? = some o) (hs : Region.noSelect ops = true)
    (hB : (Region.free .any ops listed i && (Region.ready .any ops listed).contains i && !(E i)) = true) (hL : listed.setIfInBounds i true = listed')
    (hQ : ∀ c a w, Q (.panic c) (a.put o.dst undef) w → Q (.panic c) a w) (hw : Region.wanted o (yielded ops a.tmps) = false)
    (h : wpM P ops Q S E fuel listed' (a.put o.dst undef) w) : wpM P ops Q S E (fuel + 1) listed a w := by
  subst hL
  simp only [Bool.and_eq_true, Bool.not_eq_true'] at hB
  exact wpX_firstW ho (Region.noSelect_spec hs) hQ hB.2 _ _ a w (Region.free_spec ho hB.1.1) (by simpa using hB.1.2) (.inr ⟨hw, rfl⟩) h
end
set_option maxRecDepth 100000 in
set_option maxHeartbeats 4000000 in
theorem refSheet_plain (l : List UInt8) (hl : l.length ≤ 140737488351232) (hq : Lib.hasPrefix l [39] = false) (w : World) :
    Calls Tryz.prog 43 #[.string (bs l)] w fun e w' => ShOk l e ∧ Below w.heap.size w w' := by
  have HS : Hid ((bs l).size = l.length) := bs_size l
  have hsz : (bs l).size ≤ 140737488351232 := by rw [bs_size]; exact hl
  have ES : Hid (sheetC l = if (cutB l 33).2.2 then ((cutB l 33).1, (cutB l 33).2.1, nameS (cutB l 33).1 && plainB (cutB l 33).1) else ([], l, true)) := by
    show _ = _
    unfold sheetC; rw [hq]; rfl
  have H0 : (∃ h0 : 0 < (bs l).size, (((bs l)[0]'h0).toNat : Int) ≠ 39) ∨ (bs l).size = 0 := by
    by_cases h0 : 0 < (bs l).size
    · left
      refine ⟨h0, ?_⟩
      cases l with
      | nil => simp [bs_size] at h0
      | cons a l =>
        intro e
        have : a = 39 := UInt8.toNat_inj.1 (by show a.toNat = 39; have : ((bs (a :: l))[0]'h0) = a := rfl; rw [this] at e; omega)
        rw [this] at hq
        simp [Lib.hasPrefix] at hq
    · right; omega
  clear hq hl
  rcases H0 with ⟨h0, hne⟩ | hz
  · have t0 : (0 : Int) < ((bs l).size : Int) := by omega
    have d0 : (((bs l)[0].toNat : Int) == 39) = false := beq_eq_false_iff_ne.2 hne
    clear hne
    go_enter Tryz.func43, Tryz.ntmps43
    go_wp2
    go_loopw [8] (fun v8 wr => ∃ k : Nat, k ≤ (bs l).size ∧ v8 = .int .i64 (k : Int) ∧ Hid (∀ b ∈ l.take k, b ≠ 33) ∧ Hid (Below w.heap.size w wr)) (fun v8 _ => (bs l).size - (intOf v8).toNat)
    case atStart => exact ⟨0, by omega, rfl, (fun b hb => by simp at hb), Below.refl _ _⟩
    case round =>
      obtain ⟨k, hk, rfl, HT, HB⟩ := hrel
      by_cases hlt : k < (bs l).size
      · have HK1 : Hid (k + 1 ≤ (bs l).size) := hlt
        have HLt : Hid (k < l.length) := by have := HS.out; show _ < _; omega
        have hlt := hlt
        by_cases c1 : (bs l)[k].toNat = 33
        · have d1 : (((bs l)[k].toNat : Int) == 33) = true := by rw [c1]; rfl
          have e33 : (bs l)[k] = 33 := UInt8.toNat_inj.1 c1
          have hcut : cutB l 33 = (l.take k, l.drop (k + 1), true) := by
            have hs : l = l.take k ++ 33 :: l.drop (k + 1) := by
              conv => lhs; rw [← List.take_append_drop k l, drop_step l k hlt, e33]
            conv => lhs; rw [hs]
            exact cut_first _ _ 33 HT.out
          have HY : Hid (sheetC l = (l.take k, l.drop (k + 1), nameS (l.take k) && plainB (l.take k))) := by
            show _ = _
            rw [ES.out, hcut]; rfl
          have HU : Hid ((bs l).extract 0 k = bs (l.take k)) := bs_take l k
          have HV : Hid ((bs l).extract (k + 1) (bs l).size = bs (l.drop (k + 1))) := bs_drop l (k + 1)
          have Hw1 : Hid (IntKind.i64.wrap ((k : Int) + 1) = (k : Int) + 1) := by show IntKind.i64.wrap _ = _; simp [IntKind.wrap, IntKind.bits, IntKind.signed]; omega
          have HQN : ∀ W, Hid (Calls Tryz.prog 17 #[.string ((bs l).extract 0 k)] W fun e w' => e = .returned (.bool (nameS (l.take k))) ∧ Below W.heap.size W w') := fun W => by rw [HU.out]; exact refName_any (bs (l.take k)) W
          have HQP : ∀ W, Hid (Calls Tryz.prog 38 #[.string ((bs l).extract 0 k)] W fun e w' => e = .returned (.bool (plainB (l.take k))) ∧ w' = W) := fun W => by rw [HU.out]; exact refPlain_any (l.take k) (by have := HS.out; simp; omega) W
          clear c1 e33 hcut HT ES HLt
          cases hp : plainB (l.take k)
          · rw [hp] at HQP HY
            rw [Bool.and_false] at HY
            clear HQN
            have HBd : Hid (Below w.heap.size w wr.drew) := HB.out.drew
            go_wp2_with fail
            refine wp_region_M (fun _ => True) (fun _ => false) 20 rfl (by kernel_rfl) ?_
            refine wpM_free 0 (v := .string (bs l)) rfl (by kernel_rfl) (by kernel_rfl) rfl (fun _ _ _ h => h) rfl (by intro wx; go_simp <;> rfl) ?_
            refine wpM_free 1 (v := .int .i64 (k : Int)) rfl (by kernel_rfl) (by kernel_rfl) rfl (fun _ _ _ h => h) rfl (by intro wx; go_simp <;> rfl) ?_
            refine wpM_free 2 (v := .string ((bs l).extract 0 k)) rfl (by kernel_rfl) (by kernel_rfl) rfl (fun _ _ _ h => h) rfl (by intro wx; go_simp <;> first | rfl | omega) ?_
            refine wpM_free 3 (v := .string (bs l)) rfl (by kernel_rfl) (by kernel_rfl) rfl (fun _ _ _ h => h) rfl (by intro wx; go_simp <;> rfl) ?_
            refine wpM_free 4 (v := .int .i64 (k : Int)) rfl (by kernel_rfl) (by kernel_rfl) rfl (fun _ _ _ h => h) rfl (by intro wx; go_simp <;> rfl) ?_
            refine wpM_free 5 (v := .int .i64 ((k : Int) + 1)) rfl (by kernel_rfl) (by kernel_rfl) rfl (fun _ _ _ h => h) rfl (by intro wx; go_simp <;> first | exact Hw1.out | rfl) ?_
            refine wpM_free 6 (v := .string ((bs l).extract (k + 1) (bs l).size)) rfl (by kernel_rfl) (by kernel_rfl) rfl (fun _ _ _ h => h) rfl (by intro wx; go_simp <;> first | rfl | omega) ?_
            refine wpM_free 7 (v := .string (bs l)) rfl (by kernel_rfl) (by kernel_rfl) rfl (fun _ _ _ h => h) rfl (by intro wx; go_simp <;> rfl) ?_
            refine wpM_free 8 (v := .int .i64 (k : Int)) rfl (by kernel_rfl) (by kernel_rfl) rfl (fun _ _ _ h => h) rfl (by intro wx; go_simp <;> rfl) ?_
            refine wpM_one 9 rfl (by kernel_rfl) rfl ?_
            go_wp2_with fail
            refine ⟨(fun h => by simp at h), ?_⟩
            refine wpM_one 10 rfl (by kernel_rfl) rfl ?_
            go_wp2_with fail
            refine Calls.mono (HQP _).out ?_
            rintro _ w5 ⟨rfl, hw⟩
            rw [hw]
            clear hw w5 HQP
            go_wp2_with fail
            refine ⟨(fun h => by simp at h), ?_⟩
            refine wpM_one 11 rfl (by kernel_rfl) rfl ?_
            go_wp2_with fail
            refine ⟨(fun h => by simp at h), ?_⟩
            refine wpM_skip 12 rfl (by kernel_rfl) (by kernel_rfl) rfl (fun _ _ _ h => h) rfl ?_
            refine wpM_skip 13 rfl (by kernel_rfl) (by kernel_rfl) rfl (fun _ _ _ h => h) rfl ?_
            refine wpM_skip 14 rfl (by kernel_rfl) (by kernel_rfl) rfl (fun _ _ _ h => h) rfl ?_
            refine wpM_skip 15 rfl (by kernel_rfl) (by kernel_rfl) rfl (fun _ _ _ h => h) rfl ?_
            refine wpM_free 16 (v := .bool false) rfl (by kernel_rfl) (by kernel_rfl) rfl (fun _ _ _ h => h) rfl (by intro wx; go_simp <;> rfl) ?_
            refine wpM_one 17 rfl (by kernel_rfl) rfl ?_
            go_wp2_with fail
            refine ⟨(fun h => by simp at h), ?_⟩
            refine wpM_one 18 rfl (by kernel_rfl) rfl ?_
            go_wp2_with fail
            refine ⟨(fun h => by simp at h), ?_⟩
            refine wpM_one 19 rfl (by kernel_rfl) rfl ?_
            go_wp2_with fail
            refine ⟨(fun h => by simp at h), ?_⟩
            refine wpM_done (by kernel_rfl) ?_
            go_wp2
            go_ret3
            refine ⟨⟨l.take k, l.drop (k + 1), ?_, fun _ => by rw [HY.out]; exact ⟨rfl, rfl⟩, by simp⟩, HBd.out⟩
            rw [HY.out, ← HU.out, ← HV.out]
            rfl
          · rw [hp] at HQP HY
            cases hn : nameS (l.take k)
            · rw [hn] at HQN HY
              have HBd : Hid (Below w.heap.size w wr.drew) := HB.out.drew
              go_wp2_with fail
              refine wp_region_M (fun _ => True) (fun _ => false) 20 rfl (by kernel_rfl) ?_
              refine wpM_free 0 (v := .string (bs l)) rfl (by kernel_rfl) (by kernel_rfl) rfl (fun _ _ _ h => h) rfl (by intro wx; go_simp <;> rfl) ?_
              refine wpM_free 1 (v := .int .i64 (k : Int)) rfl (by kernel_rfl) (by kernel_rfl) rfl (fun _ _ _ h => h) rfl (by intro wx; go_simp <;> rfl) ?_
              refine wpM_free 2 (v := .string ((bs l).extract 0 k)) rfl (by kernel_rfl) (by kernel_rfl) rfl (fun _ _ _ h => h) rfl (by intro wx; go_simp <;> first | rfl | omega) ?_
              refine wpM_free 3 (v := .string (bs l)) rfl (by kernel_rfl) (by kernel_rfl) rfl (fun _ _ _ h => h) rfl (by intro wx; go_simp <;> rfl) ?_
              refine wpM_free 4 (v := .int .i64 (k : Int)) rfl (by kernel_rfl) (by kernel_rfl) rfl (fun _ _ _ h => h) rfl (by intro wx; go_simp <;> rfl) ?_
              refine wpM_free 5 (v := .int .i64 ((k : Int) + 1)) rfl (by kernel_rfl) (by kernel_rfl) rfl (fun _ _ _ h => h) rfl (by intro wx; go_simp <;> first | exact Hw1.out | rfl) ?_
              refine wpM_free 6 (v := .string ((bs l).extract (k + 1) (bs l).size)) rfl (by kernel_rfl) (by kernel_rfl) rfl (fun _ _ _ h => h) rfl (by intro wx; go_simp <;> first | rfl | omega) ?_
              refine wpM_free 7 (v := .string (bs l)) rfl (by kernel_rfl) (by kernel_rfl) rfl (fun _ _ _ h => h) rfl (by intro wx; go_simp <;> rfl) ?_
              refine wpM_free 8 (v := .int .i64 (k : Int)) rfl (by kernel_rfl) (by kernel_rfl) rfl (fun _ _ _ h => h) rfl (by intro wx; go_simp <;> rfl) ?_
              refine wpM_one 9 rfl (by kernel_rfl) rfl ?_
              go_wp2_with fail
              refine ⟨(fun h => by simp at h), ?_⟩
              refine wpM_one 10 rfl (by kernel_rfl) rfl ?_
              go_wp2_with fail
              refine Calls.mono (HQP _).out ?_
              rintro _ w5 ⟨rfl, hw⟩
              rw [hw]
              clear hw w5 HQP
              go_wp2_with fail
              refine ⟨(fun h => by simp at h), ?_⟩
              refine wpM_one 11 rfl (by kernel_rfl) rfl ?_
              go_wp2_with fail
              refine ⟨(fun h => by simp at h), ?_⟩
              refine wpM_free 12 (v := .string (bs l)) rfl (by kernel_rfl) (by kernel_rfl) rfl (fun _ _ _ h => h) rfl (by intro wx; go_simp <;> rfl) ?_
              refine wpM_one 13 rfl (by kernel_rfl) rfl ?_
              go_wp2_with fail
              refine ⟨(fun h => by simp at h), ?_⟩
              refine wpM_one 14 rfl (by kernel_rfl) rfl ?_
              go_wp2_with fail
              refine ⟨(fun h => by simp at h), ?_⟩
              refine wpM_one 15 rfl (by kernel_rfl) rfl ?_
              go_wp2_with fail
              refine Calls.mono (HQN _).out ?_
              rintro _ w6 ⟨rfl, b2⟩
              have HB2 : Hid (Below w.heap.size w w6) := HBd.out.trans (b2.mono HBd.out.size)
              clear HQN b2
              go_wp2_with fail
              refine ⟨(fun h => by simp at h), ?_⟩
              refine wpM_free 16 (v := .bool false) rfl (by kernel_rfl) (by kernel_rfl) rfl (fun _ _ _ h => h) rfl (by intro wx; go_simp <;> rfl) ?_
              refine wpM_one 17 rfl (by kernel_rfl) rfl ?_
              go_wp2_with fail
              refine ⟨(fun h => by simp at h), ?_⟩
              refine wpM_one 18 rfl (by kernel_rfl) rfl ?_
              go_wp2_with fail
              refine ⟨(fun h => by simp at h), ?_⟩
              refine wpM_one 19 rfl (by kernel_rfl) rfl ?_
              go_wp2_with fail
              refine ⟨(fun h => by simp at h), ?_⟩
              refine wpM_done (by kernel_rfl) ?_
              go_wp2
              go_ret3
              refine ⟨⟨l.take k, l.drop (k + 1), ?_, fun _ => by rw [HY.out]; exact ⟨rfl, rfl⟩, by simp⟩, HB2.out⟩
              rw [HY.out, ← HU.out, ← HV.out]
              rfl
            · rw [hn] at HQN HY
              have HBd : Hid (Below w.heap.size w wr.drew) := HB.out.drew
              go_wp2_with fail
              refine wp_region_M (fun _ => True) (fun _ => false) 20 rfl (by kernel_rfl) ?_
              refine wpM_free 0 (v := .string (bs l)) rfl (by kernel_rfl) (by kernel_rfl) rfl (fun _ _ _ h => h) rfl (by intro wx; go_simp <;> rfl) ?_
              refine wpM_free 1 (v := .int .i64 (k : Int)) rfl (by kernel_rfl) (by kernel_rfl) rfl (fun _ _ _ h => h) rfl (by intro wx; go_simp <;> rfl) ?_
              refine wpM_free 2 (v := .string ((bs l).extract 0 k)) rfl (by kernel_rfl) (by kernel_rfl) rfl (fun _ _ _ h => h) rfl (by intro wx; go_simp <;> first | rfl | omega) ?_
              refine wpM_free 3 (v := .string (bs l)) rfl (by kernel_rfl) (by kernel_rfl) rfl (fun _ _ _ h => h) rfl (by intro wx; go_simp <;> rfl) ?_
              refine wpM_free 4 (v := .int .i64 (k : Int)) rfl (by kernel_rfl) (by kernel_rfl) rfl (fun _ _ _ h => h) rfl (by intro wx; go_simp <;> rfl) ?_
              refine wpM_free 5 (v := .int .i64 ((k : Int) + 1)) rfl (by kernel_rfl) (by kernel_rfl) rfl (fun _ _ _ h => h) rfl (by intro wx; go_simp <;> first | exact Hw1.out | rfl) ?_
              refine wpM_free 6 (v := .string ((bs l).extract (k + 1) (bs l).size)) rfl (by kernel_rfl) (by kernel_rfl) rfl (fun _ _ _ h => h) rfl (by intro wx; go_simp <;> first | rfl | omega) ?_
              refine wpM_free 7 (v := .string (bs l)) rfl (by kernel_rfl) (by kernel_rfl) rfl (fun _ _ _ h => h) rfl (by intro wx; go_simp <;> rfl) ?_
              refine wpM_free 8 (v := .int .i64 (k : Int)) rfl (by kernel_rfl) (by kernel_rfl) rfl (fun _ _ _ h => h) rfl (by intro wx; go_simp <;> rfl) ?_
              refine wpM_one 9 rfl (by kernel_rfl) rfl ?_
              go_wp2_with fail
              refine ⟨(fun h => by simp at h), ?_⟩
              refine wpM_one 10 rfl (by kernel_rfl) rfl ?_
              go_wp2_with fail
              refine Calls.mono (HQP _).out ?_
              rintro _ w5 ⟨rfl, hw⟩
              rw [hw]
              clear hw w5 HQP
              go_wp2_with fail
              refine ⟨(fun h => by simp at h), ?_⟩
              refine wpM_one 11 rfl (by kernel_rfl) rfl ?_
              go_wp2_with fail
              refine ⟨(fun h => by simp at h), ?_⟩
              refine wpM_free 12 (v := .string (bs l)) rfl (by kernel_rfl) (by kernel_rfl) rfl (fun _ _ _ h => h) rfl (by intro wx; go_simp <;> rfl) ?_
              refine wpM_one 13 rfl (by kernel_rfl) rfl ?_
              go_wp2_with fail
              refine ⟨(fun h => by simp at h), ?_⟩
              refine wpM_one 14 rfl (by kernel_rfl) rfl ?_
              go_wp2_with fail
              refine ⟨(fun h => by simp at h), ?_⟩
              refine wpM_one 15 rfl (by kernel_rfl) rfl ?_
              go_wp2_with fail
              refine Calls.mono (HQN _).out ?_
              rintro _ w6 ⟨rfl, b2⟩
              have HB2 : Hid (Below w.heap.size w w6) := HBd.out.trans (b2.mono HBd.out.size)
              clear HQN b2
              go_wp2_with fail
              refine ⟨(fun h => by simp at h), ?_⟩
              refine wpM_free 16 (v := .bool true) rfl (by kernel_rfl) (by kernel_rfl) rfl (fun _ _ _ h => h) rfl (by intro wx; go_simp <;> rfl) ?_
              refine wpM_one 17 rfl (by kernel_rfl) rfl ?_
              go_wp2_with fail
              refine ⟨(fun h => by simp at h), ?_⟩
              refine wpM_one 18 rfl (by kernel_rfl) rfl ?_
              go_wp2_with fail
              refine ⟨(fun h => by simp at h), ?_⟩
              refine wpM_one 19 rfl (by kernel_rfl) rfl ?_
              go_wp2_with fail
              refine ⟨(fun h => by simp at h), ?_⟩
              refine wpM_done (by kernel_rfl) ?_
              go_wp2
              go_ret3
              refine ⟨⟨l.take k, l.drop (k + 1), ?_, fun _ => by rw [HY.out]; exact ⟨rfl, rfl⟩, by simp⟩, HB2.out⟩
              rw [HY.out, ← HU.out, ← HV.out]
              rfl
        · have d1 : (((bs l)[k].toNat : Int) == 33) = false := beq_eq_false_iff_ne.2 (by omega)
          have HT2 : Hid (∀ b ∈ l.take (k + 1), b ≠ 33) := fun b hb => by
            rw [take_snocL l k HLt.out] at hb
            rcases List.mem_append.1 hb with hb | hb
            · exact HT.out b hb
            · simp at hb
              intro e
              exact c1 (by rw [show (bs l)[k]'hlt = l[k]'HLt.out from rfl, ← hb, e]; rfl)
          clear HT c1 HLt
          go_wp2
          go_roundw
          case rel => exact ⟨k + 1, HK1.out, by go_num, HT2, HB⟩
          case measure => have := HK1.out; simp [intOf]; omega
      · have t2 : ¬ ((k : Int) < ((bs l).size : Int)) := by omega
        have HY : Hid (sheetC l = ([], l, true)) := by
          have := HT.out
          rw [List.take_of_length_le (by have := HS.out; omega)] at this
          show _ = _
          rw [ES.out, cut_none l 33 this]; rfl
        clear HT ES
        go_wp2
        go_ret3
        refine ⟨⟨[], l, ?_, fun _ => by rw [HY.out]; exact ⟨rfl, rfl⟩, Nat.le_refl _⟩, HB.out⟩
        rw [HY.out]
        rfl
  · have hd : l = [] := List.length_eq_zero_iff.1 (by have := HS.out; omega)
    subst hd
    have t0 : ¬ ((0 : Int) < ((bs []).size : Int)) := by omega
    have e0 : sheetC [] = ([], [], true) := by rw [ES.out]; rfl
    have t2 : ¬ ((0 : Int) < ((bs []).size : Int)) := t0
    have E0 : Hid _ := e0
    clear e0 ES hz
    go_enter Tryz.func43, Tryz.ntmps43
    go_wp2
    refine wp_loop_rounds 1 ?_
    rw [rounds_succ]
    go_wp2
    go_ret3
    refine ⟨⟨[], [], ?_, fun _ => by rw [E0.out]; exact ⟨rfl, rfl⟩, by simp⟩, Below.refl _ _⟩
    rw [E0.out]
    rfl
end Go.Proofs.YtnblbakjfpfipaaGreatDoor
