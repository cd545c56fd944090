import Derived.Test.YtnblbakjfpfipaaGreatDoorRqt
import Derived.Test.YtnblbakjfpfipaaGreatDoorRsn
import Derived.Test.YtnblbakjfpfipaaGreatDoorWcs
import Derived.Test.YtnblbakjfpfipaaGreatDoorWthp
import Derived.Test.YtnblbakjfpfipaaGreatDoorOrdM
import Derived.WalkMore
/- The document's sheet: the name that a text begins with. -/
namespace Go.Proofs.YtnblbakjfpfipaaGreatDoor
open Go.RowKit

/-- What the document's sheet answers: where it is a name, as the program's. -/
def ShOk (l : List UInt8) (e : Ending) : Prop := ∃ nm rs : List UInt8, e = .returned (.tuple #[.string (bs nm), .string (bs rs), .bool (sheetC l).2.2]) ∧ ((sheetC l).2.2 = true → nm = (sheetC l).1 ∧ rs = (sheetC l).2.1) ∧ rs.length ≤ l.length
theorem ShOk.no {l : List UInt8} {e : Ending} (h : (sheetC l).2.2 = false) (he : e = .returned (.tuple #[.string .empty, .string .empty, .bool false])) : ShOk l e := by
  refine ⟨[], [], ?_, fun h2 => ?_, by simp⟩
  · rw [he, h]; rfl
  · rw [h] at h2; cases h2
set_option maxRecDepth 100000 in
set_option maxHeartbeats 4000000 in
theorem refSheet_quoted (l : List UInt8) (hl : l.length ≤ 140737488351232) (hq : Lib.hasPrefix l [39] = true) (w : World) :
    Calls Tryz.prog 43 #[.string (bs l)] w fun e w' => ShOk l e ∧ Below w.heap.size w w' := by
  have HS : Hid ((bs l).size = l.length) := bs_size l
  have hsz : (bs l).size ≤ 140737488351232 := by rw [bs_size]; exact hl
  have h1 : 1 ≤ (bs l).size := by
    rw [bs_size]
    cases l with
    | nil => simp [Lib.hasPrefix] at hq
    | cons a l => simp
  have h0 : 0 < (bs l).size := h1
  have t0 : (0 : Int) < ((bs l).size : Int) := by omega
  have d0 : (((bs l)[0].toNat : Int) == 39) = true := by
    have e : (bs l)[0] = 39 := by
      cases l with
      | nil => simp [Lib.hasPrefix] at hq
      | cons a l =>
        simp [Lib.hasPrefix] at hq
        exact hq.symm
    rw [e]; rfl
  have ES : Hid ((sheetC l).2.2 = (Lib.hasPrefix (cutQ (l.drop 1)).2 [39, 33] && nameS (cutQ (l.drop 1)).1 && !plainB (cutQ (l.drop 1)).1) ∧ (sheetC l).1 = (cutQ (l.drop 1)).1 ∧ (sheetC l).2.1 = Lib.trimPrefix (cutQ (l.drop 1)).2 [39, 33]) := by
    unfold sheetC; rw [hq]; exact ⟨rfl, rfl, rfl⟩
  obtain ⟨nm, HN⟩ : ∃ nm, Hid ((cutQ (l.drop 1)).1 = nm) := ⟨_, rfl⟩
  obtain ⟨bh, HH⟩ : ∃ bh, Hid ((cutQ (l.drop 1)).2 = bh) := ⟨_, rfl⟩
  rw [HN.out, HH.out] at ES
  have HLn : Hid (nm.length ≤ l.length) := by
    have := cutQ_len _ (l.drop 1) (Nat.le_refl _)
    rw [HN.out] at this
    simp only [List.length_drop] at this
    show _ ≤ _; omega
  clear hq hl
  obtain ⟨i0, hi, hzz⟩ := Option.map_eq_some_iff.1 Tryz.info5q
  simp only [Prod.mk.injEq] at hzz
  obtain ⟨hz0, hz1, hz2⟩ := hzz
  go_enter Tryz.func43, Tryz.ntmps43
  go_wp2
  go_loopw [5, 6] (fun v5 v6 wr => ∃ (k : Nat) (acc : List UInt8), 1 ≤ k ∧ k ≤ (bs l).size ∧ v6 = .int .i64 (k : Int) ∧ Hid (nm = acc ++ (cutQ (l.drop k)).1 ∧ bh = (cutQ (l.drop k)).2) ∧ acc.length ≤ k ∧ wr.ownsRow w.heap.size 5 1 v5 acc.length (cellsU acc) ∧ Below w.heap.size w wr) (fun _ v6 _ => (bs l).size - (intOf v6).toNat)
  case atStart => exact ⟨1, [], by omega, h1, rfl, ⟨HN.out.symm, HH.out.symm⟩, by simp, World.ownsRow_nil _ _ _ _, Below.refl _ _⟩
  case round =>
    obtain ⟨k, acc, hk1, hk, rfl, HT, hac, hO, hB⟩ := hrel
    obtain ⟨gu, cu, rfl⟩ := owns_form hO
    have hws := hB.size
    by_cases hlt : k < (bs l).size
    · have HK1 : Hid (k + 1 ≤ (bs l).size) := hlt
      have hlt := hlt
      have HD : Hid (l.drop k = (bs l)[k] :: l.drop (k + 1)) := drop_step l k hlt
      have HF : Hid (∀ (c : UInt8) (v' : Value) (w3 : World) (o : Obj), w3.ownsRow w.heap.size 5 1 v' (acc.length + 1) (cellsU acc ++ [.int .u8 (c.toNat : Int)]) → (wr.alloc o).grownBy w3 (Value.slice gu acc.length cu).ownBlock →
          w3.ownsRow w.heap.size 5 1 v' (acc ++ [c]).length (cellsU (acc ++ [c])) ∧ Below w.heap.size w w3) := by
        intro c v' w3 o h1 h2
        refine ⟨by rw [cellsU_snoc, List.length_append]; exact h1, (hB.alloc hws o).grown h2 (by rw [World.size_alloc]; omega) (fun r e => (hO.lt r e).1)⟩
      by_cases c1 : (bs l)[k].toNat = 39
      · have d1 : (((bs l)[k].toNat : Int) != 39) = false := by rw [c1]; rfl
        have HEnd : Hid ((∀ b r', l.drop (k + 1) = b :: r' → b.toNat ≠ 39) → nm = acc ∧ bh = (bs l)[k] :: l.drop (k + 1)) := fun hr => by
          have := HT.out
          rw [HD.out, cutQ_end c1 hr] at this
          exact ⟨by rw [this.1]; simp, this.2⟩
        have hcv := conv_own hO
        have HC39 : Hid ((bs l)[k] = 39) := UInt8.toNat_inj.1 c1
        by_cases hk2 : k + 1 < (bs l).size
        rotate_left
        · have t3 : ¬ ((k : Int) + 1 < ((bs l).size : Int)) := by omega
          have hno : (sheetC l).2.2 = false := by
            have hd : l.drop (k + 1) = [] := List.drop_eq_nil_of_le (by have := HS.out; omega)
            have h2 := (HEnd.out (fun b r' e => by rw [hd] at e; cases e)).2
            rw [hd, HC39.out] at h2
            rw [ES.out.1, h2]
            rfl
          have HB : Hid _ := hB
          have HNo : Hid _ := hno
          clear hO hB hno HT HD c1 HEnd HF HC39 ES
          go_wp2
          all_goals first | (exfalso; apply undef_bool; assumption) | skip
          all_goals
            go_ret3
            exact ⟨ShOk.no HNo.out rfl, HB.out⟩
        have t3 : (k : Int) + 1 < ((bs l).size : Int) := by omega
        have HD2 : Hid (l.drop (k + 1) = (bs l)[k + 1] :: l.drop (k + 1 + 1)) := drop_step l (k + 1) hk2
        by_cases c2 : (bs l)[k + 1].toNat = 39
        · have d2 : (((bs l)[k + 1].toNat : Int) == 39) = true := by rw [c2]; rfl
          have HE : Hid (nm = (acc ++ [39]) ++ (cutQ (l.drop (k + 1 + 1))).1 ∧ bh = (cutQ (l.drop (k + 1 + 1))).2) := by
            have := HT.out
            rw [HD.out, HD2.out, cutQ_two c1 c2] at this
            rw [show (bs l)[k + 1] = 39 from UInt8.toNat_inj.1 c2] at this
            refine ⟨by rw [this.1]; simp, this.2⟩
          clear HD HD2 c1 c2 HT HEnd hcv HC39
          go_wp2_with (at_builtin; refine wpList_append_own2 _ rfl (.tmp 45) (.tmp 46) 46 rfl w.heap.size 5 i0 (.int .u8 0) 1 1 Tryz.underlying46 hi hz0 hz1 hz2 rfl (by decide) _ _ _ rfl (hO.alloc _) ⟨wr.heap.size, 0, none⟩ 1 1 [.int .u8 39] rfl rfl (cell_one_new _ _ _) (by simp [Value.oneCell']) (by unfold maxLen; omega) (by omega) (by simp; omega) ?_)
          intro v' w3 hown' hgrow _
          have HG : Hid _ := HF.out 39 v' w3 _ hown' hgrow
          clear HF hO hB hown' hgrow
          go_wp2
          refine ⟨⟨k + 1 + 1, acc ++ [39], by omega, by omega, by congr 1, HE, by simp; omega, HG.out.1, HG.out.2⟩, ?_⟩
          simp [intOf]; omega
        · have d2 : (((bs l)[k + 1].toNat : Int) == 39) = false := beq_eq_false_iff_ne.2 (by omega)
          have HX : Hid (nm = acc ∧ bh = 39 :: (bs l)[k + 1] :: l.drop (k + 1 + 1)) := by
            have h2 := HEnd.out (fun b r' e => by
              rw [HD2.out] at e
              rw [← (List.cons.inj e).1]
              exact c2)
            rw [HC39.out, HD2.out] at h2
            exact h2
          have HB : Hid _ := hB
          by_cases c3 : (bs l)[k + 1].toNat = 33
          rotate_left
          · have d3 : (((bs l)[k + 1].toNat : Int) == 33) = false := beq_eq_false_iff_ne.2 (by omega)
            have hno : (sheetC l).2.2 = false := by
              rw [ES.out.1, HX.out.2]
              have : ((33 : UInt8) == (bs l)[k + 1]) = false := beq_eq_false_iff_ne.2 (fun e => c3 (by rw [← e]; rfl))
              simp [Lib.hasPrefix, List.isPrefixOf, this]
            have HNo : Hid _ := hno
            clear hO hB hno HT HD HD2 c1 c2 c3 HEnd HF HC39 ES HX
            go_wp2
            all_goals first | (exfalso; apply undef_bool; assumption) | skip
            all_goals
              go_ret3
              exact ⟨ShOk.no HNo.out rfl, HB.out⟩
          have d3 : (((bs l)[k + 1].toNat : Int) == 33) = true := by rw [c3]; rfl
          have HY : Hid (sheetC l = (acc, l.drop (k + 1 + 1), (nameS acc && !plainB acc))) := by
            have e1 := ES.out
            have e2 : (bs l)[k + 1] = 33 := UInt8.toNat_inj.1 c3
            rw [HX.out.2, HX.out.1, e2] at e1
            show _ = _
            rw [show sheetC l = ((sheetC l).1, (sheetC l).2.1, (sheetC l).2.2) from rfl, e1.1, e1.2.1, e1.2.2]
            simp [Lib.hasPrefix, Lib.trimPrefix, List.isPrefixOf]
          have HQN : ∀ W, Hid (Calls Tryz.prog 17 #[.string (bs acc)] W fun e w' => e = .returned (.bool (nameS acc)) ∧ Below W.heap.size W w') := fun W => refName_any (bs acc) W
          have HQP : ∀ W, Hid _ := fun W => refPlain_any acc (by omega) W
          clear hO hB HT HD HD2 c1 c2 c3 HEnd HF HC39 ES HX
          cases hn : nameS acc
          · rw [hn] at HQN HY
            have HNo : Hid ((sheetC l).2.2 = false) := by show _ = _; rw [HY.out]; rfl
            go_wp2_with fail
            refine Calls.mono (HQN _).out ?_
            rintro _ w2 ⟨rfl, b2⟩
            have HB2 : Hid (Below w.heap.size w w2) := HB.out.trans (b2.mono HB.out.size)
            clear HQN HQP b2 HY
            go_wp2
            all_goals first | (exfalso; apply undef_bool; assumption) | skip
            all_goals
              go_ret3
              exact ⟨ShOk.no HNo.out rfl, HB2.out⟩
          · rw [hn] at HQN HY
            cases hp : plainB acc
            · rw [hp] at HQP HY
              have ex : (bs l).extract (k + 2) (bs l).size = bs (l.drop (k + 1 + 1)) := bs_drop l (k + 2)
              have EX : Hid _ := ex
              have hk3 : k + 2 ≤ (bs l).size := by omega
              clear ex
              go_wp2_with fail
              refine Calls.mono (HQN _).out ?_
              rintro _ w2 ⟨rfl, b2⟩
              have HB2 : Hid (Below w.heap.size w w2) := HB.out.trans (b2.mono HB.out.size)
              clear HQN b2
              go_wp2_with fail
              refine Calls.mono (HQP _).out ?_
              rintro _ w3 ⟨rfl, rfl⟩
              clear HQP
              go_wp2_with fail
              go_quiet (fail)
              go_wp2
              go_ret3
              refine ⟨⟨acc, l.drop (k + 1 + 1), ?_, fun _ => by rw [HY.out]; exact ⟨rfl, rfl⟩, by simp⟩, below_drewN HB2.out _⟩
              rw [HY.out, ← EX.out]
              rfl
            · rw [hp] at HQP HY
              have HNo : Hid ((sheetC l).2.2 = false) := by show _ = _; rw [HY.out]; rfl
              go_wp2_with fail
              refine Calls.mono (HQN _).out ?_
              rintro _ w2 ⟨rfl, b2⟩
              have HB2 : Hid (Below w.heap.size w w2) := HB.out.trans (b2.mono HB.out.size)
              clear HQN b2 HY
              go_wp2_with fail
              refine Calls.mono (HQP _).out ?_
              rintro _ w3 ⟨rfl, rfl⟩
              clear HQP
              go_wp2
              all_goals first | (exfalso; apply undef_bool; assumption) | skip
              all_goals
                go_ret3
                exact ⟨ShOk.no HNo.out rfl, HB2.out⟩
      · have d1 : (((bs l)[k].toNat : Int) != 39) = true := by rw [bne_iff_ne]; omega
        have HE : Hid (nm = (acc ++ [(bs l)[k]]) ++ (cutQ (l.drop (k + 1))).1 ∧ bh = (cutQ (l.drop (k + 1))).2) := by
          have := HT.out
          rw [HD.out, cutQ_other c1] at this
          refine ⟨by rw [this.1]; simp, this.2⟩
        clear HD c1 HT
        go_wp2_with (at_builtin; refine wpList_append_own2 _ rfl (.tmp 27) (.tmp 31) 46 rfl w.heap.size 5 i0 (.int .u8 0) 1 1 Tryz.underlying46 hi hz0 hz1 hz2 rfl (by decide) _ _ _ rfl (hO.alloc _) ⟨wr.heap.size, 0, none⟩ 1 1 [.int .u8 ((bs l)[k].toNat : Int)] rfl rfl (cell_one_new _ _ _) (by simp [Value.oneCell']) (by unfold maxLen; omega) (by omega) (by simp; omega) ?_)
        intro v' w3 hown' hgrow _
        have HG : Hid _ := HF.out (bs l)[k] v' w3 _ hown' hgrow
        clear HF hO hB hown' hgrow
        go_wp2
        refine ⟨⟨k + 1, acc ++ [(bs l)[k]], by omega, HK1.out, by simp, HE, by simp; omega, HG.out.1, HG.out.2⟩, ?_⟩
        have := HK1.out
        simp [intOf]; omega
    · have t2 : ¬ ((k : Int) < ((bs l).size : Int)) := by omega
      have hno : (sheetC l).2.2 = false := by
        have h0 : l.drop k = [] := List.drop_eq_nil_of_le (by have := HS.out; omega)
        have := HT.out.2
        rw [h0] at this
        rw [ES.out.1, this]
        rfl
      have HB : Hid _ := hB
      have HNo : Hid _ := hno
      clear hO hB hno HT
      go_wp2
      go_ret3
      exact ⟨ShOk.no HNo.out rfl, HB.out⟩
end Go.Proofs.YtnblbakjfpfipaaGreatDoor
