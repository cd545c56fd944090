import Derived.Test.YtgihginfegckcaaGreatDoorCzWpcM
import Derived.BigGuardPart
import Derived.Test.YtgihginfegckcaaGreatDoorMwdM
import Derived.WalkMore
/- CellsThere, walked. -/
namespace Go.Proofs.YtgihginfegckcaaGreatDoor
open Go.RowKit

theorem undef_bool {b : Bool} (h : some undef = some (Value.bool b)) : False := by unfold undef at h; simp at h
end Go.Proofs.YtgihginfegckcaaGreatDoor
/- The document's sheet: the name that a text begins with. -/
namespace Go.Proofs.YtgihginfegckcaaGreatDoor
open Go.RowKit

/-- What the document's sheet answers: where it is a name, as the program's. -/
def ShOk (l : List UInt8) (e : Ending) : Prop := ∃ nm rs : List UInt8, e = .returned (.tuple #[.string (bs nm), .string (bs rs), .bool (sheetC l).2.2]) ∧ ((sheetC l).2.2 = true → nm = (sheetC l).1 ∧ rs = (sheetC l).2.1) ∧ rs.length ≤ l.length
theorem ShOk.no {l : List UInt8} {e : Ending} (h : (sheetC l).2.2 = false) (he : e = .returned (.tuple #[.string .empty, .string .empty, .bool false])) : ShOk l e := by
  refine ⟨[], [], ?_, fun h2 => ?_, by simp⟩
  · rw [he, h]; rfl
  · rw [h] at h2; cases h2
set_option maxRecDepth 100000 in
set_option maxHeartbeats 4000000 in
theorem refSheet_quoted (l : List UInt8) (hl : l.length ≤ 140737488351232) (hq : Lib.hasPrefix l [39] = true) (w : World) :
    Calls Tryz.prog 102 #[.string (bs l)] w fun e w' => ShOk l e ∧ Below w.heap.size w w' := by
  have HS : Hid ((bs l).size = l.length) := bs_size l
  have hsz : (bs l).size ≤ 140737488351232 := by rw [bs_size]; exact hl
  have h1 : 1 ≤ (bs l).size := by
    rw [bs_size]
    cases l with
    | nil => simp [Lib.hasPrefix] at hq
    | cons a l => simp
  have h0 : 0 < (bs l).size := h1
  have t0 : (0 : Int) < ((bs l).size : Int) := by omega
  have d0 : (((bs l)[0].toNat : Int) == 39) = true := by
    have e : (bs l)[0] = 39 := by
      cases l with
      | nil => simp [Lib.hasPrefix] at hq
      | cons a l =>
        simp [Lib.hasPrefix] at hq
        exact hq.symm
    rw [e]; rfl
  have ES : Hid ((sheetC l).2.2 = (Lib.hasPrefix (cutQ (l.drop 1)).2 [39, 33] && nameS (cutQ (l.drop 1)).1 && !plainB (cutQ (l.drop 1)).1) ∧ (sheetC l).1 = (cutQ (l.drop 1)).1 ∧ (sheetC l).2.1 = Lib.trimPrefix (cutQ (l.drop 1)).2 [39, 33]) := by
    unfold sheetC; rw [hq]; exact ⟨rfl, rfl, rfl⟩
  obtain ⟨nm, HN⟩ : ∃ nm, Hid ((cutQ (l.drop 1)).1 = nm) := ⟨_, rfl⟩
  obtain ⟨bh, HH⟩ : ∃ bh, Hid ((cutQ (l.drop 1)).2 = bh) := ⟨_, rfl⟩
  rw [HN.out, HH.out] at ES
  have HLn : Hid (nm.length ≤ l.length) := by
    have := cutQ_len _ (l.drop 1) (Nat.le_refl _)
    rw [HN.out] at this
    simp only [List.length_drop] at this
    show _ ≤ _; omega
  clear hq hl
  obtain ⟨i0, hi, hzz⟩ := Option.map_eq_some_iff.1 Tryz.info5q
  simp only [Prod.mk.injEq] at hzz
  obtain ⟨hz0, hz1, hz2⟩ := hzz
  go_enter Tryz.func102, Tryz.ntmps102
  go_wp2
  go_loopw [5, 6] (fun v5 v6 wr => ∃ (k : Nat) (acc : List UInt8), 1 ≤ k ∧ k ≤ (bs l).size ∧ v6 = .int .i64 (k : Int) ∧ Hid (nm = acc ++ (cutQ (l.drop k)).1 ∧ bh = (cutQ (l.drop k)).2) ∧ acc.length ≤ k ∧ wr.ownsRow w.heap.size 5 1 v5 acc.length (cellsU acc) ∧ Below w.heap.size w wr) (fun _ v6 _ => (bs l).size - (intOf v6).toNat)
  case atStart => exact ⟨1, [], by omega, h1, rfl, ⟨HN.out.symm, HH.out.symm⟩, by simp, World.ownsRow_nil _ _ _ _, Below.refl _ _⟩
  case round =>
    obtain ⟨k, acc, hk1, hk, rfl, HT, hac, hO, hB⟩ := hrel
    obtain ⟨gu, cu, rfl⟩ := owns_form hO
    have hws := hB.size
    by_cases hlt : k < (bs l).size
    · have HK1 : Hid (k + 1 ≤ (bs l).size) := hlt
      have hlt := hlt
      have HD : Hid (l.drop k = (bs l)[k] :: l.drop (k + 1)) := drop_step l k hlt
      have HF : Hid (∀ (c : UInt8) (v' : Value) (w3 : World) (o : Obj), w3.ownsRow w.heap.size 5 1 v' (acc.length + 1) (cellsU acc ++ [.int .u8 (c.toNat : Int)]) → (wr.alloc o).grownBy w3 (Value.slice gu acc.length cu).ownBlock →
          w3.ownsRow w.heap.size 5 1 v' (acc ++ [c]).length (cellsU (acc ++ [c])) ∧ Below w.heap.size w w3) := by
        intro c v' w3 o h1 h2
        refine ⟨by rw [cellsU_snoc, List.length_append]; exact h1, (hB.alloc hws o).grown h2 (by rw [World.size_alloc]; omega) (fun r e => (hO.lt r e).1)⟩
      by_cases c1 : (bs l)[k].toNat = 39
      · have d1 : (((bs l)[k].toNat : Int) != 39) = false := by rw [c1]; rfl
        have HEnd : Hid ((∀ b r', l.drop (k + 1) = b :: r' → b.toNat ≠ 39) → nm = acc ∧ bh = (bs l)[k] :: l.drop (k + 1)) := fun hr => by
          have := HT.out
          rw [HD.out, cutQ_end c1 hr] at this
          exact ⟨by rw [this.1]; simp, this.2⟩
        have hcv := conv_own hO
        have HC39 : Hid ((bs l)[k] = 39) := UInt8.toNat_inj.1 c1
        by_cases hk2 : k + 1 < (bs l).size
        rotate_left
        · have t3 : ¬ ((k : Int) + 1 < ((bs l).size : Int)) := by omega
          have hno : (sheetC l).2.2 = false := by
            have hd : l.drop (k + 1) = [] := List.drop_eq_nil_of_le (by have := HS.out; omega)
            have h2 := (HEnd.out (fun b r' e => by rw [hd] at e; cases e)).2
            rw [hd, HC39.out] at h2
            rw [ES.out.1, h2]
            rfl
          have HB : Hid _ := hB
          have HNo : Hid _ := hno
          clear hO hB hno HT HD c1 HEnd HF HC39 ES
          go_wp2
          all_goals first | (exfalso; apply undef_bool; assumption) | skip
          all_goals
            go_ret3
            exact ⟨ShOk.no HNo.out rfl, HB.out⟩
        have t3 : (k : Int) + 1 < ((bs l).size : Int) := by omega
        have HD2 : Hid (l.drop (k + 1) = (bs l)[k + 1] :: l.drop (k + 1 + 1)) := drop_step l (k + 1) hk2
        by_cases c2 : (bs l)[k + 1].toNat = 39
        · have d2 : (((bs l)[k + 1].toNat : Int) == 39) = true := by rw [c2]; rfl
          have HE : Hid (nm = (acc ++ [39]) ++ (cutQ (l.drop (k + 1 + 1))).1 ∧ bh = (cutQ (l.drop (k + 1 + 1))).2) := by
            have := HT.out
            rw [HD.out, HD2.out, cutQ_two c1 c2] at this
            rw [show (bs l)[k + 1] = 39 from UInt8.toNat_inj.1 c2] at this
            refine ⟨by rw [this.1]; simp, this.2⟩
          clear HD HD2 c1 c2 HT HEnd hcv HC39
          go_wp2_with (at_builtin; refine wpList_append_own2 _ rfl (.tmp 45) (.tmp 46) 49 rfl w.heap.size 5 i0 (.int .u8 0) 1 1 Tryz.underlying49 hi hz0 hz1 hz2 rfl (by decide) _ _ _ rfl (hO.alloc _) ⟨wr.heap.size, 0, none⟩ 1 1 [.int .u8 39] rfl rfl (cell_one_new _ _ _) (by simp [Value.oneCell']) (by unfold maxLen; omega) (by omega) (by simp; omega) ?_)
          intro v' w3 hown' hgrow _
          have HG : Hid _ := HF.out 39 v' w3 _ hown' hgrow
          clear HF hO hB hown' hgrow
          go_wp2
          refine ⟨⟨k + 1 + 1, acc ++ [39], by omega, by omega, by congr 1, HE, by simp; omega, HG.out.1, HG.out.2⟩, ?_⟩
          simp [intOf]; omega
        · have d2 : (((bs l)[k + 1].toNat : Int) == 39) = false := beq_eq_false_iff_ne.2 (by omega)
          have HX : Hid (nm = acc ∧ bh = 39 :: (bs l)[k + 1] :: l.drop (k + 1 + 1)) := by
            have h2 := HEnd.out (fun b r' e => by
              rw [HD2.out] at e
              rw [← (List.cons.inj e).1]
              exact c2)
            rw [HC39.out, HD2.out] at h2
            exact h2
          have HB : Hid _ := hB
          by_cases c3 : (bs l)[k + 1].toNat = 33
          rotate_left
          · have d3 : (((bs l)[k + 1].toNat : Int) == 33) = false := beq_eq_false_iff_ne.2 (by omega)
            have hno : (sheetC l).2.2 = false := by
              rw [ES.out.1, HX.out.2]
              have : ((33 : UInt8) == (bs l)[k + 1]) = false := beq_eq_false_iff_ne.2 (fun e => c3 (by rw [← e]; rfl))
              simp [Lib.hasPrefix, List.isPrefixOf, this]
            have HNo : Hid _ := hno
            clear hO hB hno HT HD HD2 c1 c2 c3 HEnd HF HC39 ES HX
            go_wp2
            all_goals first | (exfalso; apply undef_bool; assumption) | skip
            all_goals
              go_ret3
              exact ⟨ShOk.no HNo.out rfl, HB.out⟩
          have d3 : (((bs l)[k + 1].toNat : Int) == 33) = true := by rw [c3]; rfl
          have HY : Hid (sheetC l = (acc, l.drop (k + 1 + 1), (nameS acc && !plainB acc))) := by
            have e1 := ES.out
            have e2 : (bs l)[k + 1] = 33 := UInt8.toNat_inj.1 c3
            rw [HX.out.2, HX.out.1, e2] at e1
            show _ = _
            rw [show sheetC l = ((sheetC l).1, (sheetC l).2.1, (sheetC l).2.2) from rfl, e1.1, e1.2.1, e1.2.2]
            simp [Lib.hasPrefix, Lib.trimPrefix, List.isPrefixOf]
          have HQN : ∀ W, Hid (Calls Tryz.prog 129 #[.string (bs acc)] W fun e w' => e = .returned (.bool (nameS acc)) ∧ Below W.heap.size W w') := fun W => refName_any (bs acc) W
          have HQP : ∀ W, Hid _ := fun W => refPlain_any acc (by omega) W
          clear hO hB HT HD HD2 c1 c2 c3 HEnd HF HC39 ES HX
          cases hn : nameS acc
          · rw [hn] at HQN HY
            have HNo : Hid ((sheetC l).2.2 = false) := by show _ = _; rw [HY.out]; rfl
            go_wp2_with fail
            refine Calls.mono (HQN _).out ?_
            rintro _ w2 ⟨rfl, b2⟩
            have HB2 : Hid (Below w.heap.size w w2) := HB.out.trans (b2.mono HB.out.size)
            clear HQN HQP b2 HY
            go_wp2
            all_goals first | (exfalso; apply undef_bool; assumption) | skip
            all_goals
              go_ret3
              exact ⟨ShOk.no HNo.out rfl, HB2.out⟩
          · rw [hn] at HQN HY
            cases hp : plainB acc
            · rw [hp] at HQP HY
              have ex : (bs l).extract (k + 2) (bs l).size = bs (l.drop (k + 1 + 1)) := bs_drop l (k + 2)
              have EX : Hid _ := ex
              have hk3 : k + 2 ≤ (bs l).size := by omega
              clear ex
              go_wp2_with fail
              refine Calls.mono (HQN _).out ?_
              rintro _ w2 ⟨rfl, b2⟩
              have HB2 : Hid (Below w.heap.size w w2) := HB.out.trans (b2.mono HB.out.size)
              clear HQN b2
              go_wp2_with fail
              refine Calls.mono (HQP _).out ?_
              rintro _ w3 ⟨rfl, rfl⟩
              clear HQP
              go_wp2_with fail
              go_quiet (fail)
              go_wp2
              go_ret3
              refine ⟨⟨acc, l.drop (k + 1 + 1), ?_, fun _ => by rw [HY.out]; exact ⟨rfl, rfl⟩, by simp⟩, below_drewN HB2.out _⟩
              rw [HY.out, ← EX.out]
              rfl
            · rw [hp] at HQP HY
              have HNo : Hid ((sheetC l).2.2 = false) := by show _ = _; rw [HY.out]; rfl
              go_wp2_with fail
              refine Calls.mono (HQN _).out ?_
              rintro _ w2 ⟨rfl, b2⟩
              have HB2 : Hid (Below w.heap.size w w2) := HB.out.trans (b2.mono HB.out.size)
              clear HQN b2 HY
              go_wp2_with fail
              refine Calls.mono (HQP _).out ?_
              rintro _ w3 ⟨rfl, rfl⟩
              clear HQP
              go_wp2
              all_goals first | (exfalso; apply undef_bool; assumption) | skip
              all_goals
                go_ret3
                exact ⟨ShOk.no HNo.out rfl, HB2.out⟩
      · have d1 : (((bs l)[k].toNat : Int) != 39) = true := by rw [bne_iff_ne]; omega
        have HE : Hid (nm = (acc ++ [(bs l)[k]]) ++ (cutQ (l.drop (k + 1))).1 ∧ bh = (cutQ (l.drop (k + 1))).2) := by
          have := HT.out
          rw [HD.out, cutQ_other c1] at this
          refine ⟨by rw [this.1]; simp, this.2⟩
        clear HD c1 HT
        go_wp2_with (at_builtin; refine wpList_append_own2 _ rfl (.tmp 27) (.tmp 31) 49 rfl w.heap.size 5 i0 (.int .u8 0) 1 1 Tryz.underlying49 hi hz0 hz1 hz2 rfl (by decide) _ _ _ rfl (hO.alloc _) ⟨wr.heap.size, 0, none⟩ 1 1 [.int .u8 ((bs l)[k].toNat : Int)] rfl rfl (cell_one_new _ _ _) (by simp [Value.oneCell']) (by unfold maxLen; omega) (by omega) (by simp; omega) ?_)
        intro v' w3 hown' hgrow _
        have HG : Hid _ := HF.out (bs l)[k] v' w3 _ hown' hgrow
        clear HF hO hB hown' hgrow
        go_wp2
        refine ⟨⟨k + 1, acc ++ [(bs l)[k]], by omega, HK1.out, by simp, HE, by simp; omega, HG.out.1, HG.out.2⟩, ?_⟩
        have := HK1.out
        simp [intOf]; omega
    · have t2 : ¬ ((k : Int) < ((bs l).size : Int)) := by omega
      have hno : (sheetC l).2.2 = false := by
        have h0 : l.drop k = [] := List.drop_eq_nil_of_le (by have := HS.out; omega)
        have := HT.out.2
        rw [h0] at this
        rw [ES.out.1, this]
        rfl
      have HB : Hid _ := hB
      have HNo : Hid _ := hno
      clear hO hB hno HT
      go_wp2
      go_ret3
      exact ⟨ShOk.no HNo.out rfl, HB.out⟩
end Go.Proofs.YtgihginfegckcaaGreatDoor
/- The document's sheet, not quoted. -/
namespace Go.Proofs.YtgihginfegckcaaGreatDoor
open Go.RowKit

section
variable {P : Program} {ops : Array Oper} {Q : Exit → Act → World → Prop} {S : World → Prop} {E : Nat → Bool}
theorem wpM_skip (i : Nat) {o : Oper} {listed listed' : Array Bool} {fuel : Nat} {a : Act} {w : World} (ho : ops[i]? = some o) (hs : Region.noSelect ops = true)
    (hB : (Region.free .any ops listed i && (Region.ready .any ops listed).contains i && !(E i)) = true) (hL : listed.setIfInBounds i true = listed')
    (hQ : ∀ c a w, Q (.panic c) (a.put o.dst undef) w → Q (.panic c) a w) (hw : Region.wanted o (yielded ops a.tmps) = false)
    (h : wpM P ops Q S E fuel listed' (a.put o.dst undef) w) : wpM P ops Q S E (fuel + 1) listed a w := by
  subst hL
  simp only [Bool.and_eq_true, Bool.not_eq_true'] at hB
  exact wpX_firstW ho (Region.noSelect_spec hs) hQ hB.2 _ _ a w (Region.free_spec ho hB.1.1) (by simpa using hB.1.2) (.inr ⟨hw, rfl⟩) h
end
set_option maxRecDepth 100000 in
set_option maxHeartbeats 4000000 in
theorem refSheet_plain (l : List UInt8) (hl : l.length ≤ 140737488351232) (hq : Lib.hasPrefix l [39] = false) (w : World) :
    Calls Tryz.prog 102 #[.string (bs l)] w fun e w' => ShOk l e ∧ Below w.heap.size w w' := by
  have HS : Hid ((bs l).size = l.length) := bs_size l
  have hsz : (bs l).size ≤ 140737488351232 := by rw [bs_size]; exact hl
  have ES : Hid (sheetC l = if (cutB l 33).2.2 then ((cutB l 33).1, (cutB l 33).2.1, nameS (cutB l 33).1 && plainB (cutB l 33).1) else ([], l, true)) := by
    show _ = _
    unfold sheetC; rw [hq]; rfl
  have H0 : (∃ h0 : 0 < (bs l).size, (((bs l)[0]'h0).toNat : Int) ≠ 39) ∨ (bs l).size = 0 := by
    by_cases h0 : 0 < (bs l).size
    · left
      refine ⟨h0, ?_⟩
      cases l with
      | nil => simp [bs_size] at h0
      | cons a l =>
        intro e
        have : a = 39 := UInt8.toNat_inj.1 (by show a.toNat = 39; have : ((bs (a :: l))[0]'h0) = a := rfl; rw [this] at e; omega)
        rw [this] at hq
        simp [Lib.hasPrefix] at hq
    · right; omega
  clear hq hl
  rcases H0 with ⟨h0, hne⟩ | hz
  · have t0 : (0 : Int) < ((bs l).size : Int) := by omega
    have d0 : (((bs l)[0].toNat : Int) == 39) = false := beq_eq_false_iff_ne.2 hne
    clear hne
    go_enter Tryz.func102, Tryz.ntmps102
    go_wp2
    go_loopw [8] (fun v8 wr => ∃ k : Nat, k ≤ (bs l).size ∧ v8 = .int .i64 (k : Int) ∧ Hid (∀ b ∈ l.take k, b ≠ 33) ∧ Hid (Below w.heap.size w wr)) (fun v8 _ => (bs l).size - (intOf v8).toNat)
    case atStart => exact ⟨0, by omega, rfl, (fun b hb => by simp at hb), Below.refl _ _⟩
    case round =>
      obtain ⟨k, hk, rfl, HT, HB⟩ := hrel
      by_cases hlt : k < (bs l).size
      · have HK1 : Hid (k + 1 ≤ (bs l).size) := hlt
        have HLt : Hid (k < l.length) := by have := HS.out; show _ < _; omega
        have hlt := hlt
        by_cases c1 : (bs l)[k].toNat = 33
        · have d1 : (((bs l)[k].toNat : Int) == 33) = true := by rw [c1]; rfl
          have e33 : (bs l)[k] = 33 := UInt8.toNat_inj.1 c1
          have hcut : cutB l 33 = (l.take k, l.drop (k + 1), true) := by
            have hs : l = l.take k ++ 33 :: l.drop (k + 1) := by
              conv => lhs; rw [← List.take_append_drop k l, drop_step l k hlt, e33]
            conv => lhs; rw [hs]
            exact cut_first _ _ 33 HT.out
          have HY : Hid (sheetC l = (l.take k, l.drop (k + 1), nameS (l.take k) && plainB (l.take k))) := by
            show _ = _
            rw [ES.out, hcut]; rfl
          have HU : Hid ((bs l).extract 0 k = bs (l.take k)) := bs_take l k
          have HV : Hid ((bs l).extract (k + 1) (bs l).size = bs (l.drop (k + 1))) := bs_drop l (k + 1)
          have Hw1 : Hid (IntKind.i64.wrap ((k : Int) + 1) = (k : Int) + 1) := by show IntKind.i64.wrap _ = _; simp [IntKind.wrap, IntKind.bits, IntKind.signed]; omega
          have HQN : ∀ W, Hid (Calls Tryz.prog 129 #[.string ((bs l).extract 0 k)] W fun e w' => e = .returned (.bool (nameS (l.take k))) ∧ Below W.heap.size W w') := fun W => by rw [HU.out]; exact refName_any (bs (l.take k)) W
          have HQP : ∀ W, Hid (Calls Tryz.prog 130 #[.string ((bs l).extract 0 k)] W fun e w' => e = .returned (.bool (plainB (l.take k))) ∧ w' = W) := fun W => by rw [HU.out]; exact refPlain_any (l.take k) (by have := HS.out; simp; omega) W
          clear c1 e33 hcut HT ES HLt
          cases hp : plainB (l.take k)
          · rw [hp] at HQP HY
            rw [Bool.and_false] at HY
            clear HQN
            have HBd : Hid (Below w.heap.size w wr.drew) := HB.out.drew
            go_wp2_with fail
            refine wp_region_M (fun _ => True) (fun _ => false) 20 rfl (by kernel_rfl) ?_
            refine wpM_free 0 (v := .string (bs l)) rfl (by kernel_rfl) (by kernel_rfl) rfl (fun _ _ _ h => h) rfl (by intro wx; go_simp <;> rfl) ?_
            refine wpM_free 1 (v := .int .i64 (k : Int)) rfl (by kernel_rfl) (by kernel_rfl) rfl (fun _ _ _ h => h) rfl (by intro wx; go_simp <;> rfl) ?_
            refine wpM_free 2 (v := .string ((bs l).extract 0 k)) rfl (by kernel_rfl) (by kernel_rfl) rfl (fun _ _ _ h => h) rfl (by intro wx; go_simp <;> first | rfl | omega) ?_
            refine wpM_free 3 (v := .string (bs l)) rfl (by kernel_rfl) (by kernel_rfl) rfl (fun _ _ _ h => h) rfl (by intro wx; go_simp <;> rfl) ?_
            refine wpM_free 4 (v := .int .i64 (k : Int)) rfl (by kernel_rfl) (by kernel_rfl) rfl (fun _ _ _ h => h) rfl (by intro wx; go_simp <;> rfl) ?_
            refine wpM_free 5 (v := .int .i64 ((k : Int) + 1)) rfl (by kernel_rfl) (by kernel_rfl) rfl (fun _ _ _ h => h) rfl (by intro wx; go_simp <;> first | exact Hw1.out | rfl) ?_
            refine wpM_free 6 (v := .string ((bs l).extract (k + 1) (bs l).size)) rfl (by kernel_rfl) (by kernel_rfl) rfl (fun _ _ _ h => h) rfl (by intro wx; go_simp <;> first | rfl | omega) ?_
            refine wpM_free 7 (v := .string (bs l)) rfl (by kernel_rfl) (by kernel_rfl) rfl (fun _ _ _ h => h) rfl (by intro wx; go_simp <;> rfl) ?_
            refine wpM_free 8 (v := .int .i64 (k : Int)) rfl (by kernel_rfl) (by kernel_rfl) rfl (fun _ _ _ h => h) rfl (by intro wx; go_simp <;> rfl) ?_
            refine wpM_one 9 rfl (by kernel_rfl) rfl ?_
            go_wp2_with fail
            refine ⟨(fun h => by simp at h), ?_⟩
            refine wpM_one 10 rfl (by kernel_rfl) rfl ?_
            go_wp2_with fail
            refine Calls.mono (HQP _).out ?_
            rintro _ w5 ⟨rfl, hw⟩
            rw [hw]
            clear hw w5 HQP
            go_wp2_with fail
            refine ⟨(fun h => by simp at h), ?_⟩
            refine wpM_one 11 rfl (by kernel_rfl) rfl ?_
            go_wp2_with fail
            refine ⟨(fun h => by simp at h), ?_⟩
            refine wpM_skip 12 rfl (by kernel_rfl) (by kernel_rfl) rfl (fun _ _ _ h => h) rfl ?_
            refine wpM_skip 13 rfl (by kernel_rfl) (by kernel_rfl) rfl (fun _ _ _ h => h) rfl ?_
            refine wpM_skip 14 rfl (by kernel_rfl) (by kernel_rfl) rfl (fun _ _ _ h => h) rfl ?_
            refine wpM_skip 15 rfl (by kernel_rfl) (by kernel_rfl) rfl (fun _ _ _ h => h) rfl ?_
            refine wpM_free 16 (v := .bool false) rfl (by kernel_rfl) (by kernel_rfl) rfl (fun _ _ _ h => h) rfl (by intro wx; go_simp <;> rfl) ?_
            refine wpM_one 17 rfl (by kernel_rfl) rfl ?_
            go_wp2_with fail
            refine ⟨(fun h => by simp at h), ?_⟩
            refine wpM_one 18 rfl (by kernel_rfl) rfl ?_
            go_wp2_with fail
            refine ⟨(fun h => by simp at h), ?_⟩
            refine wpM_one 19 rfl (by kernel_rfl) rfl ?_
            go_wp2_with fail
            refine ⟨(fun h => by simp at h), ?_⟩
            refine wpM_done (by kernel_rfl) ?_
            go_wp2
            go_ret3
            refine ⟨⟨l.take k, l.drop (k + 1), ?_, fun _ => by rw [HY.out]; exact ⟨rfl, rfl⟩, by simp⟩, HBd.out⟩
            rw [HY.out, ← HU.out, ← HV.out]
            rfl
          · rw [hp] at HQP HY
            cases hn : nameS (l.take k)
            · rw [hn] at HQN HY
              have HBd : Hid (Below w.heap.size w wr.drew) := HB.out.drew
              go_wp2_with fail
              refine wp_region_M (fun _ => True) (fun _ => false) 20 rfl (by kernel_rfl) ?_
              refine wpM_free 0 (v := .string (bs l)) rfl (by kernel_rfl) (by kernel_rfl) rfl (fun _ _ _ h => h) rfl (by intro wx; go_simp <;> rfl) ?_
              refine wpM_free 1 (v := .int .i64 (k : Int)) rfl (by kernel_rfl) (by kernel_rfl) rfl (fun _ _ _ h => h) rfl (by intro wx; go_simp <;> rfl) ?_
              refine wpM_free 2 (v := .string ((bs l).extract 0 k)) rfl (by kernel_rfl) (by kernel_rfl) rfl (fun _ _ _ h => h) rfl (by intro wx; go_simp <;> first | rfl | omega) ?_
              refine wpM_free 3 (v := .string (bs l)) rfl (by kernel_rfl) (by kernel_rfl) rfl (fun _ _ _ h => h) rfl (by intro wx; go_simp <;> rfl) ?_
              refine wpM_free 4 (v := .int .i64 (k : Int)) rfl (by kernel_rfl) (by kernel_rfl) rfl (fun _ _ _ h => h) rfl (by intro wx; go_simp <;> rfl) ?_
              refine wpM_free 5 (v := .int .i64 ((k : Int) + 1)) rfl (by kernel_rfl) (by kernel_rfl) rfl (fun _ _ _ h => h) rfl (by intro wx; go_simp <;> first | exact Hw1.out | rfl) ?_
              refine wpM_free 6 (v := .string ((bs l).extract (k + 1) (bs l).size)) rfl (by kernel_rfl) (by kernel_rfl) rfl (fun _ _ _ h => h) rfl (by intro wx; go_simp <;> first | rfl | omega) ?_
              refine wpM_free 7 (v := .string (bs l)) rfl (by kernel_rfl) (by kernel_rfl) rfl (fun _ _ _ h => h) rfl (by intro wx; go_simp <;> rfl) ?_
              refine wpM_free 8 (v := .int .i64 (k : Int)) rfl (by kernel_rfl) (by kernel_rfl) rfl (fun _ _ _ h => h) rfl (by intro wx; go_simp <;> rfl) ?_
              refine wpM_one 9 rfl (by kernel_rfl) rfl ?_
              go_wp2_with fail
              refine ⟨(fun h => by simp at h), ?_⟩
              refine wpM_one 10 rfl (by kernel_rfl) rfl ?_
              go_wp2_with fail
              refine Calls.mono (HQP _).out ?_
              rintro _ w5 ⟨rfl, hw⟩
              rw [hw]
              clear hw w5 HQP
              go_wp2_with fail
              refine ⟨(fun h => by simp at h), ?_⟩
              refine wpM_one 11 rfl (by kernel_rfl) rfl ?_
              go_wp2_with fail
              refine ⟨(fun h => by simp at h), ?_⟩
              refine wpM_free 12 (v := .string (bs l)) rfl (by kernel_rfl) (by kernel_rfl) rfl (fun _ _ _ h => h) rfl (by intro wx; go_simp <;> rfl) ?_
              refine wpM_one 13 rfl (by kernel_rfl) rfl ?_
              go_wp2_with fail
              refine ⟨(fun h => by simp at h), ?_⟩
              refine wpM_one 14 rfl (by kernel_rfl) rfl ?_
              go_wp2_with fail
              refine ⟨(fun h => by simp at h), ?_⟩
              refine wpM_one 15 rfl (by kernel_rfl) rfl ?_
              go_wp2_with fail
              refine Calls.mono (HQN _).out ?_
              rintro _ w6 ⟨rfl, b2⟩
              have HB2 : Hid (Below w.heap.size w w6) := HBd.out.trans (b2.mono HBd.out.size)
              clear HQN b2
              go_wp2_with fail
              refine ⟨(fun h => by simp at h), ?_⟩
              refine wpM_free 16 (v := .bool false) rfl (by kernel_rfl) (by kernel_rfl) rfl (fun _ _ _ h => h) rfl (by intro wx; go_simp <;> rfl) ?_
              refine wpM_one 17 rfl (by kernel_rfl) rfl ?_
              go_wp2_with fail
              refine ⟨(fun h => by simp at h), ?_⟩
              refine wpM_one 18 rfl (by kernel_rfl) rfl ?_
              go_wp2_with fail
              refine ⟨(fun h => by simp at h), ?_⟩
              refine wpM_one 19 rfl (by kernel_rfl) rfl ?_
              go_wp2_with fail
              refine ⟨(fun h => by simp at h), ?_⟩
              refine wpM_done (by kernel_rfl) ?_
              go_wp2
              go_ret3
              refine ⟨⟨l.take k, l.drop (k + 1), ?_, fun _ => by rw [HY.out]; exact ⟨rfl, rfl⟩, by simp⟩, HB2.out⟩
              rw [HY.out, ← HU.out, ← HV.out]
              rfl
            · rw [hn] at HQN HY
              have HBd : Hid (Below w.heap.size w wr.drew) := HB.out.drew
              go_wp2_with fail
              refine wp_region_M (fun _ => True) (fun _ => false) 20 rfl (by kernel_rfl) ?_
              refine wpM_free 0 (v := .string (bs l)) rfl (by kernel_rfl) (by kernel_rfl) rfl (fun _ _ _ h => h) rfl (by intro wx; go_simp <;> rfl) ?_
              refine wpM_free 1 (v := .int .i64 (k : Int)) rfl (by kernel_rfl) (by kernel_rfl) rfl (fun _ _ _ h => h) rfl (by intro wx; go_simp <;> rfl) ?_
              refine wpM_free 2 (v := .string ((bs l).extract 0 k)) rfl (by kernel_rfl) (by kernel_rfl) rfl (fun _ _ _ h => h) rfl (by intro wx; go_simp <;> first | rfl | omega) ?_
              refine wpM_free 3 (v := .string (bs l)) rfl (by kernel_rfl) (by kernel_rfl) rfl (fun _ _ _ h => h) rfl (by intro wx; go_simp <;> rfl) ?_
              refine wpM_free 4 (v := .int .i64 (k : Int)) rfl (by kernel_rfl) (by kernel_rfl) rfl (fun _ _ _ h => h) rfl (by intro wx; go_simp <;> rfl) ?_
              refine wpM_free 5 (v := .int .i64 ((k : Int) + 1)) rfl (by kernel_rfl) (by kernel_rfl) rfl (fun _ _ _ h => h) rfl (by intro wx; go_simp <;> first | exact Hw1.out | rfl) ?_
              refine wpM_free 6 (v := .string ((bs l).extract (k + 1) (bs l).size)) rfl (by kernel_rfl) (by kernel_rfl) rfl (fun _ _ _ h => h) rfl (by intro wx; go_simp <;> first | rfl | omega) ?_
              refine wpM_free 7 (v := .string (bs l)) rfl (by kernel_rfl) (by kernel_rfl) rfl (fun _ _ _ h => h) rfl (by intro wx; go_simp <;> rfl) ?_
              refine wpM_free 8 (v := .int .i64 (k : Int)) rfl (by kernel_rfl) (by kernel_rfl) rfl (fun _ _ _ h => h) rfl (by intro wx; go_simp <;> rfl) ?_
              refine wpM_one 9 rfl (by kernel_rfl) rfl ?_
              go_wp2_with fail
              refine ⟨(fun h => by simp at h), ?_⟩
              refine wpM_one 10 rfl (by kernel_rfl) rfl ?_
              go_wp2_with fail
              refine Calls.mono (HQP _).out ?_
              rintro _ w5 ⟨rfl, hw⟩
              rw [hw]
              clear hw w5 HQP
              go_wp2_with fail
              refine ⟨(fun h => by simp at h), ?_⟩
              refine wpM_one 11 rfl (by kernel_rfl) rfl ?_
              go_wp2_with fail
              refine ⟨(fun h => by simp at h), ?_⟩
              refine wpM_free 12 (v := .string (bs l)) rfl (by kernel_rfl) (by kernel_rfl) rfl (fun _ _ _ h => h) rfl (by intro wx; go_simp <;> rfl) ?_
              refine wpM_one 13 rfl (by kernel_rfl) rfl ?_
              go_wp2_with fail
              refine ⟨(fun h => by simp at h), ?_⟩
              refine wpM_one 14 rfl (by kernel_rfl) rfl ?_
              go_wp2_with fail
              refine ⟨(fun h => by simp at h), ?_⟩
              refine wpM_one 15 rfl (by kernel_rfl) rfl ?_
              go_wp2_with fail
              refine Calls.mono (HQN _).out ?_
              rintro _ w6 ⟨rfl, b2⟩
              have HB2 : Hid (Below w.heap.size w w6) := HBd.out.trans (b2.mono HBd.out.size)
              clear HQN b2
              go_wp2_with fail
              refine ⟨(fun h => by simp at h), ?_⟩
              refine wpM_free 16 (v := .bool true) rfl (by kernel_rfl) (by kernel_rfl) rfl (fun _ _ _ h => h) rfl (by intro wx; go_simp <;> rfl) ?_
              refine wpM_one 17 rfl (by kernel_rfl) rfl ?_
              go_wp2_with fail
              refine ⟨(fun h => by simp at h), ?_⟩
              refine wpM_one 18 rfl (by kernel_rfl) rfl ?_
              go_wp2_with fail
              refine ⟨(fun h => by simp at h), ?_⟩
              refine wpM_one 19 rfl (by kernel_rfl) rfl ?_
              go_wp2_with fail
              refine ⟨(fun h => by simp at h), ?_⟩
              refine wpM_done (by kernel_rfl) ?_
              go_wp2
              go_ret3
              refine ⟨⟨l.take k, l.drop (k + 1), ?_, fun _ => by rw [HY.out]; exact ⟨rfl, rfl⟩, by simp⟩, HB2.out⟩
              rw [HY.out, ← HU.out, ← HV.out]
              rfl
        · have d1 : (((bs l)[k].toNat : Int) == 33) = false := beq_eq_false_iff_ne.2 (by omega)
          have HT2 : Hid (∀ b ∈ l.take (k + 1), b ≠ 33) := fun b hb => by
            rw [take_snocL l k HLt.out] at hb
            rcases List.mem_append.1 hb with hb | hb
            · exact HT.out b hb
            · simp at hb
              intro e
              exact c1 (by rw [show (bs l)[k]'hlt = l[k]'HLt.out from rfl, ← hb, e]; rfl)
          clear HT c1 HLt
          go_wp2
          go_roundw
          case rel => exact ⟨k + 1, HK1.out, by go_num, HT2, HB⟩
          case measure => have := HK1.out; simp [intOf]; omega
      · have t2 : ¬ ((k : Int) < ((bs l).size : Int)) := by omega
        have HY : Hid (sheetC l = ([], l, true)) := by
          have := HT.out
          rw [List.take_of_length_le (by have := HS.out; omega)] at this
          show _ = _
          rw [ES.out, cut_none l 33 this]; rfl
        clear HT ES
        go_wp2
        go_ret3
        refine ⟨⟨[], l, ?_, fun _ => by rw [HY.out]; exact ⟨rfl, rfl⟩, Nat.le_refl _⟩, HB.out⟩
        rw [HY.out]
        rfl
  · have hd : l = [] := List.length_eq_zero_iff.1 (by have := HS.out; omega)
    subst hd
    have t0 : ¬ ((0 : Int) < ((bs []).size : Int)) := by omega
    have e0 : sheetC [] = ([], [], true) := by rw [ES.out]; rfl
    have t2 : ¬ ((0 : Int) < ((bs []).size : Int)) := t0
    have E0 : Hid _ := e0
    clear e0 ES hz
    go_enter Tryz.func102, Tryz.ntmps102
    go_wp2
    refine wp_loop_rounds 1 ?_
    rw [rounds_succ]
    go_wp2
    go_ret3
    refine ⟨⟨[], [], ?_, fun _ => by rw [E0.out]; exact ⟨rfl, rfl⟩, by simp⟩, Below.refl _ _⟩
    rw [E0.out]
    rfl
end Go.Proofs.YtgihginfegckcaaGreatDoor
/- What the document's cell is to answer; Parse by it. -/
namespace Go.Proofs.YtgihginfegckcaaGreatDoor
open Go.RowKit

/-- A text without a sheet: the reference, whether it is written so, whether it is there. -/
def cellR (l : List UInt8) : Rf := if (placeP l).ok then ⟨.empty, ((colOf (placeP l).letters).getD 0 : Nat), (rowN (placeP l).digits : Nat), (placeP l).ac, (placeP l).ar⟩ else Rf.zero
def cellT (l : List UInt8) : Bool := (placeP l).ok && (foundR .empty (placeP l)).isSome
/-- The contract of the document's cell. -/
def CellC : Prop := ∀ (l : List UInt8), l.length ≤ 140737488351232 → ∀ W : World, Calls Tryz.prog 103 #[.string (bs l)] W fun e w' => e = .returned (.tuple #[(cellR l).v, .bool (placeP l).ok, .bool (cellT l)]) ∧ Below W.heap.size W w'
theorem refSheet_any (l : List UInt8) (hl : l.length ≤ 140737488351232) (w : World) : Calls Tryz.prog 102 #[.string (bs l)] w fun e w' => ShOk l e ∧ Below w.heap.size w w' := by
  cases h : Lib.hasPrefix l [39]
  · exact refSheet_plain l hl h w
  · exact refSheet_quoted l hl h w
theorem found_sheet (s : ByteArray) (p : Pl) : foundR s p = (foundR .empty p).map (fun x => ⟨s, x.c, x.r, x.ac, x.ar⟩) := by
  unfold foundR
  split <;> rfl
end Go.Proofs.YtgihginfegckcaaGreatDoor
/- A text without a sheet, by places (pure). -/
namespace Go.Proofs.YtgihginfegckcaaGreatDoor
open Go.RowKit

theorem ahead_place (l m cs : List UInt8) (p : Nat) (h : l.drop p = m) (k : Nat) (hk : k < (aheadL m cs).length) : ∃ h' : p + k < l.length, cs.contains (l[p + k]) = true := by
  have hm : (aheadL m cs).length ≤ m.length := by have := ahead_len m cs; omega
  have hl : m.length = l.length - p := by rw [← h]; simp
  have h' : p + k < l.length := by omega
  refine ⟨h', ?_⟩
  have e1 : l[p + k] = m[k]'(by omega) := by subst h; simp
  have e2 : m[k]'(by omega) = (aheadL m cs)[k] := by
    have hs := ahead_behind m cs
    have : (aheadL m cs ++ behindL m cs)[k]'(by rw [hs]; omega) = (aheadL m cs)[k] := List.getElem_append_left hk
    rw [← this]
    congr 1
    exact hs.symm
  rw [e1, e2]
  exact ahead_mem (List.getElem_mem hk)
theorem behind_head {m cs : List UInt8} {b : UInt8} {r : List UInt8} (h : behindL m cs = b :: r) : cs.contains b = false := by
  have := List.head?_dropWhile_not (p := (cs.contains ·)) (l := m)
  unfold behindL at h
  rw [h] at this
  simpa using this
theorem behind_drop (l m cs : List UInt8) (p : Nat) (h : l.drop p = m) : l.drop (p + (aheadL m cs).length) = behindL m cs := by
  rw [← List.drop_drop, h]
  have e := ahead_behind m cs
  generalize aheadL m cs = a at e ⊢
  generalize behindL m cs = b at e ⊢
  rw [← e]
  simp
theorem behind_place (l m cs : List UInt8) (p : Nat) (h : l.drop p = m) (h' : p + (aheadL m cs).length < l.length) : cs.contains (l[p + (aheadL m cs).length]) = false := by
  have hd := behind_drop l m cs p h
  rw [List.drop_eq_getElem_cons h'] at hd
  exact behind_head hd.symm
theorem pre_drop (l : List UInt8) (p : Nat) (m : List UInt8) (c : UInt8) (h : l.drop p = m) : l.drop (p + (if Lib.hasPrefix m [c] then 1 else 0)) = Lib.trimPrefix m [c] := by
  cases m with
  | nil => simp [Lib.hasPrefix, Lib.trimPrefix, h]
  | cons a r =>
    by_cases e : a = c
    · subst e
      simp [Lib.hasPrefix, Lib.trimPrefix, ← List.drop_drop, h]
    · simp [Lib.hasPrefix, Lib.trimPrefix, h, Ne.symm e]
theorem cap_bounds_all : (List.range 256).all (fun n => capL.contains (UInt8.ofNat n) == (decide (65 ≤ n) && decide (n ≤ 90))) = true := by kernel_rfl
theorem cap_bounds (c : UInt8) : capL.contains c = (decide (65 ≤ c.toNat) && decide (c.toNat ≤ 90)) := by
  have := List.all_eq_true.1 cap_bounds_all c.toNat (List.mem_range.2 c.toNat_lt)
  simpa using this
theorem dig_all : (List.range 256).all (fun n => digL.contains (UInt8.ofNat n) == digB (UInt8.ofNat n)) = true := by kernel_rfl
theorem dig_same (c : UInt8) : digL.contains c = digB c := by
  have := List.all_eq_true.1 dig_all c.toNat (List.mem_range.2 c.toNat_lt)
  simpa using this
theorem row_snoc (l : List UInt8) (c : UInt8) : rowN (l ++ [c]) = rowN l * 10 + (c.toNat - 48) := by
  unfold rowN; rw [List.foldl_append]; rfl
end Go.Proofs.YtgihginfegckcaaGreatDoor
/- What the document's cell is walked by. -/
namespace Go.Proofs.YtgihginfegckcaaGreatDoor
open Go.RowKit

/-- What is known of the places. -/
structure PlAt (l : List UInt8) (p0 p1 p2 p3 : Nat) (q : Nat → Nat) : Prop where
  le1 : p0 ≤ p1
  le3 : p2 ≤ p3
  end3 : p3 ≤ (bs l).size
  cap : ∀ k, p0 ≤ k → k < p1 → ∃ h : k < (bs l).size, 65 ≤ ((bs l)[k]'h).toNat ∧ ((bs l)[k]'h).toNat ≤ 90
  capE : ∀ h : p1 < (bs l).size, ¬ (65 ≤ ((bs l)[p1]'h).toNat ∧ ((bs l)[p1]'h).toNat ≤ 90)
  dig : ∀ k, p2 ≤ k → k < p3 → ∃ h : k < (bs l).size, digB ((bs l)[k]'h) = true
  digE : ∀ h : p3 < (bs l).size, digB ((bs l)[p3]'h) = false
  q0 : q 0 = 0
  qs : ∀ k, p2 ≤ k → k < p3 → ∀ h : k < (bs l).size, q (k - p2 + 1) = q (k - p2) * 10 + (((bs l)[k]'h).toNat - 48)
  qb : ∀ k, k ≤ 7 → q k < 10000000
theorem digB_of {c : UInt8} (h : digB c = true) : 48 ≤ c.toNat ∧ c.toNat ≤ 57 := by simpa [digB] using h
theorem ba_get {l : List UInt8} {k : Nat} (h : k < (bs l).size) : (bs l)[k]? = some ((bs l)[k]'h) := by simp [h]
def RowsAt (w W : World) (r : Int) (a b : Bool) : Prop := Row W w.heap.size 32 #[.string .empty, .int .i64 0, .int .i64 0, .bool false, .bool false] ∧ Row W (w.heap.size + 1) 32 #[.string .empty, .int .i64 0, .int .i64 r, .bool a, .bool b] ∧ Below w.heap.size w W
def cellE (c : Int) (f : Bool) (r : Nat) (a b ok : Bool) : Ending := if ok then .returned (.tuple #[.agg #[.string .empty, .int .i64 c, .int .i64 (r : Int), .bool a, .bool b], .bool true, .bool (f && decide ((r : Int) ≤ 512))]) else .returned (.tuple #[.agg #[.string .empty, .int .i64 0, .int .i64 0, .bool false, .bool false], .bool false, .bool false])

end Go.Proofs.YtgihginfegckcaaGreatDoor
