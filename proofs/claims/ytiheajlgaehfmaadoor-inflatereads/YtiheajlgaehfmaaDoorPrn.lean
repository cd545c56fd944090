import Derived.Test.YtiheajlgaehfmaaDoorPrq
/- The iterator over runs of lengths: the closure's walk. -/
namespace Go.Proofs.YtiheajlgaehfmaaDoor
open Go.RowKit Go.Shelf

attribute [local go_sem] Oper.semAt_some

/-- What may come next. -/
def RunR (many : Nat) (pre : List (Int × Nat)) (x : Int × Nat) : Prop := (flat pre).length + x.2 ≤ many
def RunDone (U : Nat → Prop) (S Q : Nat) (bs : List Int) (g : Option Addr) (c b1 b2 b3 DZ many : Nat) (cz : List Int) (R : Except Int (Nat × List Int)) (xs : List (Int × Nat)) (V : World) : Prop := ∃ p, R = .ok (p, flat xs) ∧ RInv U S Q bs g c b1 b2 b3 DZ many cz p V
def RunErr (R : Except Int (Nat × List Int)) (er : Int) : Prop := R = .error er ∧ er ≠ 0
theorem flat_last (pre : List (Int × Nat)) (x : Int × Nat) (h : 1 ≤ x.2) : (flat (pre ++ [x]))[(flat (pre ++ [x])).length - 1]?.getD 0 = x.1 := by
  rw [flat_snoc, List.length_append, List.length_replicate, List.getElem?_append_right (by omega), List.getElem?_replicate, if_pos (by omega)]
  rfl

set_option maxRecDepth 100000 in
set_option maxHeartbeats 4000000 in
theorem runs1_in (n : Nat) (l : Nat) (U : Nat → Prop) (S Q : Nat) (bs : List Int) (g : Option Addr) (c b1 b2 b3 DZ many pos0 : Nat) (cz : List Int) (hU : RSet U S Q b1 b2 b3) (hb : AreBytes bs) (hl : bs.length ≤ 140737488351232) (hmany : many ≤ 1000) (hcl : cz.length = 19)
    (R : Except Int (Nat × List Int)) (HR : Hid (rowS cz bs many (8 * bs.length + 1) pos0 [] = R)) (J : List (Int × Nat) → World → Prop)
    (hst : ∀ pre V V', J pre V → Kept (fun k => k < V.heap.size ∧ k ≠ Q) V V' → J pre V')
    (hY : ∀ pre x V, J pre V → RunR many pre x → YieldAt Fence.wide (n - 1) Tryd.prog l #[.int .i64 x.1, .int .i64 (x.2 : Int)] V fun e V' => e = .returned (.bool true) ∧ J (pre ++ [x]) V' ∧ Kept U V V')
    (W : World) (h0 : J [] W) (hinv : RInv U S Q bs g c b1 b2 b3 DZ many cz pos0 W) :
    CallsIn Fence.wide n Tryd.prog 73 #[.func (.yield l) #[] #[], .pointer (some ⟨b1, 0, none⟩), .pointer (some ⟨b2, 0, none⟩), .pointer (some ⟨b3, 0, none⟩)] W fun e V =>
      ((∃ v, e = .returned v) ∧ ∃ xs, RunDone U S Q bs g c b1 b2 b3 DZ many cz R xs V ∧ J xs V) ∨ (∃ er pre, e = gaveUp er ∧ RunErr R er ∧ J pre V) := by
  refine callsIn_of_wp Tryd.func73 rfl trivial ?_ rfl
  simp only [Tryd.ntmps73, List.size_toArray, List.length_cons, List.length_nil, Nat.reduceAdd, Nat.reduceSub, Array.replicate_succ, Array.replicate_zero, List.push_toArray, List.append_toArray, List.nil_append, List.cons_append]
  gi_wp2
  gi_loopw [5, 7] (fun v5 v7 wr => ∃ (f pos : Nat) (pre : List (Int × Nat)) (len : Int), v5 = .int .i64 len ∧ v7 = .int .i64 ((flat pre).length : Int) ∧ Hid (rowS cz bs many f pos (flat pre) = R) ∧ 8 * bs.length + 1 ≤ f + pos ∧ (flat pre).length ≤ many ∧ (1 ≤ (flat pre).length → len = (flat pre)[(flat pre).length - 1]?.getD 0) ∧ RInv U S Q bs g c b1 b2 b3 DZ many cz pos wr ∧ J pre wr) (fun _ _ wr => 8 * bs.length - posAt Q wr)
  case atStart => exact ⟨8 * bs.length + 1, pos0, [], 0, rfl, rfl, HR, by omega, by simp [flat], fun h => by simp [flat] at h, hinv, h0⟩
  case round =>
    clear hinv h0 HR
    obtain ⟨f, pos, pre, len, rfl, rfl, HR, hf, hfl, hlast, hi, hJ⟩ := hrel
    have i1 := hi.c1
    have i2 := hi.c2
    have i3 := hi.c3
    have hbd := hi.hp
    have HP : Hid (posAt Q wr = pos) := hi.posAt
    obtain ⟨f, rfl⟩ : ∃ f', f = f' + 1 := ⟨f - 1, by omega⟩
    by_cases hlt : (flat pre).length < many
    rotate_left
    · have HF : Hid (RunDone U S Q bs g c b1 b2 b3 DZ many cz R pre wr ∧ J pre wr) := ⟨⟨pos, HR.out.symm.trans (rowS_end hlt), hi⟩, hJ⟩
      have t1 : decide (((flat pre).length : Int) < (many : Int)) = false := decide_eq_false (by omega)
      clear HR hi hJ hY hst i2 i3
      gi_wp2
      go_end0
      exact .inl ⟨⟨_, rfl⟩, pre, HF.out.1, HF.out.2⟩
    have t1 : decide (((flat pre).length : Int) < (many : Int)) = true := decide_eq_true (by omega)
    have HS : Hid _ := symbol_q cz DZ wr hb hl hi.s0 hi.rd (hi.bytes.mono (fun k hk => ⟨hi.lt k hk.1, hk.2⟩)) hi.hp hi.dec
    have hdok := hi.dec.ok
    gi_wp2_with fail
    refine ⟨trivial, (fun h => by cases h), (callsIn_wide.2 HS.out).mono ?_⟩
    clear HS
    rintro e w1 ⟨hk1, (⟨x, p1, h1, hx, rfl, hr1, hp1⟩ | ⟨er, h1, hne, rfl⟩)⟩
    rotate_left
    · have HF : Hid (RunErr R er ∧ J pre w1) := ⟨⟨HR.out.symm.trans (rowS_err hlt (rowStep_next h1)), hne⟩, hst _ _ _ hJ hk1⟩
      clear HR hi hJ hY hst i1 i2 i3 hk1 h1
      gi_wp2
      exact ⟨rfl, .inr ⟨er, pre, rfl, HF.out.1, HF.out.2⟩⟩
    have hx19 : x < 19 := hcl ▸ nextS_len hdok (by omega) h1
    have hm1 := nextS_more hdok h1
    have hi1 := hi.turn hU hk1 hr1 hp1
    have hJ1 := hst _ _ _ hJ hk1
    clear hi hJ hk1 hr1 i1 i2 i3
    have i1 := hi1.c1
    have i2 := hi1.c2
    have i3 := hi1.c3
    by_cases hx16 : x < 16
    · have u1 : ((x : Int) == 16) = false := by simp; omega
      have u2 : ((x : Int) == 17) = false := by simp; omega
      have u3 : ((x : Int) == 18) = false := by simp; omega
      have HSTEP : Hid (rowStep cz bs many pos (flat pre) = .ok (p1, flat pre ++ List.replicate 1 (x : Int))) := rowStep_one h1 hx16
      clear h1
      have t9 : decide ((many : Int) - ((flat pre).length : Int) < 1) = false := decide_eq_false (by omega)
      obtain ⟨fn, tmps, assign, body, hy, hRd⟩ := hY pre ((x : Int), 1) w1 hJ1 (by show _ + _ ≤ _; omega)
      have HY : Hid (rowS cz bs many f p1 (flat (pre ++ [((x : Int), 1)])) = R) := by
        show _ = _
        rw [flat_snoc, ← HR.out]
        exact (rowS_more hlt (HSTEP.out)).symm
      have HL : Hid ((flat (pre ++ [((x : Int), 1)])).length = (flat pre).length + (1)) := by
        show _ = _
        rw [flat_snoc, List.length_append, List.length_replicate]
      have HLA : Hid ((flat (pre ++ [((x : Int), 1)]))[(flat (pre ++ [((x : Int), 1)])).length - 1]?.getD 0 = (x : Int)) := flat_last pre ((x : Int), 1) (by show 1 ≤ 1; omega)
      simp only at hy
      rw [show (((1 : Nat)) : Int) = 1 by omega] at hy
      have HI : Hid (RInv U S Q bs g c b1 b2 b3 DZ many cz p1 w1) := hi1
      clear HR hY hst hJ1 hi1 HSTEP
      gi_wp2
      refine ⟨(fun h => by cases h), hRd.mono ?_⟩
      rintro e w9 ⟨rfl, hJ9, hk9⟩
      have hi9 := HI.out.kept hU hk9
      have d1 := hi9.c1
      have d2 := hi9.c2
      have d3 := hi9.c3
      have HJ : Hid (J (pre ++ [((x : Int), 1)]) w9) := hJ9
      have HP9 : Hid (posAt Q w9 = p1) := hi9.posAt
      have HI9 : Hid (RInv U S Q bs g c b1 b2 b3 DZ many cz p1 w9) := hi9
      have hp9 := hi9.hp
      clear HI hk9 hi9 hJ9 hRd hy
      gi_wp2
      exact ⟨⟨f, p1, pre ++ [((x : Int), 1)], (x : Int), rfl, by rw [HL.out]; go_num, HY.out, by omega, by rw [HL.out]; omega, fun _ => HLA.out.symm, HI9.out, HJ.out⟩, by rw [HP9.out, HP.out]; omega⟩
    · by_cases hxe : x = 16
      · by_cases hz : (flat pre).length = 0
        · subst hxe
          have HF : Hid (RunErr R 12 ∧ J pre w1) := ⟨⟨HR.out.symm.trans (rowS_err hlt (rowStep_none h1 hz)), by omega⟩, hJ1⟩
          have t8 : (((flat pre).length : Int) == 0) = true := by simp [hz]
          clear HR hi1 hJ1 hY hst i1 i2 i3 h1
          gi_wp2
          exact ⟨rfl, .inr ⟨12, pre, rfl, HF.out.1, HF.out.2⟩⟩
        · have t8 : (((flat pre).length : Int) == 0) = false := beq_eq_false_iff_ne.2 (by omega)
          subst hxe
          have HN : Hid _ := number_q 2 (by omega) w1 hb hl hi1.s0 hi1.rd (hi1.bytes.mono (fun k hk => ⟨hi1.lt k hk.1, hk.2⟩)) hi1.hp
          gi_wp2_with fail
          refine ⟨trivial, (fun h => by cases h), (callsIn_wide.2 HN.out).mono ?_⟩
          clear HN
          rintro e w2 ⟨hk2, (⟨y, p2, h2, hy2, rfl, hr2, hp2⟩ | ⟨h2, rfl⟩)⟩
          rotate_left
          · have HF : Hid (RunErr R 10 ∧ J pre w2) := ⟨⟨HR.out.symm.trans (rowS_err hlt (rowStep_take h1 (by omega) (by omega) h2)), by omega⟩, hst _ _ _ hJ1 hk2⟩
            clear HR hi1 hJ1 hY hst i1 i2 i3 hk2 h1 h2
            gi_wp2
            exact ⟨rfl, .inr ⟨10, pre, rfl, HF.out.1, HF.out.2⟩⟩
          have hyl : y < 2 ^ 2 := takeS_lt hb (by omega) h2
          have hm2 := takeS_more h2
          have hi2 := hi1.turn hU hk2 hr2 hp2
          have hJ2 := hst _ _ _ hJ1 hk2
          have HSTEP : Hid (rowStep cz bs many pos (flat pre) = if many < (flat pre).length + (3 + y) then .error 12 else .ok (p2, flat pre ++ List.replicate (3 + y) (len))) := by
            show _ = _
            rw [rowStep_run h1 (by omega) (by omega) h2]
            simp only [rnBase, rnVal]; rw [hlast (by omega)]; rfl
          clear hi1 hJ1 hk2 hr2 i1 i2 i3 h1 h2
          have i1 := hi2.c1
          have i2 := hi2.c2
          have i3 := hi2.c3
          by_cases hroom : many < (flat pre).length + (3 + y)
          · have HF : Hid (RunErr R 12 ∧ J pre w2) := ⟨⟨HR.out.symm.trans (rowS_err hlt (HSTEP.out.trans (if_pos hroom))), by omega⟩, hJ2⟩
            have t9 : decide ((many : Int) - ((flat pre).length : Int) < 3 + (y : Int)) = true := decide_eq_true (by omega)
            clear HR hY hst hJ2 hi2 HSTEP
            gi_wp2
            exact ⟨rfl, .inr ⟨12, pre, rfl, HF.out.1, HF.out.2⟩⟩
          · have t9 : decide ((many : Int) - ((flat pre).length : Int) < 3 + (y : Int)) = false := decide_eq_false (by omega)
            obtain ⟨fn, tmps, assign, body, hy, hRd⟩ := hY pre (len, 3 + y) w2 hJ2 (by show _ + _ ≤ _; omega)
            have HY : Hid (rowS cz bs many f p2 (flat (pre ++ [(len, 3 + y)])) = R) := by
              show _ = _
              rw [flat_snoc, ← HR.out]
              exact (rowS_more hlt (HSTEP.out.trans (if_neg hroom))).symm
            have HL : Hid ((flat (pre ++ [(len, 3 + y)])).length = (flat pre).length + (3 + y)) := by
              show _ = _
              rw [flat_snoc, List.length_append, List.length_replicate]
            have HLA : Hid ((flat (pre ++ [(len, 3 + y)]))[(flat (pre ++ [(len, 3 + y)])).length - 1]?.getD 0 = len) := flat_last pre (len, 3 + y) (by show 1 ≤ 3 + y; omega)
            simp only at hy
            rw [show (((3 + y : Nat)) : Int) = 3 + (y : Int) by omega] at hy
            have HI : Hid (RInv U S Q bs g c b1 b2 b3 DZ many cz p2 w2) := hi2
            clear HR hY hst hJ2 hi2 HSTEP
            gi_wp2
            refine ⟨(fun h => by cases h), hRd.mono ?_⟩
            rintro e w9 ⟨rfl, hJ9, hk9⟩
            have hi9 := HI.out.kept hU hk9
            have d1 := hi9.c1
            have d2 := hi9.c2
            have d3 := hi9.c3
            have HJ : Hid (J (pre ++ [(len, 3 + y)]) w9) := hJ9
            have HP9 : Hid (posAt Q w9 = p2) := hi9.posAt
            have HI9 : Hid (RInv U S Q bs g c b1 b2 b3 DZ many cz p2 w9) := hi9
            have hp9 := hi9.hp
            clear HI hk9 hi9 hJ9 hRd hy
            gi_wp2
            exact ⟨⟨f, p2, pre ++ [(len, 3 + y)], len, rfl, by rw [HL.out]; go_num, HY.out, by omega, by rw [HL.out]; omega, fun _ => HLA.out.symm, HI9.out, HJ.out⟩, by rw [HP9.out, HP.out]; omega⟩
      · by_cases hxe : x = 17
        · subst hxe
          have HN : Hid _ := number_q 3 (by omega) w1 hb hl hi1.s0 hi1.rd (hi1.bytes.mono (fun k hk => ⟨hi1.lt k hk.1, hk.2⟩)) hi1.hp
          gi_wp2_with fail
          refine ⟨trivial, (fun h => by cases h), (callsIn_wide.2 HN.out).mono ?_⟩
          clear HN
          rintro e w2 ⟨hk2, (⟨y, p2, h2, hy2, rfl, hr2, hp2⟩ | ⟨h2, rfl⟩)⟩
          rotate_left
          · have HF : Hid (RunErr R 10 ∧ J pre w2) := ⟨⟨HR.out.symm.trans (rowS_err hlt (rowStep_take h1 (by omega) (by omega) h2)), by omega⟩, hst _ _ _ hJ1 hk2⟩
            clear HR hi1 hJ1 hY hst i1 i2 i3 hk2 h1 h2
            gi_wp2
            exact ⟨rfl, .inr ⟨10, pre, rfl, HF.out.1, HF.out.2⟩⟩
          have hyl : y < 2 ^ 3 := takeS_lt hb (by omega) h2
          have hm2 := takeS_more h2
          have hi2 := hi1.turn hU hk2 hr2 hp2
          have hJ2 := hst _ _ _ hJ1 hk2
          have HSTEP : Hid (rowStep cz bs many pos (flat pre) = if many < (flat pre).length + (3 + y) then .error 12 else .ok (p2, flat pre ++ List.replicate (3 + y) (0))) := by
            show _ = _
            rw [rowStep_run h1 (by omega) (by omega) h2]
            rfl
          clear hi1 hJ1 hk2 hr2 i1 i2 i3 h1 h2
          have i1 := hi2.c1
          have i2 := hi2.c2
          have i3 := hi2.c3
          by_cases hroom : many < (flat pre).length + (3 + y)
          · have HF : Hid (RunErr R 12 ∧ J pre w2) := ⟨⟨HR.out.symm.trans (rowS_err hlt (HSTEP.out.trans (if_pos hroom))), by omega⟩, hJ2⟩
            have t9 : decide ((many : Int) - ((flat pre).length : Int) < 3 + (y : Int)) = true := decide_eq_true (by omega)
            clear HR hY hst hJ2 hi2 HSTEP
            gi_wp2
            exact ⟨rfl, .inr ⟨12, pre, rfl, HF.out.1, HF.out.2⟩⟩
          · have t9 : decide ((many : Int) - ((flat pre).length : Int) < 3 + (y : Int)) = false := decide_eq_false (by omega)
            obtain ⟨fn, tmps, assign, body, hy, hRd⟩ := hY pre (0, 3 + y) w2 hJ2 (by show _ + _ ≤ _; omega)
            have HY : Hid (rowS cz bs many f p2 (flat (pre ++ [(0, 3 + y)])) = R) := by
              show _ = _
              rw [flat_snoc, ← HR.out]
              exact (rowS_more hlt (HSTEP.out.trans (if_neg hroom))).symm
            have HL : Hid ((flat (pre ++ [(0, 3 + y)])).length = (flat pre).length + (3 + y)) := by
              show _ = _
              rw [flat_snoc, List.length_append, List.length_replicate]
            have HLA : Hid ((flat (pre ++ [(0, 3 + y)]))[(flat (pre ++ [(0, 3 + y)])).length - 1]?.getD 0 = 0) := flat_last pre (0, 3 + y) (by show 1 ≤ 3 + y; omega)
            simp only at hy
            rw [show (((3 + y : Nat)) : Int) = 3 + (y : Int) by omega] at hy
            have HI : Hid (RInv U S Q bs g c b1 b2 b3 DZ many cz p2 w2) := hi2
            clear HR hY hst hJ2 hi2 HSTEP
            gi_wp2
            refine ⟨(fun h => by cases h), hRd.mono ?_⟩
            rintro e w9 ⟨rfl, hJ9, hk9⟩
            have hi9 := HI.out.kept hU hk9
            have d1 := hi9.c1
            have d2 := hi9.c2
            have d3 := hi9.c3
            have HJ : Hid (J (pre ++ [(0, 3 + y)]) w9) := hJ9
            have HP9 : Hid (posAt Q w9 = p2) := hi9.posAt
            have HI9 : Hid (RInv U S Q bs g c b1 b2 b3 DZ many cz p2 w9) := hi9
            have hp9 := hi9.hp
            clear HI hk9 hi9 hJ9 hRd hy
            gi_wp2
            exact ⟨⟨f, p2, pre ++ [(0, 3 + y)], 0, rfl, by rw [HL.out]; go_num, HY.out, by omega, by rw [HL.out]; omega, fun _ => HLA.out.symm, HI9.out, HJ.out⟩, by rw [HP9.out, HP.out]; omega⟩
        · have hxe : x = 18 := by omega
          subst hxe
          have HN : Hid _ := number_q 7 (by omega) w1 hb hl hi1.s0 hi1.rd (hi1.bytes.mono (fun k hk => ⟨hi1.lt k hk.1, hk.2⟩)) hi1.hp
          gi_wp2_with fail
          refine ⟨trivial, (fun h => by cases h), (callsIn_wide.2 HN.out).mono ?_⟩
          clear HN
          rintro e w2 ⟨hk2, (⟨y, p2, h2, hy2, rfl, hr2, hp2⟩ | ⟨h2, rfl⟩)⟩
          rotate_left
          · have HF : Hid (RunErr R 10 ∧ J pre w2) := ⟨⟨HR.out.symm.trans (rowS_err hlt (rowStep_take h1 (by omega) (by omega) h2)), by omega⟩, hst _ _ _ hJ1 hk2⟩
            clear HR hi1 hJ1 hY hst i1 i2 i3 hk2 h1 h2
            gi_wp2
            exact ⟨rfl, .inr ⟨10, pre, rfl, HF.out.1, HF.out.2⟩⟩
          have hyl : y < 2 ^ 7 := takeS_lt hb (by omega) h2
          have hm2 := takeS_more h2
          have hi2 := hi1.turn hU hk2 hr2 hp2
          have hJ2 := hst _ _ _ hJ1 hk2
          have HSTEP : Hid (rowStep cz bs many pos (flat pre) = if many < (flat pre).length + (11 + y) then .error 12 else .ok (p2, flat pre ++ List.replicate (11 + y) (0))) := by
            show _ = _
            rw [rowStep_run h1 (by omega) (by omega) h2]
            rfl
          clear hi1 hJ1 hk2 hr2 i1 i2 i3 h1 h2
          have i1 := hi2.c1
          have i2 := hi2.c2
          have i3 := hi2.c3
          by_cases hroom : many < (flat pre).length + (11 + y)
          · have HF : Hid (RunErr R 12 ∧ J pre w2) := ⟨⟨HR.out.symm.trans (rowS_err hlt (HSTEP.out.trans (if_pos hroom))), by omega⟩, hJ2⟩
            have t9 : decide ((many : Int) - ((flat pre).length : Int) < 11 + (y : Int)) = true := decide_eq_true (by omega)
            clear HR hY hst hJ2 hi2 HSTEP
            gi_wp2
            exact ⟨rfl, .inr ⟨12, pre, rfl, HF.out.1, HF.out.2⟩⟩
          · have t9 : decide ((many : Int) - ((flat pre).length : Int) < 11 + (y : Int)) = false := decide_eq_false (by omega)
            obtain ⟨fn, tmps, assign, body, hy, hRd⟩ := hY pre (0, 11 + y) w2 hJ2 (by show _ + _ ≤ _; omega)
            have HY : Hid (rowS cz bs many f p2 (flat (pre ++ [(0, 11 + y)])) = R) := by
              show _ = _
              rw [flat_snoc, ← HR.out]
              exact (rowS_more hlt (HSTEP.out.trans (if_neg hroom))).symm
            have HL : Hid ((flat (pre ++ [(0, 11 + y)])).length = (flat pre).length + (11 + y)) := by
              show _ = _
              rw [flat_snoc, List.length_append, List.length_replicate]
            have HLA : Hid ((flat (pre ++ [(0, 11 + y)]))[(flat (pre ++ [(0, 11 + y)])).length - 1]?.getD 0 = 0) := flat_last pre (0, 11 + y) (by show 1 ≤ 11 + y; omega)
            simp only at hy
            rw [show (((11 + y : Nat)) : Int) = 11 + (y : Int) by omega] at hy
            have HI : Hid (RInv U S Q bs g c b1 b2 b3 DZ many cz p2 w2) := hi2
            clear HR hY hst hJ2 hi2 HSTEP
            gi_wp2
            refine ⟨(fun h => by cases h), hRd.mono ?_⟩
            rintro e w9 ⟨rfl, hJ9, hk9⟩
            have hi9 := HI.out.kept hU hk9
            have d1 := hi9.c1
            have d2 := hi9.c2
            have d3 := hi9.c3
            have HJ : Hid (J (pre ++ [(0, 11 + y)]) w9) := hJ9
            have HP9 : Hid (posAt Q w9 = p2) := hi9.posAt
            have HI9 : Hid (RInv U S Q bs g c b1 b2 b3 DZ many cz p2 w9) := hi9
            have hp9 := hi9.hp
            clear HI hk9 hi9 hJ9 hRd hy
            gi_wp2
            exact ⟨⟨f, p2, pre ++ [(0, 11 + y)], 0, rfl, by rw [HL.out]; go_num, HY.out, by omega, by rw [HL.out]; omega, fun _ => HLA.out.symm, HI9.out, HJ.out⟩, by rw [HP9.out, HP.out]; omega⟩

theorem runs_seq (n : Nat) (U : Nat → Prop) (S Q : Nat) (bs : List Int) (g : Option Addr) (c b1 b2 b3 DZ many pos0 : Nat) (cz : List Int) (hU : RSet U S Q b1 b2 b3) (hb : AreBytes bs) (hl : bs.length ≤ 140737488351232) (hmany : many ≤ 1000) (hcl : cz.length = 19)
    (R : Except Int (Nat × List Int)) (HR : Hid (rowS cz bs many (8 * bs.length + 1) pos0 [] = R)) (w : World) (hUl : ∀ k, U k → k < w.heap.size) (hinv : RInv U S Q bs g c b1 b2 b3 DZ many cz pos0 w) :
    SeqP Fence.wide n Tryd.prog 73 #[.pointer (some ⟨b1, 0, none⟩), .pointer (some ⟨b2, 0, none⟩), .pointer (some ⟨b3, 0, none⟩)] (fun x : Int × Nat => #[Value.int .i64 x.1, Value.int .i64 (x.2 : Int)]) Q U (RunR many) (RunDone U S Q bs g c b1 b2 b3 DZ many cz R) (RunErr R) w :=
  fun l J W hW hst hY h0 => runs1_in n l U S Q bs g c b1 b2 b3 DZ many pos0 cz hU hb hl hmany hcl R HR J hst hY W h0 (hinv.kept hU (Kept.of_below hW hUl))
end Go.Proofs.YtiheajlgaehfmaaDoor
