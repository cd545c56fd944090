/- The document's Row, walked: what symbols and extra numbers tell. -/
import Derived.Test.YtijfjbpmlcmnmaaDoorRtp
import Derived.Test.YtijfjbpmlcmnmaaDoorRep
namespace Go.Proofs.YtijfjbpmlcmnmaaDoor
open Go.RowKit

set_option maxRecDepth 100000 in
set_option maxHeartbeats 4000000 in
theorem refRow_any (S : Nat → Prop) (a1 a2 : Option Addr) (c1 c2 : Nat) (ps : List (Int × Int)) (row : List Int) (w : World) (hS : ∀ k, S k → k < w.heap.size) (hI1 : IntsIn S w (.slice a1 ps.length c1) (ps.map (·.1))) (hI2 : IntsIn S w (.slice a2 ps.length c2) (ps.map (·.2)))
    (hrow : rowT ps [] = some row) (hlen : row.length ≤ 17592186043904) :
    Calls Tryd.prog 15 #[.slice a1 ps.length c1, .slice a2 ps.length c2] w fun e w' => Below w.heap.size w w' ∧ ∃ v, e = .returned (.tuple #[v, .bool true]) ∧ OwnInts w.heap.size w' v row := by
  obtain ⟨i0, hi, hz0, hz1, hz2⟩ := info_parts Tryd.info3'
  have hpl := rowT_more hrow
  simp only [List.length_nil, Nat.zero_add] at hpl
  have HR0 : Hid (rowT ps [] = some row) := hrow
  clear hrow
  go_enter Tryd.func15, Tryd.ntmps15
  go_wp2
  go_loopw [6, 7] (fun v6 v7 wr => ∃ (i : Nat) (l : List Int), v7 = .int .i64 (i : Int) ∧ i ≤ ps.length ∧ OwnInts w.heap.size wr v6 l ∧ Below w.heap.size w wr ∧ Hid (rowT (ps.drop i) l = some row)) (fun _ v7 _ => ps.length - (intOf v7).toNat)
  case atStart => exact ⟨0, [], rfl, by omega, OwnInts.nil _ _, Below.refl _ _, HR0⟩
  case round =>
    obtain ⟨i, l, rfl, hile, hO, hB, HRi⟩ := hrel
    by_cases hlt : i < ps.length
    rotate_left
    · obtain rfl : i = ps.length := by omega
      obtain ⟨⟨g, c, rfl⟩, hown⟩ := hO
      have HF : Hid (Below w.heap.size w wr ∧ OwnInts w.heap.size wr (.slice g l.length c) row) := by
        refine ⟨hB, ?_⟩
        have h := HRi.out
        rw [List.drop_length] at h
        obtain rfl := Option.some.inj h
        exact ⟨⟨g, c, rfl⟩, hown⟩
      clear HRi hown hB hI1 hI2
      go_wp2
      exact bodyPost_ret (v := .tuple #[.slice g l.length c, .bool true]) (by simp [results, Tryd.f15, go_sem]) rfl ⟨HF.out.1, _, rfl, HF.out.2⟩
    have HL : Hid (i < ps.length) := hlt
    obtain ⟨b1, o1, rfl, hS1, q1⟩ := (hI1.kept (Kept.of_below hB (fun k hk => hS k hk))).at i (by simpa using hlt)
    obtain ⟨b2, o2, rfl, hS2, q2⟩ := (hI2.kept (Kept.of_below hB (fun k hk => hS k hk))).at i (by simpa using hlt)
    simp only [List.getElem?_map, List.getElem?_eq_getElem hlt, Option.map_some, Option.getD_some] at q1 q2
    have hst := (rowT_step (List.getElem?_eq_getElem hlt) l).symm.trans HRi.out
    generalize ps[i] = p at hst q1 q2
    obtain ⟨s, x⟩ := p
    simp only at q1 q2
    cases hs : stepT l (s, x) with
    | none => rw [hs] at hst; cases hst
    | some l' =>
    rw [hs] at hst
    simp only at hst
    have hm := rowT_more hst
    clear HRi HR0
    obtain ⟨⟨g, c, rfl⟩, hown⟩ := hO
    have hO : OwnInts w.heap.size wr (.slice g l.length c) l := ⟨⟨g, c, rfl⟩, hown⟩
    clear hown
    rcases stepT_cases hs with ⟨s0, s1, s2, rfl⟩ | ⟨s1, x0, x1, hl1, rfl⟩ | ⟨s1, x0, x1, rfl⟩ | ⟨s1, x0, x1, rfl⟩
    · simp only at s0 s1 s2
      subst s2
      have HN : Hid (rowT (ps.drop (i + 1)) (l ++ List.replicate (1) (s)) = some row) := hst
      have HSZ : Hid (l.length + (1) ≤ 17592186043904) := by show _ ≤ _; simp only [List.length_append, List.length_replicate] at hm; omega
      clear hst hs hm
      have e1 : (s == 16) = false := by rw [beq_eq_false_iff_ne]; omega
      have e2 : (s == 17) = false := by rw [beq_eq_false_iff_ne]; omega
      have e3 : (s == 18) = false := by rw [beq_eq_false_iff_ne]; omega
      have e4 : ¬ (s < 0) := by omega
      have e5 : ¬ (18 < s) := by omega
      go_wp2
      go_quiet (fail)
      generalize hq : wr.drewN _ = w1
      have hO : OwnInts w.heap.size w1 (.slice g l.length c) l := by subst hq; exact hO
      have hB : Below w.heap.size w w1 := by subst hq; exact below_drewN hB _
      go_wp2
      go_loopw [6, 12] (fun v6 v12 wq => ∃ k : Nat, v12 = .int .i64 (k : Int) ∧ k ≤ 1 ∧ OwnInts w.heap.size wq v6 (l ++ List.replicate k (s)) ∧ Below w.heap.size w wq) (fun _ v12 _ => 1 - (intOf v12).toNat)
      case atStart => exact ⟨0, rfl, by omega, by simpa using hO, hB⟩
      case round =>
        obtain ⟨k, rfl, hkn, ⟨⟨gq, cq, rfl⟩, hoq⟩, hBq⟩ := hrel
        have HLQ : Hid ((l ++ List.replicate k (s)).length = l.length + k) := by show _ = _; simp
        have HNX : Hid (l ++ List.replicate (k + 1) (s) = (l ++ List.replicate k (s)) ++ [s]) := by show _ = _; rw [List.replicate_succ', List.append_assoc]
        by_cases hkl : k < 1
        · have t9 : (k : Int) < 1 := by omega
          have HKL : Hid (k < 1) := hkl
          have HLN : Hid (l.length + k + 1 ≤ 17592186043904) := by show _ ≤ _; have := HSZ.out; omega
          generalize l ++ List.replicate k (s) = oq at *
          go_wp2_with (at_builtin; refine wpList_append_own2 _ rfl (.tmp 103) (.tmp 105) 40 rfl w.heap.size 3 i0 (.int .i64 0) 1 8 Tryd.underlying40 hi hz0 hz1 hz2 rfl (by decide) _ _ _ rfl (OwnInts.alloc (zs := oq) (B := w.heap.size) ⟨⟨_, _, rfl⟩, hoq⟩ _).2 ⟨wr.heap.size, 0, none⟩ 1 1 [.int .i64 (s)] rfl rfl (cell_one_new _ _ _) (by simp [Value.oneCell']) (by have := HLN.out; have := HLQ.out; unfold maxLen; omega) (by have := HLN.out; have := HLQ.out; omega) (by have := hBq.size; simp; omega) ?_)
          intro v' w4 hown' hgrow hblk
          have HP := OwnInts.push (W0 := w) (OwnInts.alloc (zs := oq) (B := w.heap.size) ⟨⟨_, _, rfl⟩, hoq⟩ (.cells #[.int .i64 (s)] 3)) (hBq.alloc hBq.size _) hown' hgrow (by have := hBq.size; simp; omega)
          obtain ⟨⟨⟨g', c', rfl⟩, ho4⟩, hB4⟩ := HP
          clear hoq hown' hgrow hblk hBq
          go_wp2
          exact ⟨⟨k + 1, by go_num, by have := HKL.out; omega, by rw [HNX.out]; exact ⟨⟨g', c', rfl⟩, ho4⟩, hB4⟩, by have := HKL.out; simp [intOf]; omega⟩
        · have t9 : ¬ ((k : Int) < 1) := by omega
          obtain rfl : k = 1 := by omega
          go_wp2
          exact ⟨⟨i + 1, _, by go_num, by have := HL.out; omega, ⟨⟨gq, cq, rfl⟩, hoq⟩, hBq, HN.out⟩, by have := HL.out; simp [intOf]; omega⟩
    · simp only at s1 x0 x1
      subst s1
      obtain ⟨xn, rfl⟩ : ∃ xn : Nat, x = (xn : Int) := ⟨x.toNat, by omega⟩
      rw [show (3 + (xn : Int)).toNat = 3 + xn by omega] at hst hm
      have HSZ : Hid (l.length + (3 + xn) ≤ 17592186043904) := by show _ ≤ _; simp only [List.length_append, List.length_replicate] at hm; omega
      have e0 : ((l.length : Int) == 0) = false := by rw [beq_eq_false_iff_ne]; omega
      have hcc : (l.length : Int) - 1 = ((l.length - 1 : Nat) : Int) := by omega
      have hll : l.length ≤ 17592186043904 := by have := HSZ.out; omega
      have hw64 : wrap64 ((l.length - 1 : Nat) : Int) = ((l.length - 1 : Nat) : Int) := by unfold wrap64; omega
      obtain ⟨gb, rfl, qc⟩ := hO.cell (l.length - 1) (by omega)
      generalize l[l.length - 1]?.getD 0 = vv at hst qc
      have HN : Hid (rowT (ps.drop (i + 1)) (l ++ List.replicate (3 + xn) (vv)) = some row) := hst
      clear hst hs hm
      have hwx : IntKind.i64.wrap (3 + (xn : Int)) = 3 + (xn : Int) := by simp [IntKind.wrap, IntKind.bits, IntKind.signed]; omega
      go_wp2
      go_quiet (fail)
      generalize hq : wr.drewN _ = w1
      have hO : OwnInts w.heap.size w1 (.slice (some ⟨gb, 0, none⟩) l.length c) l := by subst hq; exact hO
      have hB : Below w.heap.size w w1 := by subst hq; exact below_drewN hB _
      have qc : w1.cell? ⟨gb, l.length - 1, none⟩ = some (.int .i64 vv) := by subst hq; exact qc
      go_wp2
      go_loopw [6, 12] (fun v6 v12 wq => ∃ k : Nat, v12 = .int .i64 (k : Int) ∧ k ≤ 3 + xn ∧ OwnInts w.heap.size wq v6 (l ++ List.replicate k (vv)) ∧ Below w.heap.size w wq) (fun _ v12 _ => 3 + xn - (intOf v12).toNat)
      case atStart => exact ⟨0, rfl, by omega, by simpa using hO, hB⟩
      case round =>
        obtain ⟨k, rfl, hkn, ⟨⟨gq, cq, rfl⟩, hoq⟩, hBq⟩ := hrel
        have HLQ : Hid ((l ++ List.replicate k (vv)).length = l.length + k) := by show _ = _; simp
        have HNX : Hid (l ++ List.replicate (k + 1) (vv) = (l ++ List.replicate k (vv)) ++ [vv]) := by show _ = _; rw [List.replicate_succ', List.append_assoc]
        by_cases hkl : k < 3 + xn
        · have t9 : (k : Int) < 3 + (xn : Int) := by omega
          have HKL : Hid (k < 3 + xn) := hkl
          have HLN : Hid (l.length + k + 1 ≤ 17592186043904) := by show _ ≤ _; have := HSZ.out; omega
          generalize l ++ List.replicate k (vv) = oq at *
          go_wp2_with (at_builtin; refine wpList_append_own2 _ rfl (.tmp 103) (.tmp 105) 40 rfl w.heap.size 3 i0 (.int .i64 0) 1 8 Tryd.underlying40 hi hz0 hz1 hz2 rfl (by decide) _ _ _ rfl (OwnInts.alloc (zs := oq) (B := w.heap.size) ⟨⟨_, _, rfl⟩, hoq⟩ _).2 ⟨wr.heap.size, 0, none⟩ 1 1 [.int .i64 (vv)] rfl rfl (cell_one_new _ _ _) (by simp [Value.oneCell']) (by have := HLN.out; have := HLQ.out; unfold maxLen; omega) (by have := HLN.out; have := HLQ.out; omega) (by have := hBq.size; simp; omega) ?_)
          intro v' w4 hown' hgrow hblk
          have HP := OwnInts.push (W0 := w) (OwnInts.alloc (zs := oq) (B := w.heap.size) ⟨⟨_, _, rfl⟩, hoq⟩ (.cells #[.int .i64 (vv)] 3)) (hBq.alloc hBq.size _) hown' hgrow (by have := hBq.size; simp; omega)
          obtain ⟨⟨⟨g', c', rfl⟩, ho4⟩, hB4⟩ := HP
          clear hoq hown' hgrow hblk hBq
          go_wp2
          exact ⟨⟨k + 1, by go_num, by have := HKL.out; omega, by rw [HNX.out]; exact ⟨⟨g', c', rfl⟩, ho4⟩, hB4⟩, by have := HKL.out; simp [intOf]; omega⟩
        · have t9 : ¬ ((k : Int) < 3 + (xn : Int)) := by omega
          obtain rfl : k = 3 + xn := by omega
          go_wp2
          exact ⟨⟨i + 1, _, by go_num, by have := HL.out; omega, ⟨⟨gq, cq, rfl⟩, hoq⟩, hBq, HN.out⟩, by have := HL.out; simp [intOf]; omega⟩
    · simp only at s1 x0 x1
      subst s1
      obtain ⟨xn, rfl⟩ : ∃ xn : Nat, x = (xn : Int) := ⟨x.toNat, by omega⟩
      rw [show (3 + (xn : Int)).toNat = 3 + xn by omega] at hst hm
      have HSZ : Hid (l.length + (3 + xn) ≤ 17592186043904) := by show _ ≤ _; simp only [List.length_append, List.length_replicate] at hm; omega
      have HN : Hid (rowT (ps.drop (i + 1)) (l ++ List.replicate (3 + xn) (0)) = some row) := hst
      clear hst hs hm
      have hwx : IntKind.i64.wrap (3 + (xn : Int)) = 3 + (xn : Int) := by simp [IntKind.wrap, IntKind.bits, IntKind.signed]; omega
      go_wp2
      go_quiet (fail)
      generalize hq : wr.drewN _ = w1
      have hO : OwnInts w.heap.size w1 (.slice g l.length c) l := by subst hq; exact hO
      have hB : Below w.heap.size w w1 := by subst hq; exact below_drewN hB _
      go_wp2
      go_loopw [6, 12] (fun v6 v12 wq => ∃ k : Nat, v12 = .int .i64 (k : Int) ∧ k ≤ 3 + xn ∧ OwnInts w.heap.size wq v6 (l ++ List.replicate k (0)) ∧ Below w.heap.size w wq) (fun _ v12 _ => 3 + xn - (intOf v12).toNat)
      case atStart => exact ⟨0, rfl, by omega, by simpa using hO, hB⟩
      case round =>
        obtain ⟨k, rfl, hkn, ⟨⟨gq, cq, rfl⟩, hoq⟩, hBq⟩ := hrel
        have HLQ : Hid ((l ++ List.replicate k (0)).length = l.length + k) := by show _ = _; simp
        have HNX : Hid (l ++ List.replicate (k + 1) (0) = (l ++ List.replicate k (0)) ++ [0]) := by show _ = _; rw [List.replicate_succ', List.append_assoc]
        by_cases hkl : k < 3 + xn
        · have t9 : (k : Int) < 3 + (xn : Int) := by omega
          have HKL : Hid (k < 3 + xn) := hkl
          have HLN : Hid (l.length + k + 1 ≤ 17592186043904) := by show _ ≤ _; have := HSZ.out; omega
          generalize l ++ List.replicate k (0) = oq at *
          go_wp2_with (at_builtin; refine wpList_append_own2 _ rfl (.tmp 103) (.tmp 105) 40 rfl w.heap.size 3 i0 (.int .i64 0) 1 8 Tryd.underlying40 hi hz0 hz1 hz2 rfl (by decide) _ _ _ rfl (OwnInts.alloc (zs := oq) (B := w.heap.size) ⟨⟨_, _, rfl⟩, hoq⟩ _).2 ⟨wr.heap.size, 0, none⟩ 1 1 [.int .i64 (0)] rfl rfl (cell_one_new _ _ _) (by simp [Value.oneCell']) (by have := HLN.out; have := HLQ.out; unfold maxLen; omega) (by have := HLN.out; have := HLQ.out; omega) (by have := hBq.size; simp; omega) ?_)
          intro v' w4 hown' hgrow hblk
          have HP := OwnInts.push (W0 := w) (OwnInts.alloc (zs := oq) (B := w.heap.size) ⟨⟨_, _, rfl⟩, hoq⟩ (.cells #[.int .i64 (0)] 3)) (hBq.alloc hBq.size _) hown' hgrow (by have := hBq.size; simp; omega)
          obtain ⟨⟨⟨g', c', rfl⟩, ho4⟩, hB4⟩ := HP
          clear hoq hown' hgrow hblk hBq
          go_wp2
          exact ⟨⟨k + 1, by go_num, by have := HKL.out; omega, by rw [HNX.out]; exact ⟨⟨g', c', rfl⟩, ho4⟩, hB4⟩, by have := HKL.out; simp [intOf]; omega⟩
        · have t9 : ¬ ((k : Int) < 3 + (xn : Int)) := by omega
          obtain rfl : k = 3 + xn := by omega
          go_wp2
          exact ⟨⟨i + 1, _, by go_num, by have := HL.out; omega, ⟨⟨gq, cq, rfl⟩, hoq⟩, hBq, HN.out⟩, by have := HL.out; simp [intOf]; omega⟩
    · simp only at s1 x0 x1
      subst s1
      obtain ⟨xn, rfl⟩ : ∃ xn : Nat, x = (xn : Int) := ⟨x.toNat, by omega⟩
      rw [show (11 + (xn : Int)).toNat = 11 + xn by omega] at hst hm
      have HSZ : Hid (l.length + (11 + xn) ≤ 17592186043904) := by show _ ≤ _; simp only [List.length_append, List.length_replicate] at hm; omega
      have HN : Hid (rowT (ps.drop (i + 1)) (l ++ List.replicate (11 + xn) (0)) = some row) := hst
      clear hst hs hm
      have hwx : IntKind.i64.wrap (11 + (xn : Int)) = 11 + (xn : Int) := by simp [IntKind.wrap, IntKind.bits, IntKind.signed]; omega
      go_wp2
      go_quiet (fail)
      generalize hq : wr.drewN _ = w1
      have hO : OwnInts w.heap.size w1 (.slice g l.length c) l := by subst hq; exact hO
      have hB : Below w.heap.size w w1 := by subst hq; exact below_drewN hB _
      go_wp2
      go_loopw [6, 12] (fun v6 v12 wq => ∃ k : Nat, v12 = .int .i64 (k : Int) ∧ k ≤ 11 + xn ∧ OwnInts w.heap.size wq v6 (l ++ List.replicate k (0)) ∧ Below w.heap.size w wq) (fun _ v12 _ => 11 + xn - (intOf v12).toNat)
      case atStart => exact ⟨0, rfl, by omega, by simpa using hO, hB⟩
      case round =>
        obtain ⟨k, rfl, hkn, ⟨⟨gq, cq, rfl⟩, hoq⟩, hBq⟩ := hrel
        have HLQ : Hid ((l ++ List.replicate k (0)).length = l.length + k) := by show _ = _; simp
        have HNX : Hid (l ++ List.replicate (k + 1) (0) = (l ++ List.replicate k (0)) ++ [0]) := by show _ = _; rw [List.replicate_succ', List.append_assoc]
        by_cases hkl : k < 11 + xn
        · have t9 : (k : Int) < 11 + (xn : Int) := by omega
          have HKL : Hid (k < 11 + xn) := hkl
          have HLN : Hid (l.length + k + 1 ≤ 17592186043904) := by show _ ≤ _; have := HSZ.out; omega
          generalize l ++ List.replicate k (0) = oq at *
          go_wp2_with (at_builtin; refine wpList_append_own2 _ rfl (.tmp 103) (.tmp 105) 40 rfl w.heap.size 3 i0 (.int .i64 0) 1 8 Tryd.underlying40 hi hz0 hz1 hz2 rfl (by decide) _ _ _ rfl (OwnInts.alloc (zs := oq) (B := w.heap.size) ⟨⟨_, _, rfl⟩, hoq⟩ _).2 ⟨wr.heap.size, 0, none⟩ 1 1 [.int .i64 (0)] rfl rfl (cell_one_new _ _ _) (by simp [Value.oneCell']) (by have := HLN.out; have := HLQ.out; unfold maxLen; omega) (by have := HLN.out; have := HLQ.out; omega) (by have := hBq.size; simp; omega) ?_)
          intro v' w4 hown' hgrow hblk
          have HP := OwnInts.push (W0 := w) (OwnInts.alloc (zs := oq) (B := w.heap.size) ⟨⟨_, _, rfl⟩, hoq⟩ (.cells #[.int .i64 (0)] 3)) (hBq.alloc hBq.size _) hown' hgrow (by have := hBq.size; simp; omega)
          obtain ⟨⟨⟨g', c', rfl⟩, ho4⟩, hB4⟩ := HP
          clear hoq hown' hgrow hblk hBq
          go_wp2
          exact ⟨⟨k + 1, by go_num, by have := HKL.out; omega, by rw [HNX.out]; exact ⟨⟨g', c', rfl⟩, ho4⟩, hB4⟩, by have := HKL.out; simp [intOf]; omega⟩
        · have t9 : ¬ ((k : Int) < 11 + (xn : Int)) := by omega
          obtain rfl : k = 11 + xn := by omega
          go_wp2
          exact ⟨⟨i + 1, _, by go_num, by have := HL.out; omega, ⟨⟨gq, cq, rfl⟩, hoq⟩, hBq, HN.out⟩, by have := HL.out; simp [intOf]; omega⟩
end Go.Proofs.YtijfjbpmlcmnmaaDoor
