import Derived.Test.YtdmddclfjjfcgaaDoorPdt
import Derived.Test.YtdmddclfjjfcgaaDoorWal
import Derived.Laws.StructEq
/- DecBack: its walk. -/
namespace Go.Proofs.YtdmddclfjjfcgaaDoor
open Go.RowKit

set_option maxRecDepth 100000 in
set_option maxHeartbeats 1000000 in
theorem back_bad (c e : Int) (hc : I64 c) (he : I64 e) (hw : ¬ within e) (w : World) : Calls Tryd.prog 7 #[.agg #[.int .i64 c, .int .i64 e]] w fun r w' => r = .returned (.bool true) ∧ Below w.heap.size w w' := by
  have HP : ∀ W, Hid (Calls Tryd.prog 26 #[.agg #[.int .i64 c, .int .i64 e]] W fun r w' => r = .returned (.string ⟨#[63]⟩) ∧ Below W.heap.size W w') := fun W => print_bad c e hw W
  obtain ⟨a, b, v, hv⟩ : ∃ a b v, decV (tell c e) = .tuple #[.agg #[.int .i64 a, .int .i64 b], .int .i64 v] := by
    cases h : tell c e with
    | none => exact ⟨_, _, _, rfl⟩
    | some p => exact ⟨_, _, _, rfl⟩
  have HM : ∀ W, Hid (Calls Tryd.prog 29 #[.int .i64 c, .int .i64 e] W fun r w' => r = .returned (.tuple #[.agg #[.int .i64 a, .int .i64 b], .int .i64 v]) ∧ Below W.heap.size W w') := fun W => by
    have h := make_any c e hc he W
    rw [hv] at h
    exact h
  have HA : ∀ W, Hid (Calls Tryd.prog 17 #[] W fun r w' => r = .returned (.bool true) ∧ Below W.heap.size W w') := fun W => alive_any W
  clear hv
  have hcase : decide (e < -18) = true ∨ (decide (e < -18) = false ∧ decide (18 < e) = true) := by
    by_cases h : e < -18
    · exact .inl (decide_eq_true h)
    · exact .inr ⟨decide_eq_false h, decide_eq_true (by unfold within at hw; omega)⟩
  clear hw hc he
  rcases hcase with h1 | ⟨h1, h2⟩
  all_goals
    go_enter Tryd.func7, Tryd.ntmps7
    go_wp2_with fail
    refine Calls.mono (HP _).out ?_
    rintro _ w1 ⟨rfl, b1⟩
    obtain ⟨r1, B1⟩ := one_row w w1 _ _ b1
    obtain ⟨d0, d1⟩ := r1.duo
    clear b1
    go_wp2_with fail
    refine Calls.mono (HM _).out ?_
    rintro _ w2 ⟨rfl, b2⟩
    have r2 := r1.below b2 r1.lt
    have B2 := B1.trans (b2.mono B1.size)
    clear b2 r1 B1 d0 d1
    have hlt := r2.lt
    obtain ⟨d0, d1⟩ := r2.duo
    have B4 := B2.alloc B2.size (.cells #[.int .i64 a, .int .i64 b] 23)
    go_wp2_with fail
    refine Calls.mono (HA _).out ?_
    rintro _ w3 ⟨rfl, b3⟩
    have B5 := B4.trans (b3.mono B4.size)
    clear b3 B4 HA HM HP
    go_wp2
    go_ret
    exact ⟨rfl, B5⟩
set_option maxRecDepth 100000 in
set_option maxHeartbeats 2000000 in
theorem back_ok (c e : Int) (hc : I64 c) (hw : within e) (w : World) (htab : PTab w) : Calls Tryd.prog 7 #[.agg #[.int .i64 c, .int .i64 e]] w fun r w' => r = .returned (.bool true) ∧ Below w.heap.size w w' := by
  obtain ⟨hp1, hp2, hp3, hp4⟩ := parse_txt c e hc hw
  have HP : ∀ W, PTab W → Hid (Calls Tryd.prog 26 #[.agg #[.int .i64 c, .int .i64 e]] W fun r w' => r = .returned (.string (bs (txtL (decW c e)))) ∧ Below W.heap.size W w') := fun W h => by
    have h := print_any c e hc hw W h
    rw [print_txt c e hc hw] at h
    exact h
  obtain ⟨a, b, hv⟩ : ∃ a b, decV (tell c e) = .tuple #[.agg #[.int .i64 a, .int .i64 b], .int .i64 0] := by
    obtain ⟨C, E, h⟩ := tell_of_dec c e hw.1 hw.2 hc.1 hc.2
    rw [h]
    exact ⟨C, E, rfl⟩
  have HM : ∀ W, Hid (Calls Tryd.prog 29 #[.int .i64 c, .int .i64 e] W fun r w' => r = .returned (.tuple #[.agg #[.int .i64 a, .int .i64 b], .int .i64 0]) ∧ Below W.heap.size W w') := fun W => by
    have h := make_any c e hc ⟨by have := hw.1; omega, by have := hw.2; omega⟩ W
    rw [hv] at h
    exact h
  have HPA : ∀ W, Hid (Calls Tryd.prog 24 #[.string (bs (txtL (decW c e)))] W fun r w' => r = .returned (.tuple #[.agg #[.int .i64 a, .int .i64 b], .int .i64 0]) ∧ Below W.heap.size W w') := fun W => by
    have h := dparse_any (txtL (decW c e)) (by omega) W
    rw [hp1, hv] at h
    exact h
  have HA : ∀ W, Hid (Calls Tryd.prog 17 #[] W fun r w' => r = .returned (.bool true) ∧ Below W.heap.size W w') := fun W => alive_any W
  have HB : Hid (∀ b ∈ txtL (decW c e), b = 45 ∨ b = 46 ∨ (48 ≤ b.toNat ∧ b.toNat ≤ 57)) := hp4
  generalize txtL (decW c e) = l at *
  have s1 : (1 : Int) ≤ ((bs l).size : Int) := by rw [bs_size]; omega
  have s2 : ((bs l).size : Int) ≤ 40 := by rw [bs_size]; omega
  have s3 : decide ((40 : Int) < ((bs l).size : Int)) = false := decide_eq_false (by omega)
  have s4 : (((bs l).size : Int) == 0) = false := by simp only [beq_eq_false_iff_ne]; omega
  have h1 : decide (e < -18) = false := decide_eq_false (by have := hw.1; omega)
  have h2 : decide (18 < e) = false := decide_eq_false (by have := hw.2; omega)
  clear hw hc hp1 hp2 hp3 hp4 hv
  have htab0 : PTab (w.alloc (.cells #[.int .i64 c, .int .i64 e] 23)) := Lib.tabIs_alloc htab _
  go_enter Tryd.func7, Tryd.ntmps7
  go_wp2_with fail
  refine Calls.mono (HP _ htab0).out ?_
  rintro _ w1 ⟨rfl, b1⟩
  obtain ⟨r1, B1⟩ := one_row w w1 _ _ b1
  obtain ⟨d0, d1⟩ := r1.duo
  clear b1 HP htab0 htab
  go_wp2_with fail
  refine Calls.mono (HM _).out ?_
  rintro _ w2 ⟨rfl, b2⟩
  have r2 := r1.below b2 r1.lt
  have B2 := B1.trans (b2.mono B1.size)
  clear b2 r1 B1 d0 d1 HM
  have hlt := r2.lt
  have hlt2 := B2.size
  obtain ⟨d0, d1⟩ := r2.duo
  have B4 := B2.alloc B2.size (.cells #[.int .i64 a, .int .i64 b] 23)
  have q2 := r2.alloc (.cells #[.int .i64 a, .int .i64 b] 23)
  have q4 := Row.new w2 23 #[.int .i64 a, .int .i64 b]
  go_wp2_with fail
  refine Calls.mono (HPA _).out ?_
  rintro _ w3 ⟨rfl, b3⟩
  have g2 := q2.below b3 q2.lt
  have g4 := q4.below b3 q4.lt
  have B5 := B4.trans (b3.mono B4.size)
  have hz3 : w2.heap.size < w3.heap.size := g4.lt
  clear b3 B4 q2 q4 d0 d1 HPA r2 hlt
  obtain ⟨d0, d1⟩ := g2.duo
  obtain ⟨x0, x1⟩ := g4.duo
  have B6 := B5.alloc B5.size (.cells #[.int .i64 a, .int .i64 b] 23)
  go_wp2_with fail
  refine Calls.mono (HA _).out ?_
  rintro _ w4 ⟨rfl, b4⟩
  have B7 := B6.trans (b4.mono B6.size)
  clear b4 B6 B5 g2 g4 d0 d1 x0 x1 HA
  go_wp2
  go_loopw [8] (fun v wr => ∃ k : Nat, k ≤ (bs l).size ∧ v = .int .i64 (k : Int) ∧ Hid (Below w.heap.size w wr)) (fun v _ => (bs l).size - (intOf v).toNat)
  case atStart => exact ⟨0, Nat.zero_le _, rfl, B7⟩
  case round =>
    obtain ⟨k, hk, rfl, HBk⟩ := hrel
    clear B7
    by_cases hlt : k < (bs l).size
    · have HK : Hid (k < (bs l).size) := hlt
      have hmem : (bs l)[k] ∈ l := List.getElem_mem (l := l) (by rw [bs_size] at hlt; exact hlt)
      have h3 := HB.out _ hmem
      clear hmem
      have hlt := hlt
      obtain ⟨c, hc⟩ : ∃ c : Nat, ((bs l)[k]'hlt).toNat = c := ⟨_, rfl⟩
      have hkz : (k : Int) < ((bs l).size : Int) := by omega
      have hcs : c = 45 ∨ c = 46 ∨ (48 ≤ c ∧ c ≤ 57) := by
        rcases h3 with h | h | h
        · left; rw [← hc]; exact congrArg UInt8.toNat h
        · right; left; rw [← hc]; exact congrArg UInt8.toNat h
        · right; right; rw [← hc]; exact h
      clear h3
      rcases hcs with rfl | rfl | ⟨e1, e2⟩
      · go_wp2
        go_roundw
        case rel => exact ⟨k + 1, HK.out, by go_num, HBk⟩
        case measure => have := HK.out; simp [intOf]; omega
      · go_wp2
        go_roundw
        case rel => exact ⟨k + 1, HK.out, by go_num, HBk⟩
        case measure => have := HK.out; simp [intOf]; omega
      · have g1 : ((c : Int) != 45) = true := by simp; omega
        have g2 : ((c : Int) != 46) = true := by simp; omega
        have g3 : decide ((c : Int) < 48) = false := decide_eq_false (by omega)
        have g4 : decide ((57 : Int) < (c : Int)) = false := decide_eq_false (by omega)
        go_wp2
        go_roundw
        case rel => exact ⟨k + 1, HK.out, by go_num, HBk⟩
        case measure => have := HK.out; simp [intOf]; omega
    · obtain rfl : k = (bs l).size := by omega
      go_wp2
      go_ret
      exact ⟨rfl, HBk.out⟩
theorem back_any (c e : Int) (hc : I64 c) (he : I64 e) (w : World) (htab : PTab w) : Calls Tryd.prog 7 #[.agg #[.int .i64 c, .int .i64 e]] w fun r w' => r = .returned (.bool true) ∧ Below w.heap.size w w' := by
  by_cases h : within e
  · exact back_ok c e hc h w htab
  · exact back_bad c e hc he h w
end Go.Proofs.YtdmddclfjjfcgaaDoor
