import Derived.Test.YtfbhonjndepjbaaDoorRof
/- Of: a number's digits. -/
namespace Go.Proofs.YtfbhonjndepjbaaDoor
open Go.RowKit

set_option maxRecDepth 100000 in
set_option maxHeartbeats 1000000 in
theorem of_pos (n0 : Nat) (hn : n0 ≤ 9223372036854775808 - 1) (w : World) : Calls Tryd.prog 64 #[.int .i64 (n0 : Int)] w fun r w' => ∃ v, r = .returned (bv false v) ∧ DgAt w' v (digs n0) ∧ NewS w.heap.size v ∧ Below w.heap.size w w' := by
  obtain ⟨i0, hi, hzz⟩ := Option.map_eq_some_iff.1 Tryd.info3
  simp only [Prod.mk.injEq] at hzz
  obtain ⟨hz0, hz1, hz2⟩ := hzz
  have hl20 : (digs n0).length ≤ 20 := digs_len n0 20 (by omega)
  have HL : Hid ((digs n0).length ≤ 20) := hl20
  clear hl20
  have hlt0 : ¬ (n0 : Int) < 0 := by omega
  go_enter Tryd.func64, Tryd.ntmps64
  go_wp2_with fail
  have hZ := Row.new w 45 #[.bool false, .slice none 0 0]
  have hB := (Below.refl _ w).alloc (Nat.le_refl _) (.cells #[.bool false, .slice none 0 0] 45)
  go_loopw [3, 4] (fun v3 v4 wr => ∃ (m : Nat) (ds : List Int), m ≤ 9223372036854775808 - 1 ∧ v4 = .int .i64 (m : Int) ∧ Hid (ds ++ digs m = digs n0) ∧ OwnD w.heap.size wr v3 ds ∧ Row wr w.heap.size 45 #[.bool false, .slice none 0 0] ∧ Below w.heap.size w wr) (fun _ v4 _ => (intOf v4).natAbs)
  case atStart => exact ⟨n0, [], hn, rfl, rfl, World.ownsRow_nil _ _ _ _, hZ, hB⟩
  case round =>
    clear hZ hB
    obtain ⟨m, ds, hm, rfl, HD, hO, hZ, hB⟩ := hrel
    by_cases h0 : m = 0
    · subst h0
      obtain ⟨gu, cu, rfl⟩ := hO.form
      obtain ⟨d0, d1⟩ := hZ.duo
      have z := hZ.frozen
      have HE : Hid (ds = digs n0) := by have := HD.out; rw [digs_zero, List.append_nil] at this; exact this
      have hOb : OwnD w.heap.size ((wr.setCell ⟨w.heap.size, 0, none⟩ (.bool false)).setCell ⟨w.heap.size, 1, none⟩ (.slice gu ds.length cu)) (.slice gu ds.length cu) ds := by
        have hne := row_ne hO hZ (by decide)
        exact owns_kept hO (((Kept.refl (fun k => k ≠ w.heap.size) wr).setCell (p := ⟨w.heap.size, 0, none⟩) (by simp) _).setCell (p := ⟨w.heap.size, 1, none⟩) (by simp) _) (fun k hk e => hne (e ▸ hk))
      have hOi := hOb.dg
      have hOn := hOb.new
      have hBe := below_set (below_set hB (B := w.heap.size) 0 (.bool false) (Nat.le_refl _)) (B := w.heap.size) 1 (.slice gu ds.length cu) (Nat.le_refl _)
      have hZe := Row.set2 hZ (.bool false) (.slice gu ds.length cu)
      clear hOb hO
      go_wp2
      refine bodyPost_ret (ret_one rfl (g := w.heap.size) rfl (load43 hZe rfl)) rfl ⟨_, rfl, ?_, hOn, hBe⟩
      rw [← HE.out]; exact hOi
    · have hne0 : ((m : Int) != 0) = true := by simp; omega
      obtain ⟨d, hd⟩ : ∃ d, m % 10 = d := ⟨_, rfl⟩
      obtain ⟨m', hm'⟩ : ∃ m', m / 10 = m' := ⟨_, rfl⟩
      have f1 : (m : Int).tmod 10 = (d : Int) := by rw [Int.tmod_eq_emod_of_nonneg (by omega)]; omega
      have f2 : (m : Int).tdiv 10 = (m' : Int) := by rw [Int.tdiv_eq_ediv_of_nonneg (by omega)]; omega
      have hd9 : d ≤ 9 := by omega
      have hm9 : m' ≤ 922337203685477580 := by omega
      have HD2 : Hid (ds ++ [(d : Int)] ++ digs m' = digs n0) := by
        show _ = _
        rw [← HD.out, digs_pos m h0, hd, hm', List.append_assoc]; rfl
      have hS1 : ds.length + 1 ≤ 20 := by
        have h1 := HD2.out
        have h2 := HL.out
        rw [← h1] at h2
        simp only [List.length_append, List.length_cons, List.length_nil] at h2
        omega
      have HMM : Hid (m' < m) := by show _ < _; omega
      clear hd hm' h0 HD
      obtain ⟨gu, cu, rfl⟩ := hO.form
      have hlt := hZ.lt
      have hBs := hB.size
      have f3 : ¬ ((d : Int) < 0) := by omega
      have HNW : Hid _ := new_one wr (d : Int)
      have hO1 : (wr.alloc (.cells #[.int .i64 (d : Int)] 3)).ownsRow w.heap.size 3 1 (.slice gu ds.length cu) ds.length (ds.map (Value.int .i64)) := World.ownsRow.alloc hO _
      have hZ1 := hZ.alloc (.cells #[.int .i64 (d : Int)] 3)
      have hB1 := hB.alloc hBs (.cells #[.int .i64 (d : Int)] 3)
      clear hO hZ hB
      go_wp2_with (at_builtin; refine wpList_append_own2 _ rfl (.tmp 15) (.tmp 17) 43 rfl w.heap.size 3 i0 (.int .i64 0) 1 8 Tryd.underlying43 hi hz0 hz1 hz2 rfl (by decide) _ _ _ rfl hO1 ⟨wr.heap.size, 0, none⟩ 1 1 [.int .i64 (d : Int)] rfl rfl HNW.out (by simp [Value.oneCell']) (by unfold maxLen; omega) (by omega) (by simp; omega) ?_)
      intro v1 x1 hown1 hgrow1 hblk1
      have hZ2 := row_grownO hZ1 hO1 hgrow1 (by decide)
      have hB2 := below_grownO hB1 (by simp; omega) hO1 hgrow1
      have hO2 := OwnD.snoc hown1
      clear hown1 hgrow1 hblk1 hZ1 hB1 hO1
      go_wp2
      go_roundw
      case rel => exact ⟨m', ds ++ [(d : Int)], by omega, rfl, HD2, hO2, hZ2, hB2⟩
      case measure => have := HMM.out; simp [intOf]; omega
set_option maxRecDepth 100000 in
set_option maxHeartbeats 1000000 in
theorem of_neg (n0 : Nat) (hn : n0 ≤ 9223372036854775808) (hpos : n0 ≠ 0) (w : World) : Calls Tryd.prog 64 #[.int .i64 (-(n0 : Int))] w fun r w' => ∃ v, r = .returned (bv true v) ∧ DgAt w' v (digs n0) ∧ NewS w.heap.size v ∧ Below w.heap.size w w' := by
  obtain ⟨i0, hi, hzz⟩ := Option.map_eq_some_iff.1 Tryd.info3
  simp only [Prod.mk.injEq] at hzz
  obtain ⟨hz0, hz1, hz2⟩ := hzz
  have hl20 : (digs n0).length ≤ 20 := digs_len n0 20 (by omega)
  have HL : Hid ((digs n0).length ≤ 20) := hl20
  clear hl20
  have hlt0 : -(n0 : Int) < 0 := by omega
  have hlt1 : 0 < n0 := by omega
  have hlt2 : (0 : Int) < (n0 : Int) := by omega
  go_enter Tryd.func64, Tryd.ntmps64
  go_wp2_with fail
  have hZ := Row.new w 45 #[.bool false, .slice none 0 0]
  have hB := (Below.refl _ w).alloc (Nat.le_refl _) (.cells #[.bool false, .slice none 0 0] 45)
  go_loopw [3, 4] (fun v3 v4 wr => ∃ (m : Nat) (ds : List Int), m ≤ 9223372036854775808 ∧ v4 = .int .i64 (-(m : Int)) ∧ Hid (ds ++ digs m = digs n0) ∧ OwnD w.heap.size wr v3 ds ∧ Row wr w.heap.size 45 #[.bool false, .slice none 0 0] ∧ Below w.heap.size w wr) (fun _ v4 _ => (intOf v4).natAbs)
  case atStart => exact ⟨n0, [], hn, rfl, rfl, World.ownsRow_nil _ _ _ _, hZ, hB⟩
  case round =>
    clear hZ hB
    obtain ⟨m, ds, hm, rfl, HD, hO, hZ, hB⟩ := hrel
    by_cases h0 : m = 0
    · subst h0
      obtain ⟨gu, cu, rfl⟩ := hO.form
      obtain ⟨d0, d1⟩ := hZ.duo
      have z := hZ.frozen
      have HE : Hid (ds = digs n0) := by have := HD.out; rw [digs_zero, List.append_nil] at this; exact this
      have hOb : OwnD w.heap.size ((wr.setCell ⟨w.heap.size, 0, none⟩ (.bool true)).setCell ⟨w.heap.size, 1, none⟩ (.slice gu ds.length cu)) (.slice gu ds.length cu) ds := by
        have hne := row_ne hO hZ (by decide)
        exact owns_kept hO (((Kept.refl (fun k => k ≠ w.heap.size) wr).setCell (p := ⟨w.heap.size, 0, none⟩) (by simp) _).setCell (p := ⟨w.heap.size, 1, none⟩) (by simp) _) (fun k hk e => hne (e ▸ hk))
      have hOi := hOb.dg
      have hOn := hOb.new
      have hBe := below_set (below_set hB (B := w.heap.size) 0 (.bool true) (Nat.le_refl _)) (B := w.heap.size) 1 (.slice gu ds.length cu) (Nat.le_refl _)
      have hZe := Row.set2 hZ (.bool true) (.slice gu ds.length cu)
      clear hOb hO
      go_wp2
      refine bodyPost_ret (ret_one rfl (g := w.heap.size) rfl (load43 hZe rfl)) rfl ⟨_, rfl, ?_, hOn, hBe⟩
      rw [← HE.out]; exact hOi
    · have hne0 : ((-(m : Int)) != 0) = true := by simp; omega
      obtain ⟨d, hd⟩ : ∃ d, m % 10 = d := ⟨_, rfl⟩
      obtain ⟨m', hm'⟩ : ∃ m', m / 10 = m' := ⟨_, rfl⟩
      have f1 : (-(m : Int)).tmod 10 = -(d : Int) := by rw [Int.neg_tmod, Int.tmod_eq_emod_of_nonneg (by omega)]; omega
      have f2 : (-(m : Int)).tdiv 10 = (-(m' : Int)) := by rw [Int.neg_tdiv, Int.tdiv_eq_ediv_of_nonneg (by omega)]; omega
      have hd9 : d ≤ 9 := by omega
      have hm9 : m' ≤ 922337203685477580 := by omega
      have HD2 : Hid (ds ++ [(d : Int)] ++ digs m' = digs n0) := by
        show _ = _
        rw [← HD.out, digs_pos m h0, hd, hm', List.append_assoc]; rfl
      have hS1 : ds.length + 1 ≤ 20 := by
        have h1 := HD2.out
        have h2 := HL.out
        rw [← h1] at h2
        simp only [List.length_append, List.length_cons, List.length_nil] at h2
        omega
      have HMM : Hid (m' < m) := by show _ < _; omega
      clear hd hm' h0 HD
      obtain ⟨gu, cu, rfl⟩ := hO.form
      have hlt := hZ.lt
      have hBs := hB.size
      by_cases hdz : d = 0
      · subst hdz
        have f1 : (-(m : Int)).tmod 10 = 0 := f1
        have HD2 : Hid (ds ++ [(0 : Int)] ++ digs m' = digs n0) := HD2
        have HNW : Hid _ := new_one wr (0 : Int)
        have hO1 : (wr.alloc (.cells #[.int .i64 (0 : Int)] 3)).ownsRow w.heap.size 3 1 (.slice gu ds.length cu) ds.length (ds.map (Value.int .i64)) := World.ownsRow.alloc hO _
        have hZ1 := hZ.alloc (.cells #[.int .i64 (0 : Int)] 3)
        have hB1 := hB.alloc hBs (.cells #[.int .i64 (0 : Int)] 3)
        clear hO hZ hB
        go_wp2_with (at_builtin; refine wpList_append_own2 _ rfl (.tmp 15) (.tmp 17) 43 rfl w.heap.size 3 i0 (.int .i64 0) 1 8 Tryd.underlying43 hi hz0 hz1 hz2 rfl (by decide) _ _ _ rfl hO1 ⟨wr.heap.size, 0, none⟩ 1 1 [.int .i64 (0 : Int)] rfl rfl HNW.out (by simp [Value.oneCell']) (by unfold maxLen; omega) (by omega) (by simp; omega) ?_)
        intro v1 x1 hown1 hgrow1 hblk1
        have hZ2 := row_grownO hZ1 hO1 hgrow1 (by decide)
        have hB2 := below_grownO hB1 (by simp; omega) hO1 hgrow1
        have hO2 := OwnD.snoc hown1
        clear hown1 hgrow1 hblk1 hZ1 hB1 hO1
        go_wp2
        go_roundw
        case rel => exact ⟨m', ds ++ [(0 : Int)], by omega, rfl, HD2, hO2, hZ2, hB2⟩
        case measure => have := HMM.out; simp [intOf]; omega
      · have f4 : -(d : Int) < 0 := by omega
        have HNW : Hid _ := new_one wr (d : Int)
        have hO1 : (wr.alloc (.cells #[.int .i64 (d : Int)] 3)).ownsRow w.heap.size 3 1 (.slice gu ds.length cu) ds.length (ds.map (Value.int .i64)) := World.ownsRow.alloc hO _
        have hZ1 := hZ.alloc (.cells #[.int .i64 (d : Int)] 3)
        have hB1 := hB.alloc hBs (.cells #[.int .i64 (d : Int)] 3)
        clear hO hZ hB
        go_wp2_with (at_builtin; refine wpList_append_own2 _ rfl (.tmp 15) (.tmp 17) 43 rfl w.heap.size 3 i0 (.int .i64 0) 1 8 Tryd.underlying43 hi hz0 hz1 hz2 rfl (by decide) _ _ _ rfl hO1 ⟨wr.heap.size, 0, none⟩ 1 1 [.int .i64 (d : Int)] rfl rfl HNW.out (by simp [Value.oneCell']) (by unfold maxLen; omega) (by omega) (by simp; omega) ?_)
        intro v1 x1 hown1 hgrow1 hblk1
        have hZ2 := row_grownO hZ1 hO1 hgrow1 (by decide)
        have hB2 := below_grownO hB1 (by simp; omega) hO1 hgrow1
        have hO2 := OwnD.snoc hown1
        clear hown1 hgrow1 hblk1 hZ1 hB1 hO1
        go_wp2
        go_roundw
        case rel => exact ⟨m', ds ++ [(d : Int)], by omega, rfl, HD2, hO2, hZ2, hB2⟩
        case measure => have := HMM.out; simp [intOf]; omega
/-- A whole number, as a Big. -/
def BigV (w : World) (z : Int) (v : Value) : Prop := ∃ sv, v = bv (decide (z < 0)) sv ∧ DgAt w sv (digs z.natAbs)
theorem BigV.below {w w' : World} {z : Int} {v : Value} (h : BigV w z v) (hb : Below w.heap.size w w') : BigV w' z v := by
  obtain ⟨sv, rfl, h⟩ := h
  exact ⟨sv, rfl, h.below hb⟩
theorem of_new (c : Int) (hc : I64 c) (w : World) : Calls Tryd.prog 64 #[.int .i64 c] w fun r w' => ∃ v, r = .returned v ∧ BigV w' c v ∧ NewV w.heap.size v ∧ Below w.heap.size w w' := by
  by_cases h : c < 0
  · obtain ⟨n, rfl⟩ : ∃ n : Nat, c = -(n : Int) := ⟨c.natAbs, by omega⟩
    refine (of_neg n (by have := hc.1; omega) (by omega) w).mono ?_
    rintro r w' ⟨sv, rfl, hI, hN, hB⟩
    refine ⟨_, rfl, ⟨sv, by rw [decide_eq_true h], ?_⟩, ⟨_, _, rfl, hN⟩, hB⟩
    rw [show (-(n : Int)).natAbs = n by omega]; exact hI
  · obtain ⟨n, rfl⟩ : ∃ n : Nat, c = (n : Int) := ⟨c.natAbs, by omega⟩
    refine (of_pos n (by have := hc.2; omega) w).mono ?_
    rintro r w' ⟨sv, rfl, hI, hN, hB⟩
    exact ⟨_, rfl, ⟨sv, by rw [decide_eq_false h], by simpa using hI⟩, ⟨_, _, rfl, hN⟩, hB⟩
theorem of_any (c : Int) (hc : I64 c) (w : World) : Calls Tryd.prog 64 #[.int .i64 c] w fun r w' => ∃ v, r = .returned v ∧ BigV w' c v ∧ Below w.heap.size w w' := by
  refine (of_new c hc w).mono ?_
  rintro r w' ⟨v, h1, h2, _, h3⟩
  exact ⟨v, h1, h2, h3⟩
end Go.Proofs.YtfbhonjndepjbaaDoor
