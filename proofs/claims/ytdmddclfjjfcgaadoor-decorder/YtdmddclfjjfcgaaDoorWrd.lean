/- Round. -/
import Derived.Test.YtdmddclfjjfcgaaDoorWop
namespace Go.Proofs.YtdmddclfjjfcgaaDoor
open Go.RowKit

set_option maxRecDepth 100000 in
set_option maxHeartbeats 1200000 in
theorem round_bad1 (c e p : Int) (he : ¬ within e) (w : World) : Calls Tryd.prog 32 #[dv c e, .int .i64 p] w fun r w' => r = .returned (.tuple #[dv 0 0, .int .i64 1]) ∧ Below w.heap.size w w' := by
  unfold dv
  go_enter Tryd.func32, Tryd.ntmps32
  go_wp2_with fail
  obtain ⟨_, _, hK, _⟩ := three_rows w _ _ _ _ 23 23 23 (Below.refl _ (((w.alloc (.cells #[.int .i64 c, .int .i64 e] 23)).alloc (.cells #[.int .i64 0, .int .i64 0] 23)).alloc (.cells #[.int .i64 c, .int .i64 e] 23)))
  refine (taken1_bad c e _ _ he hK).mono ?_
  rintro _ w1 ⟨h1, rfl⟩
  obtain ⟨_, hZ, _, hB⟩ := three_rows w w1 _ _ _ _ _ _ h1
  obtain ⟨d0, d1⟩ := hZ.duo
  have z := hZ.frozen
  clear h1
  go_wp2
  refine bodyPost_ret (ret_two rfl (g := w.heap.size + 1) rfl rfl (load23 (Row.set2 hZ _ _) rfl)) rfl ⟨rfl, ?_⟩
  repeat (refine below_set ?_ _ _ (by omega))
  exact hB
set_option maxRecDepth 100000 in
set_option maxHeartbeats 1200000 in
theorem round_bad2 (c e p : Int) (hc : I64 c) (he : within e) (hp : ¬ within p) (w : World) : Calls Tryd.prog 32 #[dv c e, .int .i64 p] w fun r w' => r = .returned (.tuple #[dv 0 0, .int .i64 1]) ∧ Below w.heap.size w w' := by
  unfold dv
  have HI : Hid (decide (-18 ≤ p ∧ p ≤ 18) = false) := decide_eq_false hp
  clear hp
  go_enter Tryd.func32, Tryd.ntmps32
  go_wp2_with fail
  obtain ⟨_, _, hK, _⟩ := three_rows w _ _ _ _ 23 23 23 (Below.refl _ (((w.alloc (.cells #[.int .i64 c, .int .i64 e] 23)).alloc (.cells #[.int .i64 0, .int .i64 0] 23)).alloc (.cells #[.int .i64 c, .int .i64 e] 23)))
  refine (taken1 c e _ _ hc he hK).mono ?_
  rintro _ w1 ⟨h1, G, hG, rfl, hR⟩
  obtain ⟨_, hZ, _, hB⟩ := three_rows w w1 _ _ _ _ _ _ h1
  obtain ⟨d0, d1⟩ := hZ.duo
  have z := hZ.frozen
  clear h1
  clear hR hG
  go_wp2_with (go_at_call 64; refine (within_any _ _).mono ?_; rintro _ w10 ⟨rfl, hw10⟩; subst hw10; rw [HI.out])
  refine bodyPost_ret (ret_two rfl (g := w.heap.size + 1) rfl rfl (load23 (Row.set2 hZ _ _) rfl)) rfl ⟨rfl, ?_⟩
  repeat (refine below_set ?_ _ _ (by omega))
  exact hB
set_option maxRecDepth 100000 in
set_option maxHeartbeats 1200000 in
theorem round_up (c e p : Int) (hc : I64 c) (he : within e) (hp : within p) (hge : -p ≤ (decW c e).e) (w : World) :
    Calls Tryd.prog 32 #[dv c e, .int .i64 p] w fun r w' => r = .returned (decV (toldW (some (decW c e)))) ∧ Below w.heap.size w w' := by
  have hT := fun K w (hK : Row w K 23 #[.int .i64 c, .int .i64 e]) => taken1 c e K w hc he hK
  obtain ⟨b1, b2, b3, b4⟩ := dec_bounds hc he
  have hsh := sh_dec c e he.1 he.2 hc.1 hc.2
  have hbig := hsh.big
  have hlo := hsh.lo
  have hhi := hsh.hi
  have HI : Hid (decide (-18 ≤ p ∧ p ≤ 18) = true) := decide_eq_true hp
  have hp1 := hp.1
  have hp2 := hp.2
  have hTD := told_true (decW c e) b2 b4.2 b4.1
  rw [show tellW (decW c e).neg (decW c e).n (decW c e).e = toldW (some (decW c e)) from rfl] at hTD
  generalize decW c e = y at *
  obtain ⟨p1, p2, v, hdv⟩ := decV_form (toldW (some y))
  rw [hdv] at hTD ⊢
  clear hdv
  obtain ⟨nn, n, e0⟩ := y
  simp only [Wd.val_eq] at *
  unfold Wd.cells at hT
  simp only at hT
  obtain ⟨nh, hnh⟩ : ∃ q, n / 18446744073709551616 = q := ⟨_, rfl⟩
  obtain ⟨nl, hnl⟩ : ∃ q, n % 18446744073709551616 = q := ⟨_, rfl⟩
  rw [hnh, hnl] at hT
  unfold Wd.cells at hTD
  simp only at hTD
  rw [hnh, hnl] at hTD
  have hge2 : ¬ (e0 < -p) := by omega
  clear hnh hnl hsh hc he hp b1 b2 b3 b4 hge
  unfold dv
  go_enter Tryd.func32, Tryd.ntmps32
  go_wp2_with fail
  obtain ⟨_, _, hK, _⟩ := three_rows w _ _ _ _ 23 23 23 (Below.refl _ (((w.alloc (.cells #[.int .i64 c, .int .i64 e] 23)).alloc (.cells #[.int .i64 0, .int .i64 0] 23)).alloc (.cells #[.int .i64 c, .int .i64 e] 23)))
  refine (hT _ _ hK).mono ?_
  rintro _ W ⟨h1, G, hG, rfl, hR⟩
  obtain ⟨_, hZ, _, hB⟩ := three_rows w W _ _ _ _ _ _ h1
  obtain ⟨x0, x1, x2, x3⟩ := hR.four
  have hzl := hZ.lt
  have hgl := hR.lt
  clear h1 hG hK hT
  have hQ := Row.new W 57 #[.bool nn, .int .u64 (nh : Int), .int .u64 (nl : Int), .int .i64 e0]
  have hZ := hZ.alloc (.cells #[.bool nn, .int .u64 (nh : Int), .int .u64 (nl : Int), .int .i64 e0] 57)
  have hB := hB.alloc hB.size (.cells #[.bool nn, .int .u64 (nh : Int), .int .u64 (nl : Int), .int .i64 e0] 57)
  have hne : w.heap.size + 1 ≠ W.heap.size := Nat.ne_of_lt hzl
  have hle : w.heap.size ≤ W.heap.size := by omega
  go_wp2_with (first | (go_at_call 64; refine (within_any _ _).mono ?_; rintro _ w10 ⟨rfl, hw10⟩; rw [hw10, HI.out]; clear hw10 w10) | fail)
  refine (hTD _).mono ?_
  rintro _ w2 ⟨rfl, h2⟩
  have hZ := hZ.below h2 hZ.lt
  have hB := hB.trans (h2.mono hB.size)
  obtain ⟨d0, d1⟩ := hZ.duo
  have z := hZ.frozen
  clear h2 hTD
  go_wp2
  refine bodyPost_ret (ret_two rfl (g := w.heap.size + 1) rfl rfl (load23 (Row.set2 hZ _ _) rfl)) rfl ⟨rfl, ?_⟩
  repeat (refine below_set ?_ _ _ (by omega))
  exact hB
def rdR (neg : Bool) (n : Nat) (e0 p : Int) (QB B1 : Nat) (w0 : World) (_ : Value) (wr : World) : Prop :=
  ∃ j : Nat, e0 + j ≤ -p - 1 ∧ Row wr QB 57 (Wd.cells ⟨neg, n / 10 ^ j, e0 + j⟩) ∧ Row wr B1 23 #[.int .i64 0, .int .i64 0] ∧ Below w0.heap.size w0 wr
set_option maxRecDepth 100000 in
set_option maxHeartbeats 1200000 in
theorem round_down (c e p : Int) (hc : I64 c) (he : within e) (hp : within p) (hge : ¬ -p ≤ (decW c e).e) (w : World) :
    Calls Tryd.prog 32 #[dv c e, .int .i64 p] w fun r w' => r = .returned (decV (toldW (some (roundW (decW c e) p)))) ∧ Below w.heap.size w w' := by
  have hT := fun K w (hK : Row w K 23 #[.int .i64 c, .int .i64 e]) => taken1 c e K w hc he hK
  obtain ⟨b1, b2, b3, b4⟩ := dec_bounds hc he
  have hsh := sh_dec c e he.1 he.2 hc.1 hc.2
  have hbig := hsh.big
  have hlo := hsh.lo
  have hhi := hsh.hi
  have HI : Hid (decide (-18 ≤ p ∧ p ≤ 18) = true) := decide_eq_true hp
  have hp1 := hp.1
  have hp2 := hp.2
  unfold roundW
  rw [if_neg hge]
  generalize decW c e = y at *
  obtain ⟨nn, n, e0⟩ := y
  simp only at *
  have hMl : ∀ j, n / 10 ^ j ≤ 9223372036854775808 := fun j => Nat.le_trans (Nat.div_le_self _ _) hbig
  have hTD := told_true ⟨nn, (n / 10 ^ (-p - 1 - e0).toNat + 5) / 10, -p⟩ (by have := hMl (-p - 1 - e0).toNat; unfold M128; simp only; omega) (by simp only; omega) (by simp only; omega)
  rw [show tellW _ _ _ = toldW (some ⟨nn, (n / 10 ^ (-p - 1 - e0).toNat + 5) / 10, -p⟩) from rfl] at hTD
  obtain ⟨p1, p2, v, hdv⟩ := decV_form (toldW (some ⟨nn, (n / 10 ^ (-p - 1 - e0).toNat + 5) / 10, -p⟩))
  rw [hdv] at hTD ⊢
  clear hdv
  unfold Wd.cells at hT
  simp only at hT
  obtain ⟨nh, hnh⟩ : ∃ q, n / 18446744073709551616 = q := ⟨_, rfl⟩
  obtain ⟨nl, hnl⟩ : ∃ q, n % 18446744073709551616 = q := ⟨_, rfl⟩
  rw [hnh, hnl] at hT
  have HNH : Hid (n / 18446744073709551616 = nh) := hnh
  have HNL : Hid (n % 18446744073709551616 = nl) := hnl
  have hge2 : e0 < -p := by omega
  clear hnh hnl hsh hc he hp b1 b2 b3 b4 hge
  unfold dv
  go_enter Tryd.func32, Tryd.ntmps32
  go_wp2_with fail
  obtain ⟨_, _, hK, _⟩ := three_rows w _ _ _ _ 23 23 23 (Below.refl _ (((w.alloc (.cells #[.int .i64 c, .int .i64 e] 23)).alloc (.cells #[.int .i64 0, .int .i64 0] 23)).alloc (.cells #[.int .i64 c, .int .i64 e] 23)))
  refine (hT _ _ hK).mono ?_
  rintro _ W ⟨h1, G, hG, rfl, hR⟩
  obtain ⟨_, hZ, _, hB⟩ := three_rows w W _ _ _ _ _ _ h1
  obtain ⟨x0, x1, x2, x3⟩ := hR.four
  have hzl := hZ.lt
  have hgl := hR.lt
  clear h1 hG hK hT
  have hQ := Row.new W 57 #[.bool nn, .int .u64 (nh : Int), .int .u64 (nl : Int), .int .i64 e0]
  have hZ := hZ.alloc (.cells #[.bool nn, .int .u64 (nh : Int), .int .u64 (nl : Int), .int .i64 e0] 57)
  have hB := hB.alloc hB.size (.cells #[.bool nn, .int .u64 (nh : Int), .int .u64 (nl : Int), .int .i64 e0] 57)
  have hne : w.heap.size + 1 ≠ W.heap.size := Nat.ne_of_lt hzl
  have hle : w.heap.size ≤ W.heap.size := by omega
  go_wp2_with (first | (go_at_call 64; refine (within_any _ _).mono ?_; rintro _ w10 ⟨rfl, hw10⟩; rw [hw10, HI.out]; clear hw10 w10) | fail)
  go_loopw [45] (rdR nn n e0 p W.heap.size (w.heap.size + 1) w) (fun _ wr => (-p - 1 - eCell W.heap.size wr).toNat)
  case atStart =>
    refine ⟨0, by omega, ?_, hZ, hB⟩
    unfold Wd.cells
    simp only [Nat.pow_zero, Nat.div_one]
    rw [HNH.out, HNL.out, show e0 + ((0 : Nat) : Int) = e0 by omega]
    exact hQ
  case round =>
    clear hQ hZ hB x0 x1 x2 x3
    obtain ⟨j, hj, hQ, hZ, hB⟩ := hrel
    have hEC := eCell_row hQ
    have hml := hMl j
    have HMJ : Hid (n / 10 ^ (j + 1) = n / 10 ^ j / 10) := by show _ = _; rw [Nat.pow_succ, Nat.div_div_eq_div_mul]
    obtain ⟨m, hm⟩ : ∃ m, n / 10 ^ j = m := ⟨_, rfl⟩
    obtain ⟨f, hf⟩ : ∃ f, e0 + (j : Int) = f := ⟨_, rfl⟩
    rw [hm] at hml
    unfold Wd.cells at hQ
    simp only [hm, hf] at hQ hEC
    have hm1 : m / 18446744073709551616 = 0 := by omega
    have hm2 : m % 18446744073709551616 = m := by omega
    rw [hm1, hm2] at hQ
    have hQ : Row wr W.heap.size 57 #[.bool nn, .int .u64 0, .int .u64 (m : Int), .int .i64 f] := hQ
    have HM : Hid (n / 10 ^ j = m) := hm
    have HF : Hid (e0 + (j : Int) = f) := hf
    obtain ⟨a0, a1, a2, a3⟩ := hQ.four
    have z0 := hQ.frozen
    by_cases hlt : f < -p - 1
    · have hTn := tenth_any ⟨nn, m, f⟩ (by unfold M128; simp only; omega) (by simp only; omega) (by simp only; omega)
      simp only [Wd.val_eq] at hTn
      unfold Wd.cells at hTn
      simp only [hm1, hm2] at hTn
      obtain ⟨m', hm'⟩ : ∃ m', m / 10 = m' := ⟨_, rfl⟩
      obtain ⟨dg, hdg⟩ : ∃ dg, m % 10 = dg := ⟨_, rfl⟩
      rw [hm', hdg, show m' / 18446744073709551616 = 0 by omega, show m' % 18446744073709551616 = m' by omega] at hTn
      simp only [show ((0 : Nat) : Int) = 0 from rfl] at hTn
      have HM' : Hid (m / 10 = m') := hm'
      have hml' : m' ≤ 9223372036854775808 := by omega
      clear hm hf hm1 hm2 hm' hdg hTD HNH HNL
      go_wp2_with fail
      refine (hTn _).mono ?_
      rintro _ w2 ⟨rfl, h2⟩
      have hQ := hQ.below h2 hQ.lt
      have hZ := hZ.below h2 hZ.lt
      have hB := hB.trans (h2.mono hB.size)
      clear h2 hTn a0 a1 a2 a3 z0
      obtain ⟨a0, a1, a2, a3⟩ := hQ.four
      have z0 := hQ.frozen
      go_wp2
      have hfin : Row ((((w2.setCell ⟨W.heap.size, 0, none⟩ (.bool nn)).setCell ⟨W.heap.size, 1, none⟩ (.int .u64 0)).setCell ⟨W.heap.size, 2, none⟩ (.int .u64 (m' : Int))).setCell ⟨W.heap.size, 3, none⟩ (.int .i64 (f + 1))) W.heap.size 57 (Wd.cells ⟨nn, n / 10 ^ (j + 1), e0 + ((j + 1 : Nat) : Int)⟩) := by
        unfold Wd.cells
        simp only
        rw [HMJ.out, HM.out, HM'.out, show m' / 18446744073709551616 = 0 by omega, show m' % 18446744073709551616 = m' by omega, show e0 + ((j + 1 : Nat) : Int) = f + 1 by have := HF.out; omega]
        exact hQ.set4 _ _ _ _
      refine ⟨⟨j + 1, ?_, hfin, hZ.off4 hne _ _ _ _, below_set4 hB hle _ _ _ _⟩, ?_⟩
      · have := HF.out; omega
      · rw [eCell_row hfin, hEC]
        have := HF.out
        simp only
        omega
    · have hfe : f = -p - 1 := by omega
      have hTn := tenth_any ⟨nn, m + 5, f⟩ (by unfold M128; simp only; omega) (by simp only; omega) (by simp only; omega)
      simp only [Wd.val_eq] at hTn
      unfold Wd.cells at hTn
      simp only at hTn
      obtain ⟨m', hm'⟩ : ∃ m', (m + 5) / 10 = m' := ⟨_, rfl⟩
      obtain ⟨dg, hdg⟩ : ∃ dg, (m + 5) % 10 = dg := ⟨_, rfl⟩
      obtain ⟨m5, hm5⟩ : ∃ m5, m + 5 = m5 := ⟨_, rfl⟩
      rw [hm5] at hTn hm' hdg
      rw [hm', hdg, show m5 / 18446744073709551616 = 0 by omega, show m5 % 18446744073709551616 = m5 by omega, show m' / 18446744073709551616 = 0 by omega, show m' % 18446744073709551616 = m' by omega] at hTn
      simp only [show ((0 : Nat) : Int) = 0 from rfl] at hTn
      have hTe : (n / 10 ^ (-p - 1 - e0).toNat + 5) / 10 = m' := by
        rw [show (-p - 1 - e0).toNat = j by omega, hm, hm5, hm']
      rw [hTe, Wd.val_eq] at hTD
      unfold Wd.cells at hTD
      simp only at hTD
      rw [show m' / 18446744073709551616 = 0 by omega, show m' % 18446744073709551616 = m' by omega, show -p = f + 1 by omega, show ((0 : Nat) : Int) = 0 from rfl] at hTD
      have f5 : (m : Int) + 5 = (m5 : Int) := by omega
      have F5 : Hid ((m : Int) + 5 = (m5 : Int)) := f5
      have hm5b : m5 < 18446744073709551616 := by omega
      clear hm hf hm1 hm2 hm' hdg hTe f5 hm5 HNH HNL hfe
      go_wp2_with fail
      try rw [F5.out]
      have hQ := hQ.set 2 (.int .u64 (m5 : Int))
      have hQ : Row (wr.setCell ⟨W.heap.size, 2, none⟩ (.int .u64 (m5 : Int))) W.heap.size 57 #[.bool nn, .int .u64 0, .int .u64 (m5 : Int), .int .i64 f] := hQ
      have hZ := hZ.off (B' := W.heap.size) 2 (.int .u64 (m5 : Int)) hne
      have hB := below_set hB (B := W.heap.size) 2 (.int .u64 (m5 : Int)) hle
      refine (hTn _).mono ?_
      rintro _ w2 ⟨rfl, h2⟩
      have hQ := hQ.below h2 hQ.lt
      have hZ := hZ.below h2 hZ.lt
      have hB := hB.trans (h2.mono hB.size)
      clear h2 hTn a0 a1 a2 a3 z0
      obtain ⟨a0, a1, a2, a3⟩ := hQ.four
      have z0 := hQ.frozen
      have hQ := hQ.set4 (.bool nn) (.int .u64 0) (.int .u64 (m' : Int)) (.int .i64 (f + 1))
      have hZ := hZ.off4 (B' := W.heap.size) hne (.bool nn) (.int .u64 0) (.int .u64 (m' : Int)) (.int .i64 (f + 1))
      have hB := below_set4 hB (B' := W.heap.size) hle (.bool nn) (.int .u64 0) (.int .u64 (m' : Int)) (.int .i64 (f + 1))
      go_wp2_with fail
      refine (hTD _).mono ?_
      rintro _ w3 ⟨rfl, h3⟩
      have hZ := hZ.below h3 hZ.lt
      have hB := hB.trans (h3.mono hB.size)
      obtain ⟨d0, d1⟩ := hZ.duo
      have z := hZ.frozen
      clear h3 hTD a0 a1 a2 a3 z0
      go_wp2
      refine bodyPost_ret (ret_two rfl (g := w.heap.size + 1) rfl rfl (load23 (Row.set2 hZ _ _) rfl)) rfl ⟨rfl, ?_⟩
      repeat (refine below_set ?_ _ _ (by omega))
      exact hB
end Go.Proofs.YtdmddclfjjfcgaaDoor
