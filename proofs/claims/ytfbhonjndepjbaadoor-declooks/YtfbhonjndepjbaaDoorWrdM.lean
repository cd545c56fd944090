import Derived.Test.YtfbhonjndepjbaaDoorWop
import Derived.Test.YtfbhonjndepjbaaDoorSh2M
import Derived.Lib.ItoaMem
import Derived.Lib.AppendIntMem
import Derived.Test.YtfbhonjndepjbaaDoorBrtM
import Derived.Test.YtfbhonjndepjbaaDoorWrm
import Derived.Test.YtfbhonjndepjbaaDoorRelM
/- Round. -/
namespace Go.Proofs.YtfbhonjndepjbaaDoor
open Go.RowKit

set_option maxRecDepth 100000 in
set_option maxHeartbeats 1200000 in
theorem round_bad1 (c e p : Int) (he : ¬ within e) (w : World) : Calls Tryd.prog 32 #[dv c e, .int .i64 p] w fun r w' => r = .returned (.tuple #[dv 0 0, .int .i64 1]) ∧ Below w.heap.size w w' := by
  unfold dv
  go_enter Tryd.func32, Tryd.ntmps32
  go_wp2_with fail
  obtain ⟨_, _, hK, _⟩ := three_rows w _ _ _ _ 23 23 23 (Below.refl _ (((w.alloc (.cells #[.int .i64 c, .int .i64 e] 23)).alloc (.cells #[.int .i64 0, .int .i64 0] 23)).alloc (.cells #[.int .i64 c, .int .i64 e] 23)))
  refine (taken1_bad c e _ _ he hK).mono ?_
  rintro _ w1 ⟨h1, rfl⟩
  obtain ⟨_, hZ, _, hB⟩ := three_rows w w1 _ _ _ _ _ _ h1
  obtain ⟨d0, d1⟩ := hZ.duo
  have z := hZ.frozen
  clear h1
  go_wp2
  refine bodyPost_ret (ret_two rfl (g := w.heap.size + 1) rfl rfl (load23 (Row.set2 hZ _ _) rfl)) rfl ⟨rfl, ?_⟩
  repeat (refine below_set ?_ _ _ (by omega))
  exact hB
set_option maxRecDepth 100000 in
set_option maxHeartbeats 1200000 in
theorem round_bad2 (c e p : Int) (hc : I64 c) (he : within e) (hp : ¬ within p) (w : World) : Calls Tryd.prog 32 #[dv c e, .int .i64 p] w fun r w' => r = .returned (.tuple #[dv 0 0, .int .i64 1]) ∧ Below w.heap.size w w' := by
  unfold dv
  have HI : Hid (decide (-18 ≤ p ∧ p ≤ 18) = false) := decide_eq_false hp
  clear hp
  go_enter Tryd.func32, Tryd.ntmps32
  go_wp2_with fail
  obtain ⟨_, _, hK, _⟩ := three_rows w _ _ _ _ 23 23 23 (Below.refl _ (((w.alloc (.cells #[.int .i64 c, .int .i64 e] 23)).alloc (.cells #[.int .i64 0, .int .i64 0] 23)).alloc (.cells #[.int .i64 c, .int .i64 e] 23)))
  refine (taken1 c e _ _ hc he hK).mono ?_
  rintro _ w1 ⟨h1, G, hG, rfl, hR⟩
  obtain ⟨_, hZ, _, hB⟩ := three_rows w w1 _ _ _ _ _ _ h1
  obtain ⟨d0, d1⟩ := hZ.duo
  have z := hZ.frozen
  clear h1
  clear hR hG
  go_wp2_with (go_at_call 65; refine (within_any _ _).mono ?_; rintro _ w10 ⟨rfl, hw10⟩; subst hw10; rw [HI.out])
  refine bodyPost_ret (ret_two rfl (g := w.heap.size + 1) rfl rfl (load23 (Row.set2 hZ _ _) rfl)) rfl ⟨rfl, ?_⟩
  repeat (refine below_set ?_ _ _ (by omega))
  exact hB
set_option maxRecDepth 100000 in
set_option maxHeartbeats 1200000 in
theorem round_up (c e p : Int) (hc : I64 c) (he : within e) (hp : within p) (hge : -p ≤ (decW c e).e) (w : World) :
    Calls Tryd.prog 32 #[dv c e, .int .i64 p] w fun r w' => r = .returned (decV (toldW (some (decW c e)))) ∧ Below w.heap.size w w' := by
  have hT := fun K w (hK : Row w K 23 #[.int .i64 c, .int .i64 e]) => taken1 c e K w hc he hK
  obtain ⟨b1, b2, b3, b4⟩ := dec_bounds hc he
  have hsh := sh_dec c e he.1 he.2 hc.1 hc.2
  have hbig := hsh.big
  have hlo := hsh.lo
  have hhi := hsh.hi
  have HI : Hid (decide (-18 ≤ p ∧ p ≤ 18) = true) := decide_eq_true hp
  have hp1 := hp.1
  have hp2 := hp.2
  have hTD := told_true (decW c e) b2 b4.2 b4.1
  rw [show tellW (decW c e).neg (decW c e).n (decW c e).e = toldW (some (decW c e)) from rfl] at hTD
  generalize decW c e = y at *
  obtain ⟨p1, p2, v, hdv⟩ := decV_form (toldW (some y))
  rw [hdv] at hTD ⊢
  clear hdv
  obtain ⟨nn, n, e0⟩ := y
  simp only [Wd.val_eq] at *
  unfold Wd.cells at hT
  simp only at hT
  obtain ⟨nh, hnh⟩ : ∃ q, n / 18446744073709551616 = q := ⟨_, rfl⟩
  obtain ⟨nl, hnl⟩ : ∃ q, n % 18446744073709551616 = q := ⟨_, rfl⟩
  rw [hnh, hnl] at hT
  unfold Wd.cells at hTD
  simp only at hTD
  rw [hnh, hnl] at hTD
  have hge2 : ¬ (e0 < -p) := by omega
  clear hnh hnl hsh hc he hp b1 b2 b3 b4 hge
  unfold dv
  go_enter Tryd.func32, Tryd.ntmps32
  go_wp2_with fail
  obtain ⟨_, _, hK, _⟩ := three_rows w _ _ _ _ 23 23 23 (Below.refl _ (((w.alloc (.cells #[.int .i64 c, .int .i64 e] 23)).alloc (.cells #[.int .i64 0, .int .i64 0] 23)).alloc (.cells #[.int .i64 c, .int .i64 e] 23)))
  refine (hT _ _ hK).mono ?_
  rintro _ W ⟨h1, G, hG, rfl, hR⟩
  obtain ⟨_, hZ, _, hB⟩ := three_rows w W _ _ _ _ _ _ h1
  obtain ⟨x0, x1, x2, x3⟩ := hR.four
  have hzl := hZ.lt
  have hgl := hR.lt
  clear h1 hG hK hT
  have hQ := Row.new W 59 #[.bool nn, .int .u64 (nh : Int), .int .u64 (nl : Int), .int .i64 e0]
  have hZ := hZ.alloc (.cells #[.bool nn, .int .u64 (nh : Int), .int .u64 (nl : Int), .int .i64 e0] 59)
  have hB := hB.alloc hB.size (.cells #[.bool nn, .int .u64 (nh : Int), .int .u64 (nl : Int), .int .i64 e0] 59)
  have hne : w.heap.size + 1 ≠ W.heap.size := Nat.ne_of_lt hzl
  have hle : w.heap.size ≤ W.heap.size := by omega
  go_wp2_with (first | (go_at_call 65; refine (within_any _ _).mono ?_; rintro _ w10 ⟨rfl, hw10⟩; rw [hw10, HI.out]; clear hw10 w10) | fail)
  refine (hTD _).mono ?_
  rintro _ w2 ⟨rfl, h2⟩
  have hZ := hZ.below h2 hZ.lt
  have hB := hB.trans (h2.mono hB.size)
  obtain ⟨d0, d1⟩ := hZ.duo
  have z := hZ.frozen
  clear h2 hTD
  go_wp2
  refine bodyPost_ret (ret_two rfl (g := w.heap.size + 1) rfl rfl (load23 (Row.set2 hZ _ _) rfl)) rfl ⟨rfl, ?_⟩
  repeat (refine below_set ?_ _ _ (by omega))
  exact hB
def rdR (neg : Bool) (n : Nat) (e0 p : Int) (QB B1 : Nat) (w0 : World) (_ : Value) (wr : World) : Prop :=
  ∃ j : Nat, e0 + j ≤ -p - 1 ∧ Row wr QB 59 (Wd.cells ⟨neg, n / 10 ^ j, e0 + j⟩) ∧ Row wr B1 23 #[.int .i64 0, .int .i64 0] ∧ Below w0.heap.size w0 wr
set_option maxRecDepth 100000 in
set_option maxHeartbeats 1200000 in
theorem round_down (c e p : Int) (hc : I64 c) (he : within e) (hp : within p) (hge : ¬ -p ≤ (decW c e).e) (w : World) :
    Calls Tryd.prog 32 #[dv c e, .int .i64 p] w fun r w' => r = .returned (decV (toldW (some (roundW (decW c e) p)))) ∧ Below w.heap.size w w' := by
  have hT := fun K w (hK : Row w K 23 #[.int .i64 c, .int .i64 e]) => taken1 c e K w hc he hK
  obtain ⟨b1, b2, b3, b4⟩ := dec_bounds hc he
  have hsh := sh_dec c e he.1 he.2 hc.1 hc.2
  have hbig := hsh.big
  have hlo := hsh.lo
  have hhi := hsh.hi
  have HI : Hid (decide (-18 ≤ p ∧ p ≤ 18) = true) := decide_eq_true hp
  have hp1 := hp.1
  have hp2 := hp.2
  unfold roundW
  rw [if_neg hge]
  generalize decW c e = y at *
  obtain ⟨nn, n, e0⟩ := y
  simp only at *
  have hMl : ∀ j, n / 10 ^ j ≤ 9223372036854775808 := fun j => Nat.le_trans (Nat.div_le_self _ _) hbig
  have hTD := told_true ⟨nn, (n / 10 ^ (-p - 1 - e0).toNat + 5) / 10, -p⟩ (by have := hMl (-p - 1 - e0).toNat; unfold M128; simp only; omega) (by simp only; omega) (by simp only; omega)
  rw [show tellW _ _ _ = toldW (some ⟨nn, (n / 10 ^ (-p - 1 - e0).toNat + 5) / 10, -p⟩) from rfl] at hTD
  obtain ⟨p1, p2, v, hdv⟩ := decV_form (toldW (some ⟨nn, (n / 10 ^ (-p - 1 - e0).toNat + 5) / 10, -p⟩))
  rw [hdv] at hTD ⊢
  clear hdv
  unfold Wd.cells at hT
  simp only at hT
  obtain ⟨nh, hnh⟩ : ∃ q, n / 18446744073709551616 = q := ⟨_, rfl⟩
  obtain ⟨nl, hnl⟩ : ∃ q, n % 18446744073709551616 = q := ⟨_, rfl⟩
  rw [hnh, hnl] at hT
  have HNH : Hid (n / 18446744073709551616 = nh) := hnh
  have HNL : Hid (n % 18446744073709551616 = nl) := hnl
  have hge2 : e0 < -p := by omega
  clear hnh hnl hsh hc he hp b1 b2 b3 b4 hge
  unfold dv
  go_enter Tryd.func32, Tryd.ntmps32
  go_wp2_with fail
  obtain ⟨_, _, hK, _⟩ := three_rows w _ _ _ _ 23 23 23 (Below.refl _ (((w.alloc (.cells #[.int .i64 c, .int .i64 e] 23)).alloc (.cells #[.int .i64 0, .int .i64 0] 23)).alloc (.cells #[.int .i64 c, .int .i64 e] 23)))
  refine (hT _ _ hK).mono ?_
  rintro _ W ⟨h1, G, hG, rfl, hR⟩
  obtain ⟨_, hZ, _, hB⟩ := three_rows w W _ _ _ _ _ _ h1
  obtain ⟨x0, x1, x2, x3⟩ := hR.four
  have hzl := hZ.lt
  have hgl := hR.lt
  clear h1 hG hK hT
  have hQ := Row.new W 59 #[.bool nn, .int .u64 (nh : Int), .int .u64 (nl : Int), .int .i64 e0]
  have hZ := hZ.alloc (.cells #[.bool nn, .int .u64 (nh : Int), .int .u64 (nl : Int), .int .i64 e0] 59)
  have hB := hB.alloc hB.size (.cells #[.bool nn, .int .u64 (nh : Int), .int .u64 (nl : Int), .int .i64 e0] 59)
  have hne : w.heap.size + 1 ≠ W.heap.size := Nat.ne_of_lt hzl
  have hle : w.heap.size ≤ W.heap.size := by omega
  go_wp2_with (first | (go_at_call 65; refine (within_any _ _).mono ?_; rintro _ w10 ⟨rfl, hw10⟩; rw [hw10, HI.out]; clear hw10 w10) | fail)
  go_loopw [45] (rdR nn n e0 p W.heap.size (w.heap.size + 1) w) (fun _ wr => (-p - 1 - eCell W.heap.size wr).toNat)
  case atStart =>
    refine ⟨0, by omega, ?_, hZ, hB⟩
    unfold Wd.cells
    simp only [Nat.pow_zero, Nat.div_one]
    rw [HNH.out, HNL.out, show e0 + ((0 : Nat) : Int) = e0 by omega]
    exact hQ
  case round =>
    clear hQ hZ hB x0 x1 x2 x3
    obtain ⟨j, hj, hQ, hZ, hB⟩ := hrel
    have hEC := eCell_row hQ
    have hml := hMl j
    have HMJ : Hid (n / 10 ^ (j + 1) = n / 10 ^ j / 10) := by show _ = _; rw [Nat.pow_succ, Nat.div_div_eq_div_mul]
    obtain ⟨m, hm⟩ : ∃ m, n / 10 ^ j = m := ⟨_, rfl⟩
    obtain ⟨f, hf⟩ : ∃ f, e0 + (j : Int) = f := ⟨_, rfl⟩
    rw [hm] at hml
    unfold Wd.cells at hQ
    simp only [hm, hf] at hQ hEC
    have hm1 : m / 18446744073709551616 = 0 := by omega
    have hm2 : m % 18446744073709551616 = m := by omega
    rw [hm1, hm2] at hQ
    have hQ : Row wr W.heap.size 59 #[.bool nn, .int .u64 0, .int .u64 (m : Int), .int .i64 f] := hQ
    have HM : Hid (n / 10 ^ j = m) := hm
    have HF : Hid (e0 + (j : Int) = f) := hf
    obtain ⟨a0, a1, a2, a3⟩ := hQ.four
    have z0 := hQ.frozen
    by_cases hlt : f < -p - 1
    · have hTn := tenth_any ⟨nn, m, f⟩ (by unfold M128; simp only; omega) (by simp only; omega) (by simp only; omega)
      simp only [Wd.val_eq] at hTn
      unfold Wd.cells at hTn
      simp only [hm1, hm2] at hTn
      obtain ⟨m', hm'⟩ : ∃ m', m / 10 = m' := ⟨_, rfl⟩
      obtain ⟨dg, hdg⟩ : ∃ dg, m % 10 = dg := ⟨_, rfl⟩
      rw [hm', hdg, show m' / 18446744073709551616 = 0 by omega, show m' % 18446744073709551616 = m' by omega] at hTn
      simp only [show ((0 : Nat) : Int) = 0 from rfl] at hTn
      have HM' : Hid (m / 10 = m') := hm'
      have hml' : m' ≤ 9223372036854775808 := by omega
      clear hm hf hm1 hm2 hm' hdg hTD HNH HNL
      go_wp2_with fail
      refine (hTn _).mono ?_
      rintro _ w2 ⟨rfl, h2⟩
      have hQ := hQ.below h2 hQ.lt
      have hZ := hZ.below h2 hZ.lt
      have hB := hB.trans (h2.mono hB.size)
      clear h2 hTn a0 a1 a2 a3 z0
      obtain ⟨a0, a1, a2, a3⟩ := hQ.four
      have z0 := hQ.frozen
      go_wp2
      have hfin : Row ((((w2.setCell ⟨W.heap.size, 0, none⟩ (.bool nn)).setCell ⟨W.heap.size, 1, none⟩ (.int .u64 0)).setCell ⟨W.heap.size, 2, none⟩ (.int .u64 (m' : Int))).setCell ⟨W.heap.size, 3, none⟩ (.int .i64 (f + 1))) W.heap.size 59 (Wd.cells ⟨nn, n / 10 ^ (j + 1), e0 + ((j + 1 : Nat) : Int)⟩) := by
        unfold Wd.cells
        simp only
        rw [HMJ.out, HM.out, HM'.out, show m' / 18446744073709551616 = 0 by omega, show m' % 18446744073709551616 = m' by omega, show e0 + ((j + 1 : Nat) : Int) = f + 1 by have := HF.out; omega]
        exact hQ.set4 _ _ _ _
      refine ⟨⟨j + 1, ?_, hfin, hZ.off4 hne _ _ _ _, below_set4 hB hle _ _ _ _⟩, ?_⟩
      · have := HF.out; omega
      · rw [eCell_row hfin, hEC]
        have := HF.out
        simp only
        omega
    · have hfe : f = -p - 1 := by omega
      have hTn := tenth_any ⟨nn, m + 5, f⟩ (by unfold M128; simp only; omega) (by simp only; omega) (by simp only; omega)
      simp only [Wd.val_eq] at hTn
      unfold Wd.cells at hTn
      simp only at hTn
      obtain ⟨m', hm'⟩ : ∃ m', (m + 5) / 10 = m' := ⟨_, rfl⟩
      obtain ⟨dg, hdg⟩ : ∃ dg, (m + 5) % 10 = dg := ⟨_, rfl⟩
      obtain ⟨m5, hm5⟩ : ∃ m5, m + 5 = m5 := ⟨_, rfl⟩
      rw [hm5] at hTn hm' hdg
      rw [hm', hdg, show m5 / 18446744073709551616 = 0 by omega, show m5 % 18446744073709551616 = m5 by omega, show m' / 18446744073709551616 = 0 by omega, show m' % 18446744073709551616 = m' by omega] at hTn
      simp only [show ((0 : Nat) : Int) = 0 from rfl] at hTn
      have hTe : (n / 10 ^ (-p - 1 - e0).toNat + 5) / 10 = m' := by
        rw [show (-p - 1 - e0).toNat = j by omega, hm, hm5, hm']
      rw [hTe, Wd.val_eq] at hTD
      unfold Wd.cells at hTD
      simp only at hTD
      rw [show m' / 18446744073709551616 = 0 by omega, show m' % 18446744073709551616 = m' by omega, show -p = f + 1 by omega, show ((0 : Nat) : Int) = 0 from rfl] at hTD
      have f5 : (m : Int) + 5 = (m5 : Int) := by omega
      have F5 : Hid ((m : Int) + 5 = (m5 : Int)) := f5
      have hm5b : m5 < 18446744073709551616 := by omega
      clear hm hf hm1 hm2 hm' hdg hTe f5 hm5 HNH HNL hfe
      go_wp2_with fail
      try rw [F5.out]
      have hQ := hQ.set 2 (.int .u64 (m5 : Int))
      have hQ : Row (wr.setCell ⟨W.heap.size, 2, none⟩ (.int .u64 (m5 : Int))) W.heap.size 59 #[.bool nn, .int .u64 0, .int .u64 (m5 : Int), .int .i64 f] := hQ
      have hZ := hZ.off (B' := W.heap.size) 2 (.int .u64 (m5 : Int)) hne
      have hB := below_set hB (B := W.heap.size) 2 (.int .u64 (m5 : Int)) hle
      refine (hTn _).mono ?_
      rintro _ w2 ⟨rfl, h2⟩
      have hQ := hQ.below h2 hQ.lt
      have hZ := hZ.below h2 hZ.lt
      have hB := hB.trans (h2.mono hB.size)
      clear h2 hTn a0 a1 a2 a3 z0
      obtain ⟨a0, a1, a2, a3⟩ := hQ.four
      have z0 := hQ.frozen
      have hQ := hQ.set4 (.bool nn) (.int .u64 0) (.int .u64 (m' : Int)) (.int .i64 (f + 1))
      have hZ := hZ.off4 (B' := W.heap.size) hne (.bool nn) (.int .u64 0) (.int .u64 (m' : Int)) (.int .i64 (f + 1))
      have hB := below_set4 hB (B' := W.heap.size) hle (.bool nn) (.int .u64 0) (.int .u64 (m' : Int)) (.int .i64 (f + 1))
      go_wp2_with fail
      refine (hTD _).mono ?_
      rintro _ w3 ⟨rfl, h3⟩
      have hZ := hZ.below h3 hZ.lt
      have hB := hB.trans (h3.mono hB.size)
      obtain ⟨d0, d1⟩ := hZ.duo
      have z := hZ.frozen
      clear h3 hTD a0 a1 a2 a3 z0
      go_wp2
      refine bodyPost_ret (ret_two rfl (g := w.heap.size + 1) rfl rfl (load23 (Row.set2 hZ _ _) rfl)) rfl ⟨rfl, ?_⟩
      repeat (refine below_set ?_ _ _ (by omega))
      exact hB
end Go.Proofs.YtfbhonjndepjbaaDoor
/- strconv.FormatUint at base 10. -/
namespace Go.Proofs.YtfbhonjndepjbaaDoor
open Go.RowKit Go.Shelf Go.Sort

attribute [local go_sem] Oper.semAt_some

theorem holds_zero0 (w : World) (T : TypeId) (nd : Nat) (hs : nd ≤ 24) : Holds (fun (b : UInt8) => Value.int .u8 (b.toNat : Int)) (w.alloc (.cells Lib.zeros24 T)) w.heap.size 0 (Array.replicate nd (0 : UInt8)) := fun j hj => by
  have hj' : j < nd := by simpa using hj
  refine ⟨?_, World.frozen?_alloc_new _ _ _ _⟩
  rw [World.cell?_alloc_new, Lib.zeros24_at _ (by omega), getElem!_pos _ j hj]
  simp
theorem fin_pos0 (w : World) (o : Obj) (dk : Array UInt8) (k : Nat) : ∃ os, (putRow (fun (b : UInt8) => Value.int .u8 (b.toNat : Int)) (w.alloc o) w.heap.size 0 dk).drewN k = grow (w.drewN k) os := by
  rw [alloc_eq_grow]
  obtain ⟨os', _, e⟩ := putRow_grow_new (fun (b : UInt8) => Value.int .u8 (b.toNat : Int)) w #[o] w.heap.size 0 dk (Nat.le_refl _)
  exact ⟨os', by rw [e]; rfl⟩
abbrev PTab (w : World) : Prop := Lib.TabIs Tryd.prog w "internal/strconv.uint64pow10" .u64 Lib.pow10Tab
theorem PTab.below {w w' : World} (h : PTab w) (hB : Below w.heap.size w w') : PTab w' := Lib.tabBelow_of_tabIs h w' hB
set_option maxRecDepth 100000 in
set_option maxHeartbeats 1000000 in
theorem fmtI_any (u : Nat) (hu : u < 18446744073709551616) (w : World) (htab : PTab w) : Calls Tryd.prog 105 #[.int .u64 u, .int .i64 10] w fun r w' => r = .returned (.string (bs (Lib.decDigits u))) ∧ Below w.heap.size w w' := by
  by_cases hs : u < 100
  · have h := Tryd.internal_strconv_small u hs
    have e1 : (u : Int) < 100 := by omega
    go_enter Tryd.func105, Tryd.ntmps105
    go_wp2_with (first | (go_at_call 114; refine (h _).mono ?_; rintro _ w1 ⟨rfl, hw1⟩; subst hw1) | go_in)
    go_ret
    exact ⟨rfl, Below.refl _ _⟩
  · have hu1 : 1 ≤ u := by omega
    have e1 : ¬ ((u : Int) < 100) := by omega
    have hnd20 : Lib.nDigits u ≤ 20 := by have := Lib.numDigits_eq u hu1 hu; split at this <;> omega
    have hb3 : Lib.nDigits u ≤ 24 := by omega
    have hal : Tryd.prog.arrayLen 128 = 24 := by kernel_rfl
    have hsl1 : ∀ W, (Instr.sliceAt 128 (.pointer (some ⟨w.heap.size, 0, none⟩)) none (some (.int .i64 (Lib.nDigits u : Int))) none).run Tryd.prog W = .ok (.slice (some ⟨w.heap.size, 0, none⟩) (Lib.nDigits u) 24) W := fun W => by
      rw [run_sliceAt_array_h W 128 ⟨w.heap.size, 0, none⟩ (by kernel_rfl) .i64 (Lib.nDigits u : Int) (by omega) (by rw [hal]; omega)]
      go_simp
    have hH0 := holds_zero0 w 128 (Lib.nDigits u) (by omega)
    have hfmt := Tryd.internal_strconv_formatBase10 w.heap.size 0 24 u (Array.replicate (Lib.nDigits u) 0) (w.alloc (.cells Lib.zeros24 128)) hH0 (by rw [Array.size_replicate]; exact Lib.lt_pow_nDigits u) hu (by rw [Array.size_replicate]; omega)
    rw [Array.size_replicate] at hfmt
    have HH0 := Lib.hid hH0
    have hnum := Tryd.internal_strconv_numDigits u hu1 hu (w.alloc (.cells Lib.zeros24 128)) (Lib.tabIs_alloc htab _)
    clear hH0 hal
    go_enter Tryd.func105, Tryd.ntmps105
    go_wp2_with (first
      | (go_at_call 115; refine hnum.mono ?_; rintro e w' ⟨rfl, rfl⟩))
    go_at_call 116
    refine hfmt.mono ?_
    rintro e w' ⟨rfl, k, v', dk, rfl, hF⟩
    have hcv : (convert 86 9 (.slice (some ⟨w.heap.size, 0, none⟩) (Lib.nDigits u) 24)).run Tryd.prog ((putRow (fun (b : UInt8) => Value.int .u8 (b.toNat : Int)) (w.alloc (.cells Lib.zeros24 128)) w.heap.size 0 dk).drewN k) = .ok (.string ⟨(Lib.decDigits u).toArray⟩) ((putRow (fun (b : UInt8) => Value.int .u8 (b.toNat : Int)) (w.alloc (.cells Lib.zeros24 128)) w.heap.size 0 dk).drewN k) := by
      have h := run_convert_bytes_back (P := Tryd.prog) ((putRow (fun (b : UInt8) => Value.int .u8 (b.toNat : Int)) (w.alloc (.cells Lib.zeros24 128)) w.heap.size 0 dk).drewN k) 86 9 5 ⟨w.heap.size, 0, none⟩ 24 (Lib.decDigits u) Tryd.underlying86 Tryd.underlying5 Tryd.underlying9 (fun j hj => by
        rw [Lib.row_is_numeral hF j hj, Lib.add_plain, World.cell?_drewN]
        exact cell?_putRow (fun (b : UInt8) => Value.int .u8 (b.toNat : Int)) _ w.heap.size 0 _ dk HH0.out (by rw [hF.size, Array.size_replicate]) j (by rw [hF.size]; rw [Lib.decDigits_length] at hj; exact hj))
      rw [Lib.decDigits_length] at h
      exact h
    have hB : Below w.heap.size w ((putRow (fun (b : UInt8) => Value.int .u8 (b.toNat : Int)) (w.alloc (.cells Lib.zeros24 128)) w.heap.size 0 dk).drewN k) := by
      obtain ⟨os, eo⟩ := fin_pos0 w (.cells Lib.zeros24 128) dk k
      rw [eo]; exact Lib.below_grow _ _ (Nat.le_refl _) _ _
    go_wp2
    go_ret
    exact ⟨rfl, hB⟩
set_option maxRecDepth 100000 in
set_option maxHeartbeats 400000 in
theorem fmt_any (u : Nat) (hu : u < 18446744073709551616) (w : World) (htab : PTab w) : Calls Tryd.prog 96 #[.int .u64 u, .int .i64 10] w fun r w' => r = .returned (.string (bs (Lib.decDigits u))) ∧ Below w.heap.size w w' := by
  have H : Hid _ := fmtI_any u hu w htab
  go_enter Tryd.func96, Tryd.ntmps96
  go_wp2_with fail
  refine Calls.mono H.out ?_
  rintro _ w1 ⟨rfl, hB⟩
  go_wp2
  go_ret
  exact ⟨rfl, hB⟩
end Go.Proofs.YtfbhonjndepjbaaDoor
/- The digits of any number, one by one. -/
namespace Go.Proofs.YtfbhonjndepjbaaDoor
open Go.RowKit Go.Shelf

attribute [local go_sem] Oper.semAt_some

def Pl : Int → List UInt8 → List (Int × Int)
  | _, [] => []
  | t, a :: r => (t, (a.toNat : Int)) :: Pl (t - 1) r
theorem Pl_get : ∀ (l : List UInt8) (t : Int) (k : Nat) (h : k < l.length), (Pl t l)[k]? = some (t - (k : Int), (l[k].toNat : Int))
  | [], _, k, h => by simp at h
  | a :: r, t, 0, _ => by simp [Pl]
  | a :: r, t, k + 1, h => by
    have := Pl_get r (t - 1) k (by simpa using h)
    simp only [Pl, List.getElem?_cons_succ, this, List.getElem_cons_succ]
    congr 2
    omega
theorem Pl_length : ∀ (l : List UInt8) (t : Int), (Pl t l).length = l.length
  | [], _ => rfl
  | _ :: r, t => by simp [Pl, Pl_length r]
theorem Pl_snoc (l : List UInt8) (t : Int) (k : Nat) (h : k < l.length) : (Pl t l).take (k + 1) = (Pl t l).take k ++ [(t - (k : Int), (l[k].toNat : Int))] := by
  rw [List.take_add_one, Pl_get l t k h]; rfl
def encW (x : Int × Int) : Array Value := #[.int .i64 x.1, .int .u8 x.2]
def boxW (y : Wd) : Array Value := #[.bool y.neg, .int .u64 0, .int .u64 (y.n : Int), .int .i64 y.e]
def digsW (y : Wd) : List (Int × Int) := Pl (topP y.n y.e) (dlist y.n y.e)
set_option maxRecDepth 100000 in
set_option maxHeartbeats 4000000 in
theorem wdigits_in (n : Nat) (hn : 3 ≤ n) (DB : Nat) (y : Wd) (hb : y.n ≤ 9223372036854775808) (he : -18 ≤ y.e ∧ y.e ≤ 18) (w : World) (hDB : Row w DB 59 (boxW y)) (htab : PTab w) :
    SeqOwn Fence.wide n Tryd.prog 95 #[.pointer (some ⟨DB, 0, none⟩)] encW (fun _ => False) (fun k => k = DB) (fun pre x => ∃ k, k < (digsW y).length ∧ pre = (digsW y).take k ∧ (digsW y)[k]? = some x) (fun xs => xs = digsW y) w := by
  intro l J W hW hJ hO hY ⟨own0, h0⟩
  have hR0 : Row W DB 59 (boxW y) := hDB.below hW hDB.lt
  have hfm := fmt_any y.n (by omega) W (htab.below hW)
  obtain ⟨ng, m, e⟩ := y
  unfold boxW at hR0
  simp only at hR0 hb he hfm
  have hd1 := dec_len m (by omega)
  have hat := fun j hj => dlist_at m e j hj hd1.1
  have hln := dlist_len m e hd1.1
  obtain ⟨t1, t2⟩ := topP_spec m e
  simp only [digsW] at hY ⊢
  generalize topP m e = t at *
  generalize dlist m e = dl at *
  generalize Lib.decDigits m = D at *
  have hsz : (bs D).size = D.length := bs_size D
  obtain ⟨f, hf⟩ : ∃ f : Int, e + ((bs D).size : Int) - 1 = f := ⟨_, rfl⟩
  have hf2 : e + (D.length : Int) - 1 = f := by rw [← hsz]; exact hf
  have hL1 : (1 : Int) ≤ ((bs D).size : Int) := by omega
  have hL2 : ((bs D).size : Int) ≤ 20 := by omega
  have HAT : Hid (∀ (j : Nat) (hj : j < dl.length), dl[j] = if t - (j : Int) ≤ f ∧ e ≤ t - (j : Int) then D.getD (f - (t - (j : Int))).toNat 48 else 48) := by
    intro j hj; rw [hat j hj, hf2]
  have HT : Hid ((f < 0 → t = 0) ∧ (0 ≤ f → t = f)) := by
    rw [hf2] at t1 t2
    exact ⟨t1, t2⟩
  obtain ⟨mn, hmn⟩ : ∃ mn : Int, (if e < 0 then e else 0) = mn := ⟨_, rfl⟩
  rw [hmn] at hln
  have HLN : Hid ((dl.length : Int) = t - mn + 1) := hln
  have HMN : Hid ((e < 0 → mn = e) ∧ (0 ≤ e → mn = 0)) := by
    rw [← hmn]
    exact ⟨fun h => if_pos h, fun h => if_neg (by omega)⟩
  have b1 : -18 ≤ e := he.1
  have b2 : e ≤ 18 := he.2
  have b3 : -18 ≤ f := by omega
  have b4 : f ≤ 37 := by omega
  have HSZ : Hid ((bs D).size = D.length) := hsz
  have HF : Hid (e + ((bs D).size : Int) - 1 = f) := hf
  clear t1 t2 hat hln hmn he hd1 hf2 hDB hsz
  obtain ⟨c0, c1, c2, c3⟩ := Row.four hR0
  refine callsIn_of_wp Tryd.func95 rfl trivial ?_ rfl
  simp only [Tryd.ntmps95, List.size_toArray, List.length_cons, List.length_nil, Nat.reduceAdd, Nat.reduceSub, Array.replicate_succ, Array.replicate_zero, List.push_toArray, List.append_toArray, List.nil_append, List.cons_append]
  gi_wp2_with fail
  refine ⟨trivial, fun _ => by omega, (callsIn_wide.2 hfm).mono ?_⟩
  rintro _ w1 ⟨rfl, hB1⟩
  have hR1 := hR0.below hB1 hR0.lt
  have hJ1 := hJ _ _ _ w1 h0 (Kept.of_below hB1 (fun k hk => hk.1))
  clear hfm hB1 hR0 c0 c1 c2 c3 h0 hW htab hb
  obtain ⟨c0, c1, c2, c3⟩ := Row.four hR1
  have hfe : e ≤ f := by have := HF.out; omega
  gi_wp2
  clear hf
  gi_loopw [5] (fun v wr => ∃ (k : Nat) (q : Int), k ≤ dl.length ∧ v = .int .i64 q ∧ Hid (q = t - (k : Int)) ∧ ∃ own, J ((Pl t dl).take k) own wr ∧ Row wr DB 59 #[.bool ng, .int .u64 0, .int .u64 (m : Int), .int .i64 e]) (fun v _ => ((intOf v) + 20).toNat)
  case atStart => exact ⟨0, t, Nat.zero_le _, by have := HT.out; congr 1; omega, by show t = _; simp, own0, by simpa using hJ1, hR1⟩
  case round =>
    obtain ⟨k, q, hk, rfl, HQ, own, hJs, hRw⟩ := hrel
    clear c0 c1 c2 c3 hR1 hJ1
    obtain ⟨c0, c1, c2, c3⟩ := Row.four hRw
    have hq0 := HQ.out
    have hl0 := HLN.out
    have hm0 := HMN.out
    have ht0 := HT.out
    have b5 : -19 ≤ q := by omega
    have b6 : q ≤ 37 := by omega
    have HQ2 : Hid (q - 1 = t - ((k + 1 : Nat) : Int)) := by show _ = _; omega
    by_cases hlt : k < dl.length
    · have g9 : min e 0 ≤ q := by omega
      by_cases hA : q ≤ f ∧ e ≤ q
      · have hi2 : (f - q).toNat < (bs D).size := by have := HF.out; omega
        have HDIG : Hid ((dl[k].toNat : Int) = (((bs D)[(f - q).toNat]'hi2).toNat : Int)) := by
          show (dl[k].toNat : Int) = _
          rw [HAT.out k hlt, if_pos (by omega), show (f - (t - (k : Int))).toNat = (f - q).toNat by omega, List.getD_eq_getElem?_getD, List.getElem?_eq_getElem (by rw [HSZ.out] at hi2; exact hi2)]
          rfl
        obtain ⟨g1, g2⟩ := hA
        have g3 : (0 : Int) ≤ f - q := by omega
        have g4 : f - q < ((bs D).size : Int) := by have := HF.out; omega
        have HSN : Hid ((Pl t dl).take (k + 1) = (Pl t dl).take k ++ [(q, (((bs D)[(f - q).toNat]'hi2).toNat : Int))]) := by show _ = _; rw [Pl_snoc dl t k hlt, HDIG.out, ← HQ.out]
        obtain ⟨fn, tmps, assign, body, hy, hR⟩ := hY _ (q, (((bs D)[(f - q).toNat]'hi2).toNat : Int)) own wr hJs ⟨k, by rw [Pl_length]; exact hlt, rfl, by rw [Pl_get dl t k hlt, HDIG.out, ← HQ.out]⟩
        simp only [encW] at hy
        clear hY hq0 hl0 hm0 ht0
        gi_wp2
        refine ⟨fun _ => by omega, hR.mono ?_⟩
        rintro _ W3 ⟨rfl, ⟨own', hJ3⟩, hk3⟩
        have hB3 := hRw.kept hk3 ⟨hRw.lt, fun ho => (hO _ _ _ _ hJs ho).2 rfl⟩
        have HJ3 : Hid (J ((Pl t dl).take (k + 1)) own' W3) := by show J _ _ _; rw [HSN.out]; exact hJ3
        clear hJ3 hR hy
        gi_wp2
        go_roundw
        case rel => exact ⟨k + 1, q - 1, hlt, by go_num, HQ2, own', HJ3.out, hB3⟩
        case measure => simp [intOf]; omega
      · by_cases hB : ¬ q ≤ f
        · have HDIG : Hid ((dl[k].toNat : Int) = 48) := by
            show (dl[k].toNat : Int) = 48
            rw [HAT.out k hlt, if_neg (by omega)]
            rfl
          have g1 : decide (q ≤ f) = false := decide_eq_false hB
          clear hA
          have HSN : Hid ((Pl t dl).take (k + 1) = (Pl t dl).take k ++ [(q, 48)]) := by show _ = _; rw [Pl_snoc dl t k hlt, HDIG.out, ← HQ.out]
          obtain ⟨fn, tmps, assign, body, hy, hR⟩ := hY _ (q, 48) own wr hJs ⟨k, by rw [Pl_length]; exact hlt, rfl, by rw [Pl_get dl t k hlt, HDIG.out, ← HQ.out]⟩
          simp only [encW] at hy
          clear hY hq0 hl0 hm0 ht0
          gi_wp2
          refine ⟨fun _ => by omega, hR.mono ?_⟩
          rintro _ W3 ⟨rfl, ⟨own', hJ3⟩, hk3⟩
          have hB3 := hRw.kept hk3 ⟨hRw.lt, fun ho => (hO _ _ _ _ hJs ho).2 rfl⟩
          have HJ3 : Hid (J ((Pl t dl).take (k + 1)) own' W3) := by show J _ _ _; rw [HSN.out]; exact hJ3
          clear hJ3 hR hy
          gi_wp2
          go_roundw
          case rel => exact ⟨k + 1, q - 1, hlt, by go_num, HQ2, own', HJ3.out, hB3⟩
          case measure => simp [intOf]; omega
        · have HDIG : Hid ((dl[k].toNat : Int) = 48) := by
            show (dl[k].toNat : Int) = 48
            rw [HAT.out k hlt, if_neg (by omega)]
            rfl
          have g1 : q ≤ f := by omega
          have g2 : decide (e ≤ q) = false := decide_eq_false (by omega)
          clear hA hB
          have HSN : Hid ((Pl t dl).take (k + 1) = (Pl t dl).take k ++ [(q, 48)]) := by show _ = _; rw [Pl_snoc dl t k hlt, HDIG.out, ← HQ.out]
          obtain ⟨fn, tmps, assign, body, hy, hR⟩ := hY _ (q, 48) own wr hJs ⟨k, by rw [Pl_length]; exact hlt, rfl, by rw [Pl_get dl t k hlt, HDIG.out, ← HQ.out]⟩
          simp only [encW] at hy
          clear hY hq0 hl0 hm0 ht0
          gi_wp2
          refine ⟨fun _ => by omega, hR.mono ?_⟩
          rintro _ W3 ⟨rfl, ⟨own', hJ3⟩, hk3⟩
          have hB3 := hRw.kept hk3 ⟨hRw.lt, fun ho => (hO _ _ _ _ hJs ho).2 rfl⟩
          have HJ3 : Hid (J ((Pl t dl).take (k + 1)) own' W3) := by show J _ _ _; rw [HSN.out]; exact hJ3
          clear hJ3 hR hy
          gi_wp2
          go_roundw
          case rel => exact ⟨k + 1, q - 1, hlt, by go_num, HQ2, own', HJ3.out, hB3⟩
          case measure => simp [intOf]; omega
    · have HE : Hid ((Pl t dl).take k = Pl t dl) := by show _ = _; rw [List.take_of_length_le (by rw [Pl_length]; omega)]
      have g1 : decide (min e 0 ≤ q) = false := decide_eq_false (by omega)
      have HJ3 : Hid (J (Pl t dl) own wr) := by show J _ _ _; rw [← HE.out]; exact hJs
      clear hY hq0 hl0 hm0 ht0
      gi_wp2
      go_end0
      exact ⟨⟨_, rfl⟩, _, own, rfl, HJ3.out⟩
end Go.Proofs.YtfbhonjndepjbaaDoor
