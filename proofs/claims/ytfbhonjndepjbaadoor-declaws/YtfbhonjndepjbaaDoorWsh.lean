/- short: a number without the noughts at its end. -/
import Derived.Test.YtfbhonjndepjbaaDoorWlo
namespace Go.Proofs.YtfbhonjndepjbaaDoor
open Go.RowKit

def shR (neg : Bool) (n : Nat) (e : Int) (B0 B1 : Nat) (w0 : World) (_ : Value) (wr : World) : Prop :=
  ∃ y : Wd, y.neg = neg ∧ strip y.n y.e = strip n e ∧ y.n ≠ 0 ∧ y.n < M128 ∧ e ≤ y.e ∧ (y.e = e ∨ y.e ≤ 18) ∧ Row wr B0 59 y.cells ∧ Row wr B1 59 zeroCells ∧ Below w0.heap.size w0 wr
theorem zero_W (x : Wd) (w : World) : Calls Tryd.prog 61 #[x.val] w fun r w' => r = .returned (.bool (decide (x.n = 0))) ∧ Below w.heap.size w w' := by
  refine (zero_any x.neg (x.n / 18446744073709551616) (x.n % 18446744073709551616) x.e w).mono ?_
  rintro r w' ⟨rfl, hB⟩
  refine ⟨?_, hB⟩
  congr 2
  rw [decide_eq_decide]
  omega
set_option maxRecDepth 100000 in
set_option maxHeartbeats 800000 in
theorem short_any (x : Wd) (h : x.n < M128) (he : x.e ≤ 9223372036854775807) (he0 : -9223372036854775808 ≤ x.e) (w : World) :
    Calls Tryd.prog 82 #[x.val] w fun r w' => r = .returned (shortW x).val ∧ Below w.heap.size w w' := by
  have hz := zero_W x
  obtain ⟨neg, n, e⟩ := x
  simp only at h he he0 hz
  simp only [Wd.val_eq] at hz ⊢
  unfold Wd.cells at hz
  simp only at hz
  rw [show (Wd.mk neg n e).cells = #[.bool neg, .int .u64 ((n / 18446744073709551616 : Nat) : Int), .int .u64 ((n % 18446744073709551616 : Nat) : Int), .int .i64 e] from rfl]
  obtain ⟨hi, hhi⟩ : ∃ hi, n / 18446744073709551616 = hi := ⟨_, rfl⟩
  obtain ⟨lo, hlo⟩ : ∃ lo, n % 18446744073709551616 = lo := ⟨_, rfl⟩
  rw [hhi, hlo] at hz ⊢
  have HHI : Hid (n / 18446744073709551616 = hi) := hhi
  have HLO : Hid (n % 18446744073709551616 = lo) := hlo
  clear hhi hlo
  by_cases hn : n = 0
  · have HF : Hid ((shortW ⟨neg, n, e⟩).cells = #[.bool false, .int .u64 0, .int .u64 0, .int .i64 0]) := by
      show _ = _
      unfold shortW; rw [if_pos hn]; rfl
    rw [decide_eq_true hn] at hz
    rw [HF.out]
    clear hn HHI HLO
    go_enter Tryd.func82, Tryd.ntmps82
    go_wp2_with fail
    refine (hz _).mono ?_
    rintro _ w1 ⟨rfl, hB⟩
    obtain ⟨hA, hZ, hB⟩ := two_rows w w1 _ _ _ _ hB
    obtain ⟨d0, d1, d2, d3⟩ := hZ.four
    have z1 := hZ.frozen
    go_wp2
    refine bodyPost_ret (ret_one rfl (g := w.heap.size + 1) rfl (load57 (Row.set4 hZ _ _ _ _) rfl)) rfl ⟨rfl, ?_⟩
    repeat (refine below_set ?_ _ _ (by omega))
    exact hB
  · have HF : Hid ((shortW ⟨neg, n, e⟩).cells = Wd.cells ⟨neg, (strip n e).1, (strip n e).2⟩) := by
      show _ = _
      unfold shortW; rw [if_neg hn]
    rw [decide_eq_false hn] at hz
    have HN : Hid (n ≠ 0) := hn
    clear hn
    go_enter Tryd.func82, Tryd.ntmps82
    go_wp2_with fail
    refine (hz _).mono ?_
    rintro _ w1 ⟨rfl, hB⟩
    obtain ⟨hA, hZ, hB⟩ := two_rows w w1 _ _ _ _ hB
    clear hz
    go_wp2_with fail
    go_loopw [4] (shR neg n e w.heap.size (w.heap.size + 1) w) (fun _ wr => (18 - eCell w.heap.size wr).toNat)
    case atStart =>
      refine ⟨⟨neg, n, e⟩, rfl, rfl, HN.out, h, Int.le_refl _, Or.inl rfl, ?_, hZ, hB⟩
      unfold Wd.cells
      simp only
      rw [HHI.out, HLO.out]
      exact hA
    case round =>
      obtain ⟨⟨neg', m, f⟩, rfl, hS, hm0, hmM, hle, hf, hA, hZ, hB⟩ := hrel
      simp only at hS hm0 hmM hle hf
      obtain ⟨a0, a1, a2, a3⟩ := hA.four
      obtain ⟨d0, d1, d2, d3⟩ := hZ.four
      have z0 := hA.frozen; have z1 := hZ.frozen
      have hEC := eCell_row hA
      have hne : w.heap.size ≠ w.heap.size + 1 := by omega
      have hT := tenth_any ⟨neg', m, f⟩ hmM
      simp only [Wd.val_eq] at hT
      unfold Wd.cells at hT hA
      simp only at hT hA a0 a1 a2 a3 hEC
      obtain ⟨hi', hhi⟩ : ∃ hi, m / 18446744073709551616 = hi := ⟨_, rfl⟩
      obtain ⟨lo', hlo⟩ : ∃ lo, m % 18446744073709551616 = lo := ⟨_, rfl⟩
      have hhi' : Hid (m / 18446744073709551616 = hi') := hhi
      have hlo' : Hid (m % 18446744073709551616 = lo') := hlo
      rw [hhi, hlo] at hT hA
      rw [hhi] at a1
      rw [hlo] at a2
      clear hhi hlo
      by_cases hlt : f < 18
      · have hT := hT (by omega) (by omega)
        obtain ⟨m', hm'⟩ : ∃ m', m / 10 = m' := ⟨_, rfl⟩
        obtain ⟨dg, hdg⟩ : ∃ dg, m % 10 = dg := ⟨_, rfl⟩
        rw [hm', hdg] at hT
        obtain ⟨H, hH⟩ : ∃ H, m' / 18446744073709551616 = H := ⟨_, rfl⟩
        obtain ⟨L, hL⟩ : ∃ L, m' % 18446744073709551616 = L := ⟨_, rfl⟩
        rw [hH, hL] at hT
        obtain ⟨f', hf'⟩ : ∃ f', f + 1 = f' := ⟨_, rfl⟩
        rw [hf'] at hT
        have hH' : Hid (m' / 18446744073709551616 = H) := hH
        have hL' : Hid (m' % 18446744073709551616 = L) := hL
        have hM' : Hid (m / 10 = m') := hm'
        have hD' : Hid (m % 10 = dg) := hdg
        have hF' : Hid (f + 1 = f') := hf'
        have hMM : Hid (m ≠ 0 ∧ m < M128) := ⟨hm0, hmM⟩
        have hSS : Hid (strip m f = strip n e) := hS
        have hlf : Hid (e ≤ f ∧ (f = e ∨ f ≤ 18)) := ⟨hle, hf⟩
        have hbz : ∀ W, Below wr.heap.size wr W → Row W w.heap.size 59 #[.bool neg', .int .u64 (hi' : Int), .int .u64 (lo' : Int), .int .i64 f] ∧ Row W (w.heap.size + 1) 59 zeroCells ∧ Below w.heap.size w W := fun W hW =>
          ⟨hA.below hW hA.lt, hZ.below hW hZ.lt, hB.trans (hW.mono (by have := hZ.lt; omega))⟩
        clear hH hL hm' hdg hf' hm0 hmM hS hle hf he he0 h HHI HLO
        by_cases hd0 : dg = 0
        · subst hd0
          go_wp2_with fail
          refine (hT _).mono ?_
          rintro _ w2 ⟨rfl, hB2⟩
          obtain ⟨hA2, hZ2, hB3⟩ := hbz w2 hB2
          have hlt2 : w.heap.size < w2.heap.size := hA2.lt
          have z3 := hA2.frozen
          obtain ⟨g0, g1, g2, g3⟩ := hA2.four
          clear a0 a1 a2 a3 d0 d1 d2 d3 z0 z1 hT
          go_wp2
          have hfin : Row (((((w2.setCell ⟨w.heap.size, 0, none⟩ (.bool neg')).setCell ⟨w.heap.size, 1, none⟩ (.int .u64 (H : Int))).setCell ⟨w.heap.size, 2, none⟩ (.int .u64 (L : Int))).setCell ⟨w.heap.size, 3, none⟩ (.int .i64 f')).alloc (.cells #[.bool neg', .int .u64 (H : Int), .int .u64 (L : Int), .int .i64 f'] 59)) w.heap.size 59 (Wd.cells ⟨neg', m', f'⟩) := by
            unfold Wd.cells
            simp only
            rw [hH'.out, hL'.out]
            exact (hA2.set4 _ _ _ _).alloc _
          have q1 := hMM.out
          have q2 := hM'.out
          have q3 := hD'.out
          have q4 := hF'.out
          have q5 := hlf.out
          refine ⟨⟨⟨neg', m', f'⟩, rfl, ?_, ?_, ?_, ?_, ?_, hfin, ?_, ?_⟩, ?_⟩
          · simp only
            rw [← hSS.out, ← q2, ← q4, ← strip_go m f (by omega)]
          · simp only; omega
          · simp only; omega
          · simp only; omega
          · simp only; omega
          · exact ((((hZ2.off _ _ (Ne.symm hne)).off _ _ (Ne.symm hne)).off _ _ (Ne.symm hne)).off _ _ (Ne.symm hne)).alloc _
          · refine Below.alloc ?_ (by simp [World.setCell]; omega) _
            repeat (refine below_set ?_ _ _ (Nat.le_refl _))
            exact hB3
          · rw [eCell_row hfin, hEC]
            simp only
            omega
        · have hd1 : ((dg : Int) != 0) = true := by simp; omega
          have HST : Hid (strip n e = (m, f)) := by
            show _ = _
            rw [← hSS.out]
            exact strip_fix m f (Or.inl (by rw [hD'.out]; exact hd0))
          clear hd0
          go_wp2_with fail
          refine (hT _).mono ?_
          rintro _ w2 ⟨rfl, hB2⟩
          obtain ⟨hA2, hZ2, hB3⟩ := hbz w2 hB2
          have hlt2 : w.heap.size < w2.heap.size := hA2.lt
          have hlt3 : w.heap.size + 1 < w2.heap.size := hZ2.lt
          have z3 := hZ2.frozen
          obtain ⟨g0, g1, g2, g3⟩ := hA2.four
          obtain ⟨k0, k1, k2, k3⟩ := hZ2.four
          clear a0 a1 a2 a3 d0 d1 d2 d3 z0 z1 hT
          go_wp2
          refine bodyPost_ret (ret_one rfl (g := w.heap.size + 1) rfl (load57 ((Row.set4 hZ2 _ _ _ _).alloc _) rfl)) rfl ⟨?_, ?_⟩
          · rw [HF.out, HST.out]
            unfold Wd.cells
            simp only
            rw [hhi'.out, hlo'.out]
          · refine Below.alloc ?_ (by simp [World.setCell]; omega) _
            repeat (refine below_set ?_ _ _ (by omega))
            exact hB3
      · have HST : Hid (strip n e = (m, f)) := by
          show _ = _
          rw [← hS]
          exact strip_fix m f (Or.inr (by omega))
        clear hT hS hm0 hmM hle hf he he0 h HHI HLO hEC
        go_wp2
        refine bodyPost_ret (ret_one rfl (g := w.heap.size + 1) rfl (load57 (Row.set4 hZ _ _ _ _) rfl)) rfl ⟨?_, ?_⟩
        · rw [HF.out, HST.out]
          unfold Wd.cells
          simp only
          rw [hhi'.out, hlo'.out]
        · repeat (refine below_set ?_ _ _ (by omega))
          exact hB
end Go.Proofs.YtfbhonjndepjbaaDoor
