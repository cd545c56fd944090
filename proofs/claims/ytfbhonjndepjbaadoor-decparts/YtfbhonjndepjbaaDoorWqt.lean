import Derived.Test.YtfbhonjndepjbaaDoorWsuM
/- quotient. -/
namespace Go.Proofs.YtfbhonjndepjbaaDoor
open Go.RowKit

def quR (neg : Bool) (by0 n0 : Nat) (e0 : Int) (QB B2 : Nat) (w0 : World) (v7 v9 : Value) (wr : World) : Prop :=
  (∃ (by' n k : Nat), v7 = .int .u64 (by' : Int) ∧ v9 = .bool true ∧ 1 ≤ by' ∧ by' * 2 ^ k ≤ by0 ∧ n < M128 ∧ Hid (quotL by' n (e0 - k) = quotL by0 n0 e0) ∧ Row wr QB 59 (Wd.cells ⟨neg, n, e0 - k⟩) ∧ Row wr B2 59 zeroCells ∧ Below w0.heap.size w0 wr) ∨
  (∃ by' : Nat, v7 = .int .u64 (by' : Int) ∧ v9 = .bool false ∧ quotL by0 n0 e0 = none ∧ Row wr QB 59 (Wd.cells ⟨false, 0, -1⟩) ∧ Row wr B2 59 zeroCells ∧ Below w0.heap.size w0 wr)
theorem pow_small {by' k by0 : Nat} (h1 : 1 ≤ by') (h : by' * 2 ^ k ≤ by0) (hb : by0 < 18446744073709551616) : k < 64 := by
  apply Nat.lt_of_not_le
  intro hk
  have h2 : 2 ^ 64 ≤ 2 ^ k := Nat.pow_le_pow_right (by omega) hk
  have h3 : 1 * 2 ^ k ≤ by' * 2 ^ k := Nat.mul_le_mul_right _ h1
  omega
theorem pow_step {by' k by0 d : Nat} (hd : 2 ≤ d) (h : by' * 2 ^ k ≤ by0) : by' / d * 2 ^ (k + 1) ≤ by0 := by
  have h1 : by' / d * 2 ≤ by' := Nat.le_trans (Nat.mul_le_mul_left _ hd) (Nat.div_mul_le_self _ _)
  have h2 : by' / d * 2 * 2 ^ k ≤ by' * 2 ^ k := Nat.mul_le_mul_right _ h1
  rw [Nat.pow_succ, Nat.mul_comm (2 ^ k) 2, ← Nat.mul_assoc]
  omega
set_option maxRecDepth 100000 in
set_option maxHeartbeats 1500000 in
theorem quot_raw (an bn : Bool) (ah al bh bl g b1 n1 : Nat) (ae be e1 : Int) (hd : ∀ w, Calls Tryd.prog 85 #[.int .u64 (al : Int), .int .u64 (bl : Int)] w fun r w' => r = .returned (.int .u64 (g : Int)) ∧ w' = w)
    (hg : g ≠ 0) (f1 : IntKind.u64.wrap ((bl : Int) / (g : Int)) = (b1 : Int)) (f2 : IntKind.u64.wrap ((al : Int) / (g : Int)) = (n1 : Int)) (f3 : IntKind.i64.wrap (ae - be) = e1) (hb1 : 1 ≤ b1) (hb2 : b1 < 18446744073709551616) (hn1 : n1 < 18446744073709551616)
    (he1 : -100000 ≤ e1 ∧ e1 ≤ 100000) (w : World) :
    Calls Tryd.prog 56 #[wv an ah al ae, wv bn bh bl be] w fun r w' => WayR ((quotL b1 n1 e1).map fun p => ⟨an != bn, p.1, p.2⟩) r ∧ Below w.heap.size w w' := by
  have hg0 : ((g : Int) == 0) = false := by simp; omega
  have hg1 : ¬ (g : Int) = 0 := by omega
  have hg2 : ¬ g = 0 := hg
  have F1 : Hid (IntKind.u64.wrap ((bl : Int) / (g : Int)) = (b1 : Int)) := f1
  have F2 : Hid (IntKind.u64.wrap ((al : Int) / (g : Int)) = (n1 : Int)) := f2
  have F3 : Hid (IntKind.i64.wrap (ae - be) = e1) := f3
  clear f1 f2 f3 hg
  unfold wv
  go_enter Tryd.func56, Tryd.ntmps56
  go_wp2_with fail
  refine (hd _).mono ?_
  rintro _ w1 ⟨rfl, hw1⟩
  rw [hw1]
  clear hw1 w1 hd
  obtain ⟨hA, hC, hZ, hB⟩ := three_rows w _ _ _ _ 59 59 59 (Below.refl _ (((w.alloc (.cells #[.bool an, .int .u64 (ah : Int), .int .u64 (al : Int), .int .i64 ae] 59)).alloc (.cells #[.bool bn, .int .u64 (bh : Int), .int .u64 (bl : Int), .int .i64 be] 59)).alloc (.cells #[.bool false, .int .u64 0, .int .u64 0, .int .i64 0] 59)))
  generalize (((w.alloc (.cells #[.bool an, .int .u64 (ah : Int), .int .u64 (al : Int), .int .i64 ae] 59)).alloc (.cells #[.bool bn, .int .u64 (bh : Int), .int .u64 (bl : Int), .int .i64 be] 59)).alloc (.cells #[.bool false, .int .u64 0, .int .u64 0, .int .i64 0] 59)) = W at *
  obtain ⟨a0, a1, a2, a3⟩ := hA.four
  obtain ⟨c0, c1, c2, c3⟩ := hC.four
  go_wp2_with fail
  rw [F1.out]
  have hS0 : Below W.heap.size W W.drew := (Below.refl _ W).drew
  refine wp_region_M (fun wx : World => Below W.heap.size W wx) (fun j => decide (j < 16)) 18 rfl (by kernel_rfl) ?_
  refine wpM_held 0 (v := ?_) rfl (by kernel_rfl) (by kernel_rfl) rfl (fun _ _ _ h => h) rfl (by intro wx hx; go_simp <;> rfl) hS0 ?_
  refine wpM_held 1 (v := .bool an) rfl (by kernel_rfl) (by kernel_rfl) rfl (fun _ _ _ h => h) rfl (by intro wx hx; obtain ⟨x0, x1, x2, x3⟩ := (hA.below hx hA.lt).four; go_simp <;> rfl) hS0 ?_
  refine wpM_held 2 (v := ?_) rfl (by kernel_rfl) (by kernel_rfl) rfl (fun _ _ _ h => h) rfl (by intro wx hx; go_simp <;> rfl) hS0 ?_
  refine wpM_held 3 (v := .bool bn) rfl (by kernel_rfl) (by kernel_rfl) rfl (fun _ _ _ h => h) rfl (by intro wx hx; obtain ⟨x0, x1, x2, x3⟩ := (hC.below hx hC.lt).four; go_simp <;> rfl) hS0 ?_
  refine wpM_held 4 (v := .bool (an != bn)) rfl (by kernel_rfl) (by kernel_rfl) rfl (fun _ _ _ h => h) rfl (by intro wx hx; go_simp <;> (cases an <;> cases bn <;> rfl)) hS0 ?_
  refine wpM_held 5 (v := ?_) rfl (by kernel_rfl) (by kernel_rfl) rfl (fun _ _ _ h => h) rfl (by intro wx hx; go_simp <;> rfl) hS0 ?_
  refine wpM_held 6 (v := .int .u64 (al : Int)) rfl (by kernel_rfl) (by kernel_rfl) rfl (fun _ _ _ h => h) rfl (by intro wx hx; obtain ⟨x0, x1, x2, x3⟩ := (hA.below hx hA.lt).four; go_simp <;> rfl) hS0 ?_
  refine wpM_held 7 (v := ?_) rfl (by kernel_rfl) (by kernel_rfl) rfl (fun _ _ _ h => h) rfl (by intro wx hx; go_simp <;> rfl) hS0 ?_
  refine wpM_held 8 (v := .int .u64 (n1 : Int)) rfl (by kernel_rfl) (by kernel_rfl) rfl (fun _ _ _ h => h) rfl (by intro wx hx; go_simp <;> exact F2.out) hS0 ?_
  refine wpM_held 9 (v := ?_) rfl (by kernel_rfl) (by kernel_rfl) rfl (fun _ _ _ h => h) rfl (by intro wx hx; go_simp <;> rfl) hS0 ?_
  refine wpM_held 10 (v := .int .i64 ae) rfl (by kernel_rfl) (by kernel_rfl) rfl (fun _ _ _ h => h) rfl (by intro wx hx; obtain ⟨x0, x1, x2, x3⟩ := (hA.below hx hA.lt).four; go_simp <;> rfl) hS0 ?_
  refine wpM_held 11 (v := ?_) rfl (by kernel_rfl) (by kernel_rfl) rfl (fun _ _ _ h => h) rfl (by intro wx hx; go_simp <;> rfl) hS0 ?_
  refine wpM_held 12 (v := .int .i64 be) rfl (by kernel_rfl) (by kernel_rfl) rfl (fun _ _ _ h => h) rfl (by intro wx hx; obtain ⟨x0, x1, x2, x3⟩ := (hC.below hx hC.lt).four; go_simp <;> rfl) hS0 ?_
  refine wpM_held 13 (v := .int .i64 e1) rfl (by kernel_rfl) (by kernel_rfl) rfl (fun _ _ _ h => h) rfl (by intro wx hx; go_simp <;> exact F3.out) hS0 ?_
  refine wpM_held 14 (v := ?_) rfl (by kernel_rfl) (by kernel_rfl) rfl (fun _ _ _ h => h) rfl (by intro wx hx; go_simp <;> rfl) hS0 ?_
  refine wpM_one 15 rfl (by kernel_rfl) rfl ?_
  go_wp2_with fail
  refine ⟨fun _ => by first | exact ((Below.refl _ W).drew).alloc (Nat.le_refl _) _ | exact ((Below.refl _ W).alloc (Nat.le_refl _) _).drew, ?_⟩
  refine wpM_one 16 rfl (by kernel_rfl) rfl ?_
  go_wp2_with fail
  refine ⟨(fun h => by simp at h), ?_⟩
  refine wpM_one 17 rfl (by kernel_rfl) rfl ?_
  go_wp2_with fail
  refine ⟨(fun h => by simp at h), ?_⟩
  refine wpM_done (by kernel_rfl) ?_
  go_wp2_with fail
  have hQ0 : Row (W.alloc (.cells #[.bool (an != bn), .int .u64 0, .int .u64 (n1 : Int), .int .i64 e1] 59)).drew W.heap.size 59 #[.bool (an != bn), .int .u64 0, .int .u64 (n1 : Int), .int .i64 e1] := Row.new W 59 _
  have hZ0 : Row (W.alloc (.cells #[.bool (an != bn), .int .u64 0, .int .u64 (n1 : Int), .int .i64 e1] 59)).drew (w.heap.size + 2) 59 zeroCells := hZ.alloc _
  have hB0 : Below w.heap.size w (W.alloc (.cells #[.bool (an != bn), .int .u64 0, .int .u64 (n1 : Int), .int .i64 e1] 59)).drew := (hB.alloc hB.size _).drew
  have hne : w.heap.size + 2 ≠ W.heap.size := Nat.ne_of_lt hZ.lt
  have hle : w.heap.size ≤ W.heap.size := hB.size
  clear a0 a1 a2 a3 c0 c1 c2 c3 hA hC hZ hB hS0 F1 F2 F3 hg0 hg1 hg2
  go_loopw [7, 9] (quR (an != bn) b1 n1 e1 W.heap.size (w.heap.size + 2) w) (fun v7 v9 _ => boolN v9 * (intOf v7).toNat)
  case atStart =>
    refine Or.inl ⟨b1, n1, 0, rfl, rfl, hb1, by simp, by unfold M128; omega, ?_, ?_, hZ0, hB0⟩
    · show _ = _; rw [show e1 - ((0 : Nat) : Int) = e1 by omega]
    · unfold Wd.cells
      simp only
      rw [show n1 / 18446744073709551616 = 0 by omega, show n1 % 18446744073709551616 = n1 by omega, show e1 - ((0 : Nat) : Int) = e1 by omega]
      exact hQ0
  case round =>
    clear hQ0 hZ0 hB0
    rcases hrel with ⟨by', n, k, rfl, rfl, hby1, hpw, hM, HQL, hQ, hZ, hB⟩ | ⟨by', rfl, rfl, hnone, hQ, hZ, hB⟩
    · have hk64 := pow_small hby1 hpw hb2
      have hby64 : by' < 18446744073709551616 := Nat.lt_of_le_of_lt (Nat.le_trans (Nat.le_mul_of_pos_right _ (Nat.pos_of_ne_zero (by simp [Nat.pow_eq_zero]))) hpw) hb2
      have HPW : Hid (by' * 2 ^ k ≤ b1) := hpw
      obtain ⟨e0, he0⟩ : ∃ e0, e1 - (k : Int) = e0 := ⟨_, rfl⟩
      have HE0 : Hid (e1 - (k : Int) = e0) := he0
      have be0 : -100100 ≤ e0 ∧ e0 ≤ 100100 := by omega
      unfold Wd.cells at hQ
      simp only at hQ
      obtain ⟨nh, hnh⟩ : ∃ q, n / 18446744073709551616 = q := ⟨_, rfl⟩
      obtain ⟨nl, hnl⟩ : ∃ q, n % 18446744073709551616 = q := ⟨_, rfl⟩
      rw [hnh, hnl, he0] at hQ
      obtain ⟨a0, a1, a2, a3⟩ := hQ.four
      obtain ⟨d0, d1, d2, d3⟩ := hZ.four
      have z0 := hQ.frozen; have z1 := hZ.frozen
      clear hpw he0 hk64
      by_cases hgt : 1 < by'
      · have t0 : (1 : Int) < (by' : Int) := by omega
        by_cases h10 : by' % 10 = 0
        · have HOK : Hid (1 < by' ∧ by' % 10 = 0 ∧ by' < 18446744073709551616) := ⟨hgt, h10, hby64⟩
          have t1 : ((by' : Int) % 10 == 0) = true := by simp; omega
          clear h10 hgt
          obtain ⟨by2, hby2⟩ : ∃ q, by' / 10 = q := ⟨_, rfl⟩
          have HBY : Hid (by' / 10 = by2) := hby2
          have HCA : Hid ((by' : Int) / 10 = (by2 : Int)) := by show _ = _; omega
          have HMM : Hid (n < M128) := hM
          clear hby2 hM
          go_wp2
          have hfin : Row (wr.setCell ⟨W.heap.size, 3, none⟩ (.int .i64 (e0 - 1))) W.heap.size 59 (Wd.cells ⟨an != bn, n, e1 - ((k + 1 : Nat) : Int)⟩) := by
            unfold Wd.cells
            simp only
            rw [hnh, hnl, show e1 - ((k + 1 : Nat) : Int) = e0 - 1 by have := HE0.out; omega]
            exact hQ.set 3 _
          refine ⟨Or.inl ⟨by2, n, k + 1, by rw [← HCA.out], rfl, ?_, ?_, HMM.out, ?_, hfin, ?_, ?_⟩, ?_⟩
          · have := HBY.out; have := HOK.out; omega
          · rw [← HBY.out]; exact pow_step (by omega) HPW.out
          · show _ = _
            rw [← HQL.out]
            have h2 := HOK.out
            rw [quotL.eq_def by', if_neg (by omega), if_pos (by omega), HBY.out, show e1 - ((k + 1 : Nat) : Int) = e1 - (k : Int) - 1 by omega]
          · exact hZ.off (B' := W.heap.size) _ _ hne
          · exact below_set hB _ _ hle
          · have := HBY.out
            have := HOK.out
            rw [HCA.out]
            simp only [boolN, intOf, Int.toNat_natCast]
            omega
        · by_cases h2 : by' % 2 = 0
          · have HOK : Hid (1 < by' ∧ ¬ by' % 10 = 0 ∧ by' % 2 = 0 ∧ by' < 18446744073709551616) := ⟨hgt, h10, h2, hby64⟩
            have t1 : ((by' : Int) % 10 == 0) = false := by simp; omega
            have t2 : ((by' : Int) % 2 == 0) = true := by simp; omega
            clear h10 h2 hgt
            have hTm := times_W ⟨an != bn, n, e0⟩ 5 hM (by omega)
            simp only [Wd.val_eq] at hTm
            unfold Wd.cells at hTm
            simp only at hTm
            rw [hnh, hnl] at hTm
            obtain ⟨by2, hby2⟩ : ∃ q, by' / 2 = q := ⟨_, rfl⟩
            have HBY : Hid (by' / 2 = by2) := hby2
            have hcast : (by' : Int) / 2 = (by2 : Int) := by omega
            have HCA : Hid ((by' : Int) / 2 = (by2 : Int)) := hcast
            clear hby2 hcast
            by_cases hfit : n * 5 < M128
            · simp only [if_pos hfit] at hTm
              unfold pairV at hTm
              simp only [Wd.val_eq] at hTm
              unfold Wd.cells at hTm
              simp only at hTm
              obtain ⟨H, hH⟩ : ∃ H, n * 5 / 18446744073709551616 = H := ⟨_, rfl⟩
              obtain ⟨L, hL⟩ : ∃ L, n * 5 % 18446744073709551616 = L := ⟨_, rfl⟩
              simp only [hH, hL] at hTm
              have hH' : Hid (n * 5 / 18446744073709551616 = H) := hH
              have hL' : Hid (n * 5 % 18446744073709551616 = L) := hL
              have HFT : Hid (n * 5 < M128) := hfit
              clear hH hL hfit hM hnh hnl
              go_wp2_with fail
              refine (hTm _).mono ?_
              rintro _ w2 ⟨rfl, hB3⟩
              have hQ2 := hQ.below hB3 hQ.lt
              have hZ2 := hZ.below hB3 hZ.lt
              have hB2 := hB.trans (hB3.mono hB.size)
              clear a0 a1 a2 a3 d0 d1 d2 d3 z0 z1 hTm hB3
              obtain ⟨g0, g1, g2, g3⟩ := hQ2.four
              have z2 := hQ2.frozen
              go_wp2
              have hfin : Row (((((w2.setCell ⟨W.heap.size, 0, none⟩ (.bool (an != bn))).setCell ⟨W.heap.size, 1, none⟩ (.int .u64 (H : Int))).setCell ⟨W.heap.size, 2, none⟩ (.int .u64 (L : Int))).setCell ⟨W.heap.size, 3, none⟩ (.int .i64 e0)).setCell ⟨W.heap.size, 3, none⟩ (.int .i64 (e0 - 1))) W.heap.size 59 (Wd.cells ⟨an != bn, n * 5, e1 - ((k + 1 : Nat) : Int)⟩) := by
                unfold Wd.cells
                simp only
                rw [hH'.out, hL'.out, show e1 - ((k + 1 : Nat) : Int) = e0 - 1 by have := HE0.out; omega]
                exact (hQ2.set4 _ _ _ _).set 3 _
              refine ⟨Or.inl ⟨by2, n * 5, k + 1, by rw [← HCA.out], rfl, ?_, ?_, HFT.out, ?_, hfin, ?_, ?_⟩, ?_⟩
              · have := HBY.out; have := HOK.out; omega
              · rw [← HBY.out]; exact pow_step (by omega) HPW.out
              · show _ = _
                rw [← HQL.out]
                have h2 := HOK.out
                rw [quotL.eq_def by']
                rw [if_neg (by omega), if_neg (by omega), if_pos (by omega), if_pos HFT.out, HBY.out, show e1 - ((k + 1 : Nat) : Int) = e1 - (k : Int) - 1 by omega]
              · exact ((((hZ2.off (B' := W.heap.size) _ _ hne).off (B' := W.heap.size) _ _ hne).off (B' := W.heap.size) _ _ hne).off (B' := W.heap.size) _ _ hne).off (B' := W.heap.size) _ _ hne
              · repeat (refine below_set ?_ _ _ hle)
                exact hB2
              · have := HBY.out
                have := HOK.out
                rw [HCA.out]
                simp only [boolN, intOf, Int.toNat_natCast]
                omega
            · simp only [if_neg hfit] at hTm
              unfold pairV at hTm
              simp only [wv] at hTm
              have HFT : Hid (¬ n * 5 < M128) := hfit
              clear hfit hM hnh hnl
              go_wp2_with fail
              refine (hTm _).mono ?_
              rintro _ w2 ⟨rfl, hB3⟩
              have hQ2 := hQ.below hB3 hQ.lt
              have hZ2 := hZ.below hB3 hZ.lt
              have hB2 := hB.trans (hB3.mono hB.size)
              clear a0 a1 a2 a3 d0 d1 d2 d3 z0 z1 hTm hB3
              obtain ⟨g0, g1, g2, g3⟩ := hQ2.four
              have z2 := hQ2.frozen
              go_wp2
              have hfin : Row (((((w2.setCell ⟨W.heap.size, 0, none⟩ (.bool false)).setCell ⟨W.heap.size, 1, none⟩ (.int .u64 0)).setCell ⟨W.heap.size, 2, none⟩ (.int .u64 0)).setCell ⟨W.heap.size, 3, none⟩ (.int .i64 0)).setCell ⟨W.heap.size, 3, none⟩ (.int .i64 (-1))) W.heap.size 59 (Wd.cells ⟨false, 0, -1⟩) := (hQ2.set4 _ _ _ _).set 3 _
              refine ⟨Or.inr ⟨by2, by rw [← HCA.out], rfl, ?_, hfin, ?_, ?_⟩, ?_⟩
              · rw [← HQL.out]
                have h2 := HOK.out
                rw [quotL.eq_def by']
                rw [if_neg (by omega), if_neg (by omega), if_pos (by omega), if_neg HFT.out]
              · exact ((((hZ2.off (B' := W.heap.size) _ _ hne).off (B' := W.heap.size) _ _ hne).off (B' := W.heap.size) _ _ hne).off (B' := W.heap.size) _ _ hne).off (B' := W.heap.size) _ _ hne
              · repeat (refine below_set ?_ _ _ hle)
                exact hB2
              · have := HOK.out
                simp only [boolN, intOf, Int.toNat_natCast]
                omega
          · by_cases h5 : by' % 5 = 0
            · have HOK : Hid (1 < by' ∧ ¬ by' % 10 = 0 ∧ ¬ by' % 2 = 0 ∧ by' % 5 = 0 ∧ by' < 18446744073709551616) := ⟨hgt, h10, h2, h5, hby64⟩
              have t1 : ((by' : Int) % 10 == 0) = false := by simp; omega
              have t2 : ((by' : Int) % 2 == 0) = false := by simp; omega
              have t3 : ((by' : Int) % 5 == 0) = true := by simp; omega
              clear h10 h2 h5 hgt
              have hTm := times_W ⟨an != bn, n, e0⟩ 2 hM (by omega)
              simp only [Wd.val_eq] at hTm
              unfold Wd.cells at hTm
              simp only at hTm
              rw [hnh, hnl] at hTm
              obtain ⟨by2, hby2⟩ : ∃ q, by' / 5 = q := ⟨_, rfl⟩
              have HBY : Hid (by' / 5 = by2) := hby2
              have hcast : (by' : Int) / 5 = (by2 : Int) := by omega
              have HCA : Hid ((by' : Int) / 5 = (by2 : Int)) := hcast
              clear hby2 hcast
              by_cases hfit : n * 2 < M128
              · simp only [if_pos hfit] at hTm
                unfold pairV at hTm
                simp only [Wd.val_eq] at hTm
                unfold Wd.cells at hTm
                simp only at hTm
                obtain ⟨H, hH⟩ : ∃ H, n * 2 / 18446744073709551616 = H := ⟨_, rfl⟩
                obtain ⟨L, hL⟩ : ∃ L, n * 2 % 18446744073709551616 = L := ⟨_, rfl⟩
                simp only [hH, hL] at hTm
                have hH' : Hid (n * 2 / 18446744073709551616 = H) := hH
                have hL' : Hid (n * 2 % 18446744073709551616 = L) := hL
                have HFT : Hid (n * 2 < M128) := hfit
                clear hH hL hfit hM hnh hnl
                go_wp2_with fail
                refine (hTm _).mono ?_
                rintro _ w2 ⟨rfl, hB3⟩
                have hQ2 := hQ.below hB3 hQ.lt
                have hZ2 := hZ.below hB3 hZ.lt
                have hB2 := hB.trans (hB3.mono hB.size)
                clear a0 a1 a2 a3 d0 d1 d2 d3 z0 z1 hTm hB3
                obtain ⟨g0, g1, g2, g3⟩ := hQ2.four
                have z2 := hQ2.frozen
                go_wp2
                have hfin : Row (((((w2.setCell ⟨W.heap.size, 0, none⟩ (.bool (an != bn))).setCell ⟨W.heap.size, 1, none⟩ (.int .u64 (H : Int))).setCell ⟨W.heap.size, 2, none⟩ (.int .u64 (L : Int))).setCell ⟨W.heap.size, 3, none⟩ (.int .i64 e0)).setCell ⟨W.heap.size, 3, none⟩ (.int .i64 (e0 - 1))) W.heap.size 59 (Wd.cells ⟨an != bn, n * 2, e1 - ((k + 1 : Nat) : Int)⟩) := by
                  unfold Wd.cells
                  simp only
                  rw [hH'.out, hL'.out, show e1 - ((k + 1 : Nat) : Int) = e0 - 1 by have := HE0.out; omega]
                  exact (hQ2.set4 _ _ _ _).set 3 _
                refine ⟨Or.inl ⟨by2, n * 2, k + 1, by rw [← HCA.out], rfl, ?_, ?_, HFT.out, ?_, hfin, ?_, ?_⟩, ?_⟩
                · have := HBY.out; have := HOK.out; omega
                · rw [← HBY.out]; exact pow_step (by omega) HPW.out
                · show _ = _
                  rw [← HQL.out]
                  have h2 := HOK.out
                  rw [quotL.eq_def by']
                  rw [if_neg (by omega), if_neg (by omega), if_neg (by omega), if_pos (by omega), if_pos HFT.out, HBY.out, show e1 - ((k + 1 : Nat) : Int) = e1 - (k : Int) - 1 by omega]
                · exact ((((hZ2.off (B' := W.heap.size) _ _ hne).off (B' := W.heap.size) _ _ hne).off (B' := W.heap.size) _ _ hne).off (B' := W.heap.size) _ _ hne).off (B' := W.heap.size) _ _ hne
                · repeat (refine below_set ?_ _ _ hle)
                  exact hB2
                · have := HBY.out
                  have := HOK.out
                  rw [HCA.out]
                  simp only [boolN, intOf, Int.toNat_natCast]
                  omega
              · simp only [if_neg hfit] at hTm
                unfold pairV at hTm
                simp only [wv] at hTm
                have HFT : Hid (¬ n * 2 < M128) := hfit
                clear hfit hM hnh hnl
                go_wp2_with fail
                refine (hTm _).mono ?_
                rintro _ w2 ⟨rfl, hB3⟩
                have hQ2 := hQ.below hB3 hQ.lt
                have hZ2 := hZ.below hB3 hZ.lt
                have hB2 := hB.trans (hB3.mono hB.size)
                clear a0 a1 a2 a3 d0 d1 d2 d3 z0 z1 hTm hB3
                obtain ⟨g0, g1, g2, g3⟩ := hQ2.four
                have z2 := hQ2.frozen
                go_wp2
                have hfin : Row (((((w2.setCell ⟨W.heap.size, 0, none⟩ (.bool false)).setCell ⟨W.heap.size, 1, none⟩ (.int .u64 0)).setCell ⟨W.heap.size, 2, none⟩ (.int .u64 0)).setCell ⟨W.heap.size, 3, none⟩ (.int .i64 0)).setCell ⟨W.heap.size, 3, none⟩ (.int .i64 (-1))) W.heap.size 59 (Wd.cells ⟨false, 0, -1⟩) := (hQ2.set4 _ _ _ _).set 3 _
                refine ⟨Or.inr ⟨by2, by rw [← HCA.out], rfl, ?_, hfin, ?_, ?_⟩, ?_⟩
                · rw [← HQL.out]
                  have h2 := HOK.out
                  rw [quotL.eq_def by']
                  rw [if_neg (by omega), if_neg (by omega), if_neg (by omega), if_pos (by omega), if_neg HFT.out]
                · exact ((((hZ2.off (B' := W.heap.size) _ _ hne).off (B' := W.heap.size) _ _ hne).off (B' := W.heap.size) _ _ hne).off (B' := W.heap.size) _ _ hne).off (B' := W.heap.size) _ _ hne
                · repeat (refine below_set ?_ _ _ hle)
                  exact hB2
                · have := HOK.out
                  simp only [boolN, intOf, Int.toNat_natCast]
                  omega
            · have HOK : Hid (1 < by' ∧ ¬ by' % 10 = 0 ∧ ¬ by' % 2 = 0 ∧ ¬ by' % 5 = 0) := ⟨hgt, h10, h2, h5⟩
              have t1 : ((by' : Int) % 10 == 0) = false := by simp; omega
              have t2 : ((by' : Int) % 2 == 0) = false := by simp; omega
              have t3 : ((by' : Int) % 5 == 0) = false := by simp; omega
              clear h10 h2 h5 hgt
              clear hM hnh hnl
              go_wp2
              refine bodyPost_ret (ret_two rfl (g := w.heap.size + 2) rfl rfl (load57 (Row.set4 hZ _ _ _ _) rfl)) rfl ⟨?_, ?_⟩
              · have : quotL b1 n1 e1 = none := by
                  rw [← HQL.out]
                  have h2 := HOK.out
                  rw [quotL.eq_def by', if_neg (by omega), if_neg (by omega), if_neg (by omega), if_neg (by omega)]
                rw [this]
                exact ⟨⟨false, 0, 0⟩, false, rfl, by decide, by decide, by decide, rfl⟩
              · exact below_set4 hB (by omega) _ _ _ _
      · have t0 : ¬ (1 : Int) < (by' : Int) := by omega
        have HOK : Hid (by' ≤ 1) := by show _ ≤ _; omega
        have HMM : Hid (n < M128) := hM
        clear hgt
        clear hM
        go_wp2
        refine bodyPost_ret (ret_two rfl (g := w.heap.size + 2) rfl rfl (load57 (Row.set4 hZ _ _ _ _) rfl)) rfl ⟨?_, ?_⟩
        · have : quotL b1 n1 e1 = some (n, e1 - (k : Int)) := by
            rw [← HQL.out, quotL.eq_def by', if_pos HOK.out]
          rw [this]
          refine ⟨⟨an != bn, n, e1 - (k : Int)⟩, true, ?_, HMM.out, ?_, ?_, rfl⟩
          · rw [Wd.val_eq]; unfold Wd.cells; simp only; rw [hnh, hnl, HE0.out]; rfl
          · have := HE0.out; simp only; omega
          · have := HE0.out; simp only; omega
        · exact below_set4 hB (by omega) _ _ _ _
    · obtain ⟨a0, a1, a2, a3⟩ := hQ.four
      obtain ⟨d0, d1, d2, d3⟩ := hZ.four
      have z0 := hQ.frozen; have z1 := hZ.frozen
      have HNN : Hid (quotL b1 n1 e1 = none) := hnone
      clear hnone
      by_cases hgt : (1 : Int) < (by' : Int)
      · go_wp2
        refine bodyPost_ret (ret_two rfl (g := w.heap.size + 2) rfl rfl (load57 (Row.set4 hZ _ _ _ _) rfl)) rfl ⟨?_, ?_⟩
        · rw [HNN.out]
          exact ⟨⟨false, 0, -1⟩, false, rfl, by decide, by decide, by decide, rfl⟩
        · exact below_set4 hB (by omega) _ _ _ _
      · go_wp2
        refine bodyPost_ret (ret_two rfl (g := w.heap.size + 2) rfl rfl (load57 (Row.set4 hZ _ _ _ _) rfl)) rfl ⟨?_, ?_⟩
        · rw [HNN.out]
          exact ⟨⟨false, 0, -1⟩, false, rfl, by decide, by decide, by decide, rfl⟩
        · exact below_set4 hB (by omega) _ _ _ _
end Go.Proofs.YtfbhonjndepjbaaDoor
