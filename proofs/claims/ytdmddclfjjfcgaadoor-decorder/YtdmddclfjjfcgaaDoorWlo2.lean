/- DecOrder: what its calls answer, and its walk. -/
import Derived.Test.YtdmddclfjjfcgaaDoorWal
import Derived.Test.YtdmddclfjjfcgaaDoorWcm
import Derived.Test.YtdmddclfjjfcgaaDoorWrd
namespace Go.Proofs.YtdmddclfjjfcgaaDoor
open Go.RowKit

theorem VW_dec (c e : Int) (he : within e) : VW (decW c e) = V (-18) c e := sc_dec (-18) c e he.1
theorem cmp_fact (c e c2 e2 : Int) (hc : I64 c) (he : within e) (hc2 : I64 c2) (he2 : within e2) (w : World) :
    Calls Tryd.prog 31 #[.agg #[.int .i64 c, .int .i64 e], .agg #[.int .i64 c2, .int .i64 e2]] w fun r w' => r = .returned (.int .i64 (V (-18) c e - V (-18) c2 e2).sign) ∧ Below w.heap.size w w' := by
  have h := cmp_ok c e c2 e2 hc he hc2 he2 w
  rw [cmp_eq _ _ (sh_dec c e he.1 he.2 hc.1 hc.2) (sh_dec c2 e2 he2.1 he2.2 hc2.1 hc2.2), VW_dec c e he, VW_dec c2 e2 he2] at h
  exact h
/-- A Dec that is told in units of 10 to the -18. -/
theorem told_fact (X : Int) : ∃ p q v, decV (tell X (-18)) = .tuple #[.agg #[.int .i64 p, .int .i64 q], .int .i64 v] ∧ (v = 0 → I64 p ∧ within q ∧ V (-18) p q = X) := by
  cases h : tell X (-18) with
  | none => exact ⟨0, 0, 30, rfl, fun h => by omega⟩
  | some d =>
    obtain ⟨C, E⟩ := d
    obtain ⟨h1, h2, h3, h4, h5, h6, h7⟩ := tell_some h
    refine ⟨C, E, 0, rfl, fun _ => ⟨⟨h3, h4⟩, ⟨h1, h2⟩, ?_⟩⟩
    rw [h7 (-18) (Int.le_refl _) h1]
    simp [V]
theorem add_fact (c e c2 e2 : Int) (hc : I64 c) (he : within e) (hc2 : I64 c2) (he2 : within e2) :
    ∃ p q v, (∀ w, Calls Tryd.prog 9 #[.agg #[.int .i64 c, .int .i64 e], .agg #[.int .i64 c2, .int .i64 e2]] w fun r w' => r = .returned (.tuple #[.agg #[.int .i64 p, .int .i64 q], .int .i64 v]) ∧ Below w.heap.size w w') ∧ (v = 0 → I64 p ∧ within q ∧ V (-18) p q = V (-18) c e + V (-18) c2 e2) := by
  obtain ⟨p, q, v, h1, h2⟩ := told_fact (V (-18) c e + V (-18) c2 e2)
  refine ⟨p, q, v, fun w => ?_, h2⟩
  have h := add_any c e c2 e2 hc hc2 w
  rw [two_ok _ _ _ he he2, told_sum _ _ (sh_dec c e he.1 he.2 hc.1 hc.2) (sh_dec c2 e2 he2.1 he2.2 hc2.1 hc2.2)] at h
  rw [show V (-18) (sc (decW c e)) (decW c e).e = V (-18) c e from VW_dec c e he, show V (-18) (sc (decW c2 e2)) (decW c2 e2).e = V (-18) c2 e2 from VW_dec c2 e2 he2, h1] at h
  exact h
theorem round_fact (c e n : Int) (hc : I64 c) (he : within e) :
    ∃ p q v, (∀ w, Calls Tryd.prog 32 #[.agg #[.int .i64 c, .int .i64 e], .int .i64 n] w fun r w' => r = .returned (.tuple #[.agg #[.int .i64 p, .int .i64 q], .int .i64 v]) ∧ Below w.heap.size w w') ∧ (v = 0 → I64 p ∧ within q ∧ V (-18) p q = rv (10 ^ (18 - n).toNat) (V (-18) c e)) := by
  by_cases hn : within n
  · obtain ⟨p, q, v, h1, h2⟩ := told_fact (rv (10 ^ (18 - n).toNat) (V (-18) c e))
    refine ⟨p, q, v, fun w => ?_, h2⟩
    have hsh := sh_dec c e he.1 he.2 hc.1 hc.2
    have ht := told_round (decW c e) hsh n hn.1 hn.2
    rw [VW_dec c e he] at ht
    rw [← h1, ← ht]
    by_cases hge : -n ≤ (decW c e).e
    · have : roundW (decW c e) n = decW c e := by unfold roundW; rw [if_pos hge]
      rw [this]
      exact round_up c e n hc he hn hge w
    · exact round_down c e n hc he hn hge w
  · exact ⟨0, 0, 1, fun w => round_bad2 c e n hc he hn w, fun h => by omega⟩
set_option maxRecDepth 100000 in
set_option maxHeartbeats 600000 in
theorem order_out0 (c1 e1 c2 e2 c3 e3 n : Int)  (f0 : e1 < -18) (w : World) : Calls Tryd.prog 8 #[dv c1 e1, dv c2 e2, dv c3 e3, .int .i64 n] w fun r w' => r = .returned (.bool true) ∧ Below w.heap.size w w' := by
  unfold dv
  go_enter Tryd.func8, Tryd.ntmps8
  go_wp2_with fail
  refine (alive_any _).mono ?_
  rintro _ w1 ⟨rfl, h1⟩
  obtain ⟨_, _, _, hB⟩ := three_rows w w1 _ _ _ _ _ _ h1
  go_wp2
  go_ret
  exact ⟨rfl, hB⟩
set_option maxRecDepth 100000 in
set_option maxHeartbeats 600000 in
theorem order_out1 (c1 e1 c2 e2 c3 e3 n : Int) (f0 : ¬ e1 < -18) (f1 : 18 < e1) (w : World) : Calls Tryd.prog 8 #[dv c1 e1, dv c2 e2, dv c3 e3, .int .i64 n] w fun r w' => r = .returned (.bool true) ∧ Below w.heap.size w w' := by
  unfold dv
  go_enter Tryd.func8, Tryd.ntmps8
  go_wp2_with fail
  refine (alive_any _).mono ?_
  rintro _ w1 ⟨rfl, h1⟩
  obtain ⟨_, _, _, hB⟩ := three_rows w w1 _ _ _ _ _ _ h1
  go_wp2
  go_ret
  exact ⟨rfl, hB⟩
set_option maxRecDepth 100000 in
set_option maxHeartbeats 600000 in
theorem order_out2 (c1 e1 c2 e2 c3 e3 n : Int) (f0 : ¬ e1 < -18) (f1 : ¬ 18 < e1) (f2 : e2 < -18) (w : World) : Calls Tryd.prog 8 #[dv c1 e1, dv c2 e2, dv c3 e3, .int .i64 n] w fun r w' => r = .returned (.bool true) ∧ Below w.heap.size w w' := by
  unfold dv
  go_enter Tryd.func8, Tryd.ntmps8
  go_wp2_with fail
  refine (alive_any _).mono ?_
  rintro _ w1 ⟨rfl, h1⟩
  obtain ⟨_, _, _, hB⟩ := three_rows w w1 _ _ _ _ _ _ h1
  go_wp2
  go_ret
  exact ⟨rfl, hB⟩
set_option maxRecDepth 100000 in
set_option maxHeartbeats 600000 in
theorem order_out3 (c1 e1 c2 e2 c3 e3 n : Int) (f0 : ¬ e1 < -18) (f1 : ¬ 18 < e1) (f2 : ¬ e2 < -18) (f3 : 18 < e2) (w : World) : Calls Tryd.prog 8 #[dv c1 e1, dv c2 e2, dv c3 e3, .int .i64 n] w fun r w' => r = .returned (.bool true) ∧ Below w.heap.size w w' := by
  unfold dv
  go_enter Tryd.func8, Tryd.ntmps8
  go_wp2_with fail
  refine (alive_any _).mono ?_
  rintro _ w1 ⟨rfl, h1⟩
  obtain ⟨_, _, _, hB⟩ := three_rows w w1 _ _ _ _ _ _ h1
  go_wp2
  go_ret
  exact ⟨rfl, hB⟩
set_option maxRecDepth 100000 in
set_option maxHeartbeats 600000 in
theorem order_out4 (c1 e1 c2 e2 c3 e3 n : Int) (f0 : ¬ e1 < -18) (f1 : ¬ 18 < e1) (f2 : ¬ e2 < -18) (f3 : ¬ 18 < e2) (f4 : e3 < -18) (w : World) : Calls Tryd.prog 8 #[dv c1 e1, dv c2 e2, dv c3 e3, .int .i64 n] w fun r w' => r = .returned (.bool true) ∧ Below w.heap.size w w' := by
  unfold dv
  go_enter Tryd.func8, Tryd.ntmps8
  go_wp2_with fail
  refine (alive_any _).mono ?_
  rintro _ w1 ⟨rfl, h1⟩
  obtain ⟨_, _, _, hB⟩ := three_rows w w1 _ _ _ _ _ _ h1
  go_wp2
  go_ret
  exact ⟨rfl, hB⟩
set_option maxRecDepth 100000 in
set_option maxHeartbeats 600000 in
theorem order_out5 (c1 e1 c2 e2 c3 e3 n : Int) (f0 : ¬ e1 < -18) (f1 : ¬ 18 < e1) (f2 : ¬ e2 < -18) (f3 : ¬ 18 < e2) (f4 : ¬ e3 < -18) (f5 : 18 < e3) (w : World) : Calls Tryd.prog 8 #[dv c1 e1, dv c2 e2, dv c3 e3, .int .i64 n] w fun r w' => r = .returned (.bool true) ∧ Below w.heap.size w w' := by
  unfold dv
  go_enter Tryd.func8, Tryd.ntmps8
  go_wp2_with fail
  refine (alive_any _).mono ?_
  rintro _ w1 ⟨rfl, h1⟩
  obtain ⟨_, _, _, hB⟩ := three_rows w w1 _ _ _ _ _ _ h1
  go_wp2
  go_ret
  exact ⟨rfl, hB⟩
set_option maxRecDepth 100000 in
set_option maxHeartbeats 4000000 in
theorem order_main (c1 e1 c2 e2 c3 e3 n : Int) (h1 : I64 c1) (w1 : within e1) (h2 : I64 c2) (w2 : within e2) (h3 : I64 c3) (w3 : within e3) (w : World) :
    Calls Tryd.prog 8 #[dv c1 e1, dv c2 e2, dv c3 e3, .int .i64 n] w fun r w' => r = .returned (.bool true) ∧ Below w.heap.size w w' := by
  have kab := cmp_fact c1 e1 c2 e2 h1 w1 h2 w2
  have kbc := cmp_fact c2 e2 c3 e3 h2 w2 h3 w3
  have kac := cmp_fact c1 e1 c3 e3 h1 w1 h3 w3
  have kba := cmp_fact c2 e2 c1 e1 h2 w2 h1 w1
  have kaa := cmp_fact c1 e1 c1 e1 h1 w1 h1 w1
  obtain ⟨p, pe, v1, rA, RA⟩ := round_fact c1 e1 n h1 w1
  obtain ⟨q, qe, v2, rB, RB⟩ := round_fact c2 e2 n h2 w2
  obtain ⟨s, se, v3, aA, AA⟩ := add_fact c1 e1 c3 e3 h1 w1 h3 w3
  obtain ⟨t, te, v4, aB, AB⟩ := add_fact c2 e2 c3 e3 h2 w2 h3 w3
  have kpq : v1 = 0 → v2 = 0 → ∃ u, (∀ w, Calls Tryd.prog 31 #[.agg #[.int .i64 p, .int .i64 pe], .agg #[.int .i64 q, .int .i64 qe]] w fun r w' => r = .returned (.int .i64 u) ∧ Below w.heap.size w w') ∧ u = (rv (10 ^ (18 - n).toNat) (V (-18) c1 e1) - rv (10 ^ (18 - n).toNat) (V (-18) c2 e2)).sign := fun z1 z2 => by
    obtain ⟨i1, j1, m1⟩ := RA z1
    obtain ⟨i2, j2, m2⟩ := RB z2
    have := cmp_fact p pe q qe i1 j1 i2 j2
    rw [m1, m2] at this
    exact ⟨_, this, rfl⟩
  have kst : v3 = 0 → v4 = 0 → ∀ w, Calls Tryd.prog 31 #[.agg #[.int .i64 s, .int .i64 se], .agg #[.int .i64 t, .int .i64 te]] w fun r w' => r = .returned (.int .i64 (V (-18) c1 e1 - V (-18) c2 e2).sign) ∧ Below w.heap.size w w' := fun z1 z2 => by
    obtain ⟨i1, j1, m1⟩ := AA z1
    obtain ⟨i2, j2, m2⟩ := AB z2
    have := cmp_fact s se t te i1 j1 i2 j2
    rw [m1, m2, show V (-18) c1 e1 + V (-18) c3 e3 - (V (-18) c2 e2 + V (-18) c3 e3) = V (-18) c1 e1 - V (-18) c2 e2 by omega] at this
    exact this
  have hmono1 : V (-18) c1 e1 ≤ V (-18) c2 e2 → _ := fun h => rv_mono (10 ^ (18 - n).toNat) h
  have hmono2 : V (-18) c2 e2 ≤ V (-18) c1 e1 → _ := fun h => rv_mono (10 ^ (18 - n).toNat) h
  generalize rv (10 ^ (18 - n).toNat) (V (-18) c1 e1) = ra at *
  generalize rv (10 ^ (18 - n).toNat) (V (-18) c2 e2) = rb at *
  clear RA RB AA AB
  generalize V (-18) c1 e1 = A at *
  generalize V (-18) c2 e2 = B at *
  generalize V (-18) c3 e3 = C at *
  rw [show (A - A).sign = 0 by rw [Int.sub_self]; rfl] at kaa
  have sab := sign_cases (A - B)
  have sbc := sign_cases (B - C)
  have sac := sign_cases (A - C)
  have sba := sign_cases (B - A)
  have hba : (B - A).sign = -(A - B).sign := by omega
  rw [hba] at kba
  have htr : (A - B).sign ≤ 0 → (B - C).sign ≤ 0 → ¬ 0 < (A - C).sign := by omega
  have hx : ((A - B).sign = -1 ∨ (A - B).sign = 0 ∨ (A - B).sign = 1) := by omega
  have kpq' : v1 = 0 → v2 = 0 → ∃ u, (∀ w, Calls Tryd.prog 31 #[.agg #[.int .i64 p, .int .i64 pe], .agg #[.int .i64 q, .int .i64 qe]] w fun r w' => r = .returned (.int .i64 u) ∧ Below w.heap.size w w') ∧ (u = -1 ∨ u = 0 ∨ u = 1) ∧ ((A - B).sign = -1 → u ≤ 0) ∧ ((A - B).sign = 1 → 0 ≤ u) := fun z1 z2 => by
    obtain ⟨u, k1, k2⟩ := kpq z1 z2
    have := sign_cases (ra - rb)
    refine ⟨u, k1, by omega, fun h => ?_, fun h => ?_⟩
    · have := hmono1 (by omega); omega
    · have := hmono2 (by omega); omega
  clear kpq hmono1 hmono2 sab sbc sac sba hba
  generalize (A - B).sign = x at *
  generalize (B - C).sign = y at *
  generalize (A - C).sign = z at *
  have f0 : ¬ e1 < -18 := by have := w1.1; omega
  have f1 : ¬ 18 < e1 := by have := w1.2; omega
  have f2 : ¬ e2 < -18 := by have := w2.1; omega
  have f3 : ¬ 18 < e2 := by have := w2.2; omega
  have f4 : ¬ e3 < -18 := by have := w3.1; omega
  have f5 : ¬ 18 < e3 := by have := w3.2; omega
  clear h1 w1 h2 w2 h3 w3
  unfold dv
  by_cases g1 : x ≤ 0
  · by_cases g2 : y ≤ 0
    · have g3 := htr g1 g2
      clear htr
      have n1 : wrap64 (-x) = -x := by unfold wrap64; omega
      go_enter Tryd.func8, Tryd.ntmps8
      go_wp2_with fail
      obtain ⟨hA, hC, hE, hB⟩ := three_rows w _ _ _ _ 23 23 23 (Below.refl _ (((w.alloc (.cells #[.int .i64 c1, .int .i64 e1] 23)).alloc (.cells #[.int .i64 c2, .int .i64 e2] 23)).alloc (.cells #[.int .i64 c3, .int .i64 e3] 23)))
      generalize ((w.alloc (.cells #[.int .i64 c1, .int .i64 e1] 23)).alloc (.cells #[.int .i64 c2, .int .i64 e2] 23)).alloc (.cells #[.int .i64 c3, .int .i64 e3] 23) = W at *
      have hS0 : Below W.heap.size W W.drew := (Below.refl _ W).drew
      refine wp_region_M (fun wx : World => Below W.heap.size W wx) (fun j => decide (j < 9)) 12 rfl (by kernel_rfl) ?_
      refine wpM_held 0 (v := .agg #[.int .i64 c1, .int .i64 e1]) rfl (by kernel_rfl) (by kernel_rfl) rfl (fun _ _ _ h => h) rfl (by intro wx hx; obtain ⟨g0, g1⟩ := (hA.below hx hA.lt).duo; go_simp <;> rfl) hS0 ?_
      refine wpM_held 1 (v := .agg #[.int .i64 c2, .int .i64 e2]) rfl (by kernel_rfl) (by kernel_rfl) rfl (fun _ _ _ h => h) rfl (by intro wx hx; obtain ⟨g0, g1⟩ := (hC.below hx hC.lt).duo; go_simp <;> rfl) hS0 ?_
      refine wpM_held 3 (v := .agg #[.int .i64 c2, .int .i64 e2]) rfl (by kernel_rfl) (by kernel_rfl) rfl (fun _ _ _ h => h) rfl (by intro wx hx; obtain ⟨g0, g1⟩ := (hC.below hx hC.lt).duo; go_simp <;> rfl) hS0 ?_
      refine wpM_held 4 (v := .agg #[.int .i64 c3, .int .i64 e3]) rfl (by kernel_rfl) (by kernel_rfl) rfl (fun _ _ _ h => h) rfl (by intro wx hx; obtain ⟨g0, g1⟩ := (hE.below hx hE.lt).duo; go_simp <;> rfl) hS0 ?_
      refine wpM_held 6 (v := .agg #[.int .i64 c1, .int .i64 e1]) rfl (by kernel_rfl) (by kernel_rfl) rfl (fun _ _ _ h => h) rfl (by intro wx hx; obtain ⟨g0, g1⟩ := (hA.below hx hA.lt).duo; go_simp <;> rfl) hS0 ?_
      refine wpM_held 7 (v := .agg #[.int .i64 c3, .int .i64 e3]) rfl (by kernel_rfl) (by kernel_rfl) rfl (fun _ _ _ h => h) rfl (by intro wx hx; obtain ⟨g0, g1⟩ := (hE.below hx hE.lt).duo; go_simp <;> rfl) hS0 ?_
      refine wpM_one 2 rfl (by kernel_rfl) rfl ?_
      go_wp2_with fail
      refine (kab _).mono ?_
      rintro _ u1 ⟨rfl, hn⟩
      have hS1 := hS0.trans (hn.mono hS0.size)
      clear hn
      go_wp2_with fail
      refine ⟨fun _ => hS1, ?_⟩
      refine wpM_one 5 rfl (by kernel_rfl) rfl ?_
      go_wp2_with fail
      refine (kbc _).mono ?_
      rintro _ u2 ⟨rfl, hn⟩
      have hS2 := hS1.trans (hn.mono hS1.size)
      clear hn
      go_wp2_with fail
      refine ⟨fun _ => hS2, ?_⟩
      refine wpM_one 8 rfl (by kernel_rfl) rfl ?_
      go_wp2_with fail
      refine (kac _).mono ?_
      rintro _ u3 ⟨rfl, hn⟩
      have hS3 := hS2.trans (hn.mono hS2.size)
      clear hn
      go_wp2_with fail
      refine ⟨fun _ => hS3, ?_⟩
      refine wpM_one 9 rfl (by kernel_rfl) rfl ?_
      go_wp2_with fail
      refine ⟨(fun h => by simp at h), ?_⟩
      refine wpM_one 10 rfl (by kernel_rfl) rfl ?_
      go_wp2_with fail
      refine ⟨(fun h => by simp at h), ?_⟩
      refine wpM_one 11 rfl (by kernel_rfl) rfl ?_
      go_wp2_with fail
      refine ⟨(fun h => by simp at h), ?_⟩
      refine wpM_done (by kernel_rfl) ?_
      clear kab kbc kac hS0 hS1 hS2
      have hA := hA.below hS3 hA.lt
      have hC := hC.below hS3 hC.lt
      have hE := hE.below hS3 hE.lt
      have hB := hB.trans (hS3.mono hB.size)
      clear hS3
      obtain ⟨a0, a1⟩ := hA.duo
      obtain ⟨b0, b1⟩ := hC.duo
      go_wp2_with fail
      refine (kba _).mono ?_
      rintro _ W1 ⟨rfl, hn⟩
      clear a0 a1 b0 b1
      have hA := hA.below hn hA.lt
      have hC := hC.below hn hC.lt
      have hE := hE.below hn hE.lt
      have hB := hB.trans (hn.mono hB.size)
      clear hn
      obtain ⟨a0, a1⟩ := hA.duo
      go_wp2_with fail
      refine (kaa _).mono ?_
      rintro _ W2 ⟨rfl, hn⟩
      clear a0 a1
      have hA := hA.below hn hA.lt
      have hC := hC.below hn hC.lt
      have hE := hE.below hn hE.lt
      have hB := hB.trans (hn.mono hB.size)
      clear hn
      go_wp2_with fail
      refine (alive_any _).mono ?_
      rintro _ W3 ⟨rfl, hn⟩
      have hA := hA.below hn hA.lt
      have hC := hC.below hn hC.lt
      have hE := hE.below hn hE.lt
      have hB := hB.trans (hn.mono hB.size)
      clear hn
      obtain ⟨a0, a1⟩ := hA.duo
      go_wp2_with fail
      refine (rA _).mono ?_
      rintro _ X1 ⟨rfl, hn⟩
      clear a0 a1
      have hA := hA.below hn hA.lt
      have hC := hC.below hn hC.lt
      have hE := hE.below hn hE.lt
      have hB := hB.trans (hn.mono hB.size)
      clear hn
      have hA := hA.alloc (.cells #[.int .i64 p, .int .i64 pe] 23)
      have hC := hC.alloc (.cells #[.int .i64 p, .int .i64 pe] 23)
      have hE := hE.alloc (.cells #[.int .i64 p, .int .i64 pe] 23)
      have rP := Row.new X1 23 #[.int .i64 p, .int .i64 pe]
      have hB := hB.alloc hB.size (.cells #[.int .i64 p, .int .i64 pe] 23)
      obtain ⟨b0, b1⟩ := hC.duo
      go_wp2_with fail
      refine (rB _).mono ?_
      rintro _ X2 ⟨rfl, hn⟩
      clear b0 b1
      have hA := hA.below hn hA.lt
      have hC := hC.below hn hC.lt
      have hE := hE.below hn hE.lt
      have rP := rP.below hn rP.lt
      have hB := hB.trans (hn.mono hB.size)
      clear hn
      have hA := hA.alloc (.cells #[.int .i64 q, .int .i64 qe] 23)
      have hC := hC.alloc (.cells #[.int .i64 q, .int .i64 qe] 23)
      have hE := hE.alloc (.cells #[.int .i64 q, .int .i64 qe] 23)
      have rP := rP.alloc (.cells #[.int .i64 q, .int .i64 qe] 23)
      have rQ := Row.new X2 23 #[.int .i64 q, .int .i64 qe]
      have hB := hB.alloc hB.size (.cells #[.int .i64 q, .int .i64 qe] 23)
      obtain ⟨a0, a1⟩ := hA.duo
      obtain ⟨d0, d1⟩ := hE.duo
      go_wp2_with fail
      refine (aA _).mono ?_
      rintro _ X3 ⟨rfl, hn⟩
      clear a0 a1 d0 d1
      have hA := hA.below hn hA.lt
      have hC := hC.below hn hC.lt
      have hE := hE.below hn hE.lt
      have rP := rP.below hn rP.lt
      have rQ := rQ.below hn rQ.lt
      have hB := hB.trans (hn.mono hB.size)
      clear hn
      have hA := hA.alloc (.cells #[.int .i64 s, .int .i64 se] 23)
      have hC := hC.alloc (.cells #[.int .i64 s, .int .i64 se] 23)
      have hE := hE.alloc (.cells #[.int .i64 s, .int .i64 se] 23)
      have rP := rP.alloc (.cells #[.int .i64 s, .int .i64 se] 23)
      have rQ := rQ.alloc (.cells #[.int .i64 s, .int .i64 se] 23)
      have rS := Row.new X3 23 #[.int .i64 s, .int .i64 se]
      have hB := hB.alloc hB.size (.cells #[.int .i64 s, .int .i64 se] 23)
      obtain ⟨b0, b1⟩ := hC.duo
      obtain ⟨d0, d1⟩ := hE.duo
      go_wp2_with fail
      refine (aB _).mono ?_
      rintro _ X4 ⟨rfl, hn⟩
      clear b0 b1 d0 d1
      have hA := hA.below hn hA.lt
      have hC := hC.below hn hC.lt
      have hE := hE.below hn hE.lt
      have rP := rP.below hn rP.lt
      have rQ := rQ.below hn rQ.lt
      have rS := rS.below hn rS.lt
      have hB := hB.trans (hn.mono hB.size)
      clear hn
      have hA := hA.alloc (.cells #[.int .i64 t, .int .i64 te] 23)
      have hC := hC.alloc (.cells #[.int .i64 t, .int .i64 te] 23)
      have hE := hE.alloc (.cells #[.int .i64 t, .int .i64 te] 23)
      have rP := rP.alloc (.cells #[.int .i64 t, .int .i64 te] 23)
      have rQ := rQ.alloc (.cells #[.int .i64 t, .int .i64 te] 23)
      have rS := rS.alloc (.cells #[.int .i64 t, .int .i64 te] 23)
      have rT := Row.new X4 23 #[.int .i64 t, .int .i64 te]
      have hB := hB.alloc hB.size (.cells #[.int .i64 t, .int .i64 te] 23)
      obtain ⟨p0, p1⟩ := rP.duo
      obtain ⟨q0, q1⟩ := rQ.duo
      obtain ⟨s0, s1⟩ := rS.duo
      obtain ⟨t0, t1⟩ := rT.duo
      by_cases z1 : v1 = 0
      · by_cases z2 : v2 = 0
        · obtain ⟨u, ku, hu, hu1, hu2⟩ := kpq' z1 z2
          subst z1 z2
          clear kpq'
          go_wp2_with fail
          refine (ku _).mono ?_
          rintro _ Y1 ⟨rfl, hn⟩
          have rS := rS.below hn rS.lt
          have rT := rT.below hn rT.lt
          have hB := hB.trans (hn.mono hB.size)
          clear hn ku p0 p1 q0 q1 s0 s1 t0 t1
          obtain ⟨s0, s1⟩ := rS.duo
          obtain ⟨t0, t1⟩ := rT.duo
          have hm : wrap64 (x * u) = x * u ∧ ¬ (x * u < 0) := by
            rcases hx with rfl | rfl | rfl <;> rcases hu with rfl | rfl | rfl <;> first | (exfalso; omega) | (constructor <;> (first | (unfold wrap64; omega) | omega))
          obtain ⟨hm1, hm2⟩ := hm
          have HX : Hid (x = -1 ∨ x = 0 ∨ x = 1) := hx
          have HU : Hid (u = -1 ∨ u = 0 ∨ u = 1) := hu
          clear hx hu hu1 hu2
          by_cases z3 : v3 = 0
          · by_cases z4 : v4 = 0
            · have kk := kst z3 z4
              subst z3 z4
              clear kst
              go_wp2_with fail
              refine (kk _).mono ?_
              rintro _ Y2 ⟨rfl, hn⟩
              have hB := hB.trans (hn.mono hB.size)
              go_wp2
              go_ret
              exact ⟨by simp, hB⟩
            · have y4 : (v4 != 0) = true := by simpa using z4
              subst z3
              clear kst z4
              go_wp2
              go_ret
              exact ⟨rfl, hB⟩
          · have y3 : (v3 != 0) = true := by simpa using z3
            clear kst z3
            go_wp2
            go_ret
            exact ⟨rfl, hB⟩
        · have y2 : (v2 == 0) = false := by simpa using z2
          subst z1
          clear kpq' z2
          by_cases z3 : v3 = 0
          · by_cases z4 : v4 = 0
            · have kk := kst z3 z4
              subst z3 z4
              clear kst
              go_wp2_with fail
              refine (kk _).mono ?_
              rintro _ Y2 ⟨rfl, hn⟩
              have hB := hB.trans (hn.mono hB.size)
              go_wp2
              go_ret
              exact ⟨by simp, hB⟩
            · have y4 : (v4 != 0) = true := by simpa using z4
              subst z3
              clear kst z4
              go_wp2
              go_ret
              exact ⟨rfl, hB⟩
          · have y3 : (v3 != 0) = true := by simpa using z3
            clear kst z3
            go_wp2
            go_ret
            exact ⟨rfl, hB⟩
      · have y1 : (v1 == 0) = false := by simpa using z1
        clear kpq' z1
        by_cases z3 : v3 = 0
        · by_cases z4 : v4 = 0
          · have kk := kst z3 z4
            subst z3 z4
            clear kst
            go_wp2_with fail
            refine (kk _).mono ?_
            rintro _ Y2 ⟨rfl, hn⟩
            have hB := hB.trans (hn.mono hB.size)
            go_wp2
            go_ret
            exact ⟨by simp, hB⟩
          · have y4 : (v4 != 0) = true := by simpa using z4
            subst z3
            clear kst z4
            go_wp2
            go_ret
            exact ⟨rfl, hB⟩
        · have y3 : (v3 != 0) = true := by simpa using z3
          clear kst z3
          go_wp2
          go_ret
          exact ⟨rfl, hB⟩
    · clear htr
      have n1 : wrap64 (-x) = -x := by unfold wrap64; omega
      go_enter Tryd.func8, Tryd.ntmps8
      go_wp2_with fail
      obtain ⟨hA, hC, hE, hB⟩ := three_rows w _ _ _ _ 23 23 23 (Below.refl _ (((w.alloc (.cells #[.int .i64 c1, .int .i64 e1] 23)).alloc (.cells #[.int .i64 c2, .int .i64 e2] 23)).alloc (.cells #[.int .i64 c3, .int .i64 e3] 23)))
      generalize ((w.alloc (.cells #[.int .i64 c1, .int .i64 e1] 23)).alloc (.cells #[.int .i64 c2, .int .i64 e2] 23)).alloc (.cells #[.int .i64 c3, .int .i64 e3] 23) = W at *
      have hS0 : Below W.heap.size W W.drew := (Below.refl _ W).drew
      refine wp_region_M (fun wx : World => Below W.heap.size W wx) (fun j => decide (j < 9)) 12 rfl (by kernel_rfl) ?_
      refine wpM_held 0 (v := .agg #[.int .i64 c1, .int .i64 e1]) rfl (by kernel_rfl) (by kernel_rfl) rfl (fun _ _ _ h => h) rfl (by intro wx hx; obtain ⟨g0, g1⟩ := (hA.below hx hA.lt).duo; go_simp <;> rfl) hS0 ?_
      refine wpM_held 1 (v := .agg #[.int .i64 c2, .int .i64 e2]) rfl (by kernel_rfl) (by kernel_rfl) rfl (fun _ _ _ h => h) rfl (by intro wx hx; obtain ⟨g0, g1⟩ := (hC.below hx hC.lt).duo; go_simp <;> rfl) hS0 ?_
      refine wpM_held 3 (v := .agg #[.int .i64 c2, .int .i64 e2]) rfl (by kernel_rfl) (by kernel_rfl) rfl (fun _ _ _ h => h) rfl (by intro wx hx; obtain ⟨g0, g1⟩ := (hC.below hx hC.lt).duo; go_simp <;> rfl) hS0 ?_
      refine wpM_held 4 (v := .agg #[.int .i64 c3, .int .i64 e3]) rfl (by kernel_rfl) (by kernel_rfl) rfl (fun _ _ _ h => h) rfl (by intro wx hx; obtain ⟨g0, g1⟩ := (hE.below hx hE.lt).duo; go_simp <;> rfl) hS0 ?_
      refine wpM_held 6 (v := .agg #[.int .i64 c1, .int .i64 e1]) rfl (by kernel_rfl) (by kernel_rfl) rfl (fun _ _ _ h => h) rfl (by intro wx hx; obtain ⟨g0, g1⟩ := (hA.below hx hA.lt).duo; go_simp <;> rfl) hS0 ?_
      refine wpM_held 7 (v := .agg #[.int .i64 c3, .int .i64 e3]) rfl (by kernel_rfl) (by kernel_rfl) rfl (fun _ _ _ h => h) rfl (by intro wx hx; obtain ⟨g0, g1⟩ := (hE.below hx hE.lt).duo; go_simp <;> rfl) hS0 ?_
      refine wpM_one 2 rfl (by kernel_rfl) rfl ?_
      go_wp2_with fail
      refine (kab _).mono ?_
      rintro _ u1 ⟨rfl, hn⟩
      have hS1 := hS0.trans (hn.mono hS0.size)
      clear hn
      go_wp2_with fail
      refine ⟨fun _ => hS1, ?_⟩
      refine wpM_one 5 rfl (by kernel_rfl) rfl ?_
      go_wp2_with fail
      refine (kbc _).mono ?_
      rintro _ u2 ⟨rfl, hn⟩
      have hS2 := hS1.trans (hn.mono hS1.size)
      clear hn
      go_wp2_with fail
      refine ⟨fun _ => hS2, ?_⟩
      refine wpM_one 8 rfl (by kernel_rfl) rfl ?_
      go_wp2_with fail
      refine (kac _).mono ?_
      rintro _ u3 ⟨rfl, hn⟩
      have hS3 := hS2.trans (hn.mono hS2.size)
      clear hn
      go_wp2_with fail
      refine ⟨fun _ => hS3, ?_⟩
      refine wpM_one 9 rfl (by kernel_rfl) rfl ?_
      go_wp2_with fail
      refine ⟨(fun h => by simp at h), ?_⟩
      refine wpM_one 10 rfl (by kernel_rfl) rfl ?_
      go_wp2_with fail
      refine ⟨(fun h => by simp at h), ?_⟩
      refine wpM_one 11 rfl (by kernel_rfl) rfl ?_
      go_wp2_with fail
      refine ⟨(fun h => by simp at h), ?_⟩
      refine wpM_done (by kernel_rfl) ?_
      clear kab kbc kac hS0 hS1 hS2
      have hA := hA.below hS3 hA.lt
      have hC := hC.below hS3 hC.lt
      have hE := hE.below hS3 hE.lt
      have hB := hB.trans (hS3.mono hB.size)
      clear hS3
      obtain ⟨a0, a1⟩ := hA.duo
      obtain ⟨b0, b1⟩ := hC.duo
      go_wp2_with fail
      refine (kba _).mono ?_
      rintro _ W1 ⟨rfl, hn⟩
      clear a0 a1 b0 b1
      have hA := hA.below hn hA.lt
      have hC := hC.below hn hC.lt
      have hE := hE.below hn hE.lt
      have hB := hB.trans (hn.mono hB.size)
      clear hn
      obtain ⟨a0, a1⟩ := hA.duo
      go_wp2_with fail
      refine (kaa _).mono ?_
      rintro _ W2 ⟨rfl, hn⟩
      clear a0 a1
      have hA := hA.below hn hA.lt
      have hC := hC.below hn hC.lt
      have hE := hE.below hn hE.lt
      have hB := hB.trans (hn.mono hB.size)
      clear hn
      go_wp2_with fail
      refine (alive_any _).mono ?_
      rintro _ W3 ⟨rfl, hn⟩
      have hA := hA.below hn hA.lt
      have hC := hC.below hn hC.lt
      have hE := hE.below hn hE.lt
      have hB := hB.trans (hn.mono hB.size)
      clear hn
      obtain ⟨a0, a1⟩ := hA.duo
      go_wp2_with fail
      refine (rA _).mono ?_
      rintro _ X1 ⟨rfl, hn⟩
      clear a0 a1
      have hA := hA.below hn hA.lt
      have hC := hC.below hn hC.lt
      have hE := hE.below hn hE.lt
      have hB := hB.trans (hn.mono hB.size)
      clear hn
      have hA := hA.alloc (.cells #[.int .i64 p, .int .i64 pe] 23)
      have hC := hC.alloc (.cells #[.int .i64 p, .int .i64 pe] 23)
      have hE := hE.alloc (.cells #[.int .i64 p, .int .i64 pe] 23)
      have rP := Row.new X1 23 #[.int .i64 p, .int .i64 pe]
      have hB := hB.alloc hB.size (.cells #[.int .i64 p, .int .i64 pe] 23)
      obtain ⟨b0, b1⟩ := hC.duo
      go_wp2_with fail
      refine (rB _).mono ?_
      rintro _ X2 ⟨rfl, hn⟩
      clear b0 b1
      have hA := hA.below hn hA.lt
      have hC := hC.below hn hC.lt
      have hE := hE.below hn hE.lt
      have rP := rP.below hn rP.lt
      have hB := hB.trans (hn.mono hB.size)
      clear hn
      have hA := hA.alloc (.cells #[.int .i64 q, .int .i64 qe] 23)
      have hC := hC.alloc (.cells #[.int .i64 q, .int .i64 qe] 23)
      have hE := hE.alloc (.cells #[.int .i64 q, .int .i64 qe] 23)
      have rP := rP.alloc (.cells #[.int .i64 q, .int .i64 qe] 23)
      have rQ := Row.new X2 23 #[.int .i64 q, .int .i64 qe]
      have hB := hB.alloc hB.size (.cells #[.int .i64 q, .int .i64 qe] 23)
      obtain ⟨a0, a1⟩ := hA.duo
      obtain ⟨d0, d1⟩ := hE.duo
      go_wp2_with fail
      refine (aA _).mono ?_
      rintro _ X3 ⟨rfl, hn⟩
      clear a0 a1 d0 d1
      have hA := hA.below hn hA.lt
      have hC := hC.below hn hC.lt
      have hE := hE.below hn hE.lt
      have rP := rP.below hn rP.lt
      have rQ := rQ.below hn rQ.lt
      have hB := hB.trans (hn.mono hB.size)
      clear hn
      have hA := hA.alloc (.cells #[.int .i64 s, .int .i64 se] 23)
      have hC := hC.alloc (.cells #[.int .i64 s, .int .i64 se] 23)
      have hE := hE.alloc (.cells #[.int .i64 s, .int .i64 se] 23)
      have rP := rP.alloc (.cells #[.int .i64 s, .int .i64 se] 23)
      have rQ := rQ.alloc (.cells #[.int .i64 s, .int .i64 se] 23)
      have rS := Row.new X3 23 #[.int .i64 s, .int .i64 se]
      have hB := hB.alloc hB.size (.cells #[.int .i64 s, .int .i64 se] 23)
      obtain ⟨b0, b1⟩ := hC.duo
      obtain ⟨d0, d1⟩ := hE.duo
      go_wp2_with fail
      refine (aB _).mono ?_
      rintro _ X4 ⟨rfl, hn⟩
      clear b0 b1 d0 d1
      have hA := hA.below hn hA.lt
      have hC := hC.below hn hC.lt
      have hE := hE.below hn hE.lt
      have rP := rP.below hn rP.lt
      have rQ := rQ.below hn rQ.lt
      have rS := rS.below hn rS.lt
      have hB := hB.trans (hn.mono hB.size)
      clear hn
      have hA := hA.alloc (.cells #[.int .i64 t, .int .i64 te] 23)
      have hC := hC.alloc (.cells #[.int .i64 t, .int .i64 te] 23)
      have hE := hE.alloc (.cells #[.int .i64 t, .int .i64 te] 23)
      have rP := rP.alloc (.cells #[.int .i64 t, .int .i64 te] 23)
      have rQ := rQ.alloc (.cells #[.int .i64 t, .int .i64 te] 23)
      have rS := rS.alloc (.cells #[.int .i64 t, .int .i64 te] 23)
      have rT := Row.new X4 23 #[.int .i64 t, .int .i64 te]
      have hB := hB.alloc hB.size (.cells #[.int .i64 t, .int .i64 te] 23)
      obtain ⟨p0, p1⟩ := rP.duo
      obtain ⟨q0, q1⟩ := rQ.duo
      obtain ⟨s0, s1⟩ := rS.duo
      obtain ⟨t0, t1⟩ := rT.duo
      by_cases z1 : v1 = 0
      · by_cases z2 : v2 = 0
        · obtain ⟨u, ku, hu, hu1, hu2⟩ := kpq' z1 z2
          subst z1 z2
          clear kpq'
          go_wp2_with fail
          refine (ku _).mono ?_
          rintro _ Y1 ⟨rfl, hn⟩
          have rS := rS.below hn rS.lt
          have rT := rT.below hn rT.lt
          have hB := hB.trans (hn.mono hB.size)
          clear hn ku p0 p1 q0 q1 s0 s1 t0 t1
          obtain ⟨s0, s1⟩ := rS.duo
          obtain ⟨t0, t1⟩ := rT.duo
          have hm : wrap64 (x * u) = x * u ∧ ¬ (x * u < 0) := by
            rcases hx with rfl | rfl | rfl <;> rcases hu with rfl | rfl | rfl <;> first | (exfalso; omega) | (constructor <;> (first | (unfold wrap64; omega) | omega))
          obtain ⟨hm1, hm2⟩ := hm
          have HX : Hid (x = -1 ∨ x = 0 ∨ x = 1) := hx
          have HU : Hid (u = -1 ∨ u = 0 ∨ u = 1) := hu
          clear hx hu hu1 hu2
          by_cases z3 : v3 = 0
          · by_cases z4 : v4 = 0
            · have kk := kst z3 z4
              subst z3 z4
              clear kst
              go_wp2_with fail
              refine (kk _).mono ?_
              rintro _ Y2 ⟨rfl, hn⟩
              have hB := hB.trans (hn.mono hB.size)
              go_wp2
              go_ret
              exact ⟨by simp, hB⟩
            · have y4 : (v4 != 0) = true := by simpa using z4
              subst z3
              clear kst z4
              go_wp2
              go_ret
              exact ⟨rfl, hB⟩
          · have y3 : (v3 != 0) = true := by simpa using z3
            clear kst z3
            go_wp2
            go_ret
            exact ⟨rfl, hB⟩
        · have y2 : (v2 == 0) = false := by simpa using z2
          subst z1
          clear kpq' z2
          by_cases z3 : v3 = 0
          · by_cases z4 : v4 = 0
            · have kk := kst z3 z4
              subst z3 z4
              clear kst
              go_wp2_with fail
              refine (kk _).mono ?_
              rintro _ Y2 ⟨rfl, hn⟩
              have hB := hB.trans (hn.mono hB.size)
              go_wp2
              go_ret
              exact ⟨by simp, hB⟩
            · have y4 : (v4 != 0) = true := by simpa using z4
              subst z3
              clear kst z4
              go_wp2
              go_ret
              exact ⟨rfl, hB⟩
          · have y3 : (v3 != 0) = true := by simpa using z3
            clear kst z3
            go_wp2
            go_ret
            exact ⟨rfl, hB⟩
      · have y1 : (v1 == 0) = false := by simpa using z1
        clear kpq' z1
        by_cases z3 : v3 = 0
        · by_cases z4 : v4 = 0
          · have kk := kst z3 z4
            subst z3 z4
            clear kst
            go_wp2_with fail
            refine (kk _).mono ?_
            rintro _ Y2 ⟨rfl, hn⟩
            have hB := hB.trans (hn.mono hB.size)
            go_wp2
            go_ret
            exact ⟨by simp, hB⟩
          · have y4 : (v4 != 0) = true := by simpa using z4
            subst z3
            clear kst z4
            go_wp2
            go_ret
            exact ⟨rfl, hB⟩
        · have y3 : (v3 != 0) = true := by simpa using z3
          clear kst z3
          go_wp2
          go_ret
          exact ⟨rfl, hB⟩
  · clear htr
    have n1 : wrap64 (-x) = -x := by unfold wrap64; omega
    go_enter Tryd.func8, Tryd.ntmps8
    go_wp2_with fail
    obtain ⟨hA, hC, hE, hB⟩ := three_rows w _ _ _ _ 23 23 23 (Below.refl _ (((w.alloc (.cells #[.int .i64 c1, .int .i64 e1] 23)).alloc (.cells #[.int .i64 c2, .int .i64 e2] 23)).alloc (.cells #[.int .i64 c3, .int .i64 e3] 23)))
    generalize ((w.alloc (.cells #[.int .i64 c1, .int .i64 e1] 23)).alloc (.cells #[.int .i64 c2, .int .i64 e2] 23)).alloc (.cells #[.int .i64 c3, .int .i64 e3] 23) = W at *
    have hS0 : Below W.heap.size W W.drew := (Below.refl _ W).drew
    refine wp_region_M (fun wx : World => Below W.heap.size W wx) (fun j => decide (j < 9)) 12 rfl (by kernel_rfl) ?_
    refine wpM_held 0 (v := .agg #[.int .i64 c1, .int .i64 e1]) rfl (by kernel_rfl) (by kernel_rfl) rfl (fun _ _ _ h => h) rfl (by intro wx hx; obtain ⟨g0, g1⟩ := (hA.below hx hA.lt).duo; go_simp <;> rfl) hS0 ?_
    refine wpM_held 1 (v := .agg #[.int .i64 c2, .int .i64 e2]) rfl (by kernel_rfl) (by kernel_rfl) rfl (fun _ _ _ h => h) rfl (by intro wx hx; obtain ⟨g0, g1⟩ := (hC.below hx hC.lt).duo; go_simp <;> rfl) hS0 ?_
    refine wpM_held 3 (v := .agg #[.int .i64 c2, .int .i64 e2]) rfl (by kernel_rfl) (by kernel_rfl) rfl (fun _ _ _ h => h) rfl (by intro wx hx; obtain ⟨g0, g1⟩ := (hC.below hx hC.lt).duo; go_simp <;> rfl) hS0 ?_
    refine wpM_held 4 (v := .agg #[.int .i64 c3, .int .i64 e3]) rfl (by kernel_rfl) (by kernel_rfl) rfl (fun _ _ _ h => h) rfl (by intro wx hx; obtain ⟨g0, g1⟩ := (hE.below hx hE.lt).duo; go_simp <;> rfl) hS0 ?_
    refine wpM_held 6 (v := .agg #[.int .i64 c1, .int .i64 e1]) rfl (by kernel_rfl) (by kernel_rfl) rfl (fun _ _ _ h => h) rfl (by intro wx hx; obtain ⟨g0, g1⟩ := (hA.below hx hA.lt).duo; go_simp <;> rfl) hS0 ?_
    refine wpM_held 7 (v := .agg #[.int .i64 c3, .int .i64 e3]) rfl (by kernel_rfl) (by kernel_rfl) rfl (fun _ _ _ h => h) rfl (by intro wx hx; obtain ⟨g0, g1⟩ := (hE.below hx hE.lt).duo; go_simp <;> rfl) hS0 ?_
    refine wpM_one 2 rfl (by kernel_rfl) rfl ?_
    go_wp2_with fail
    refine (kab _).mono ?_
    rintro _ u1 ⟨rfl, hn⟩
    have hS1 := hS0.trans (hn.mono hS0.size)
    clear hn
    go_wp2_with fail
    refine ⟨fun _ => hS1, ?_⟩
    refine wpM_one 5 rfl (by kernel_rfl) rfl ?_
    go_wp2_with fail
    refine (kbc _).mono ?_
    rintro _ u2 ⟨rfl, hn⟩
    have hS2 := hS1.trans (hn.mono hS1.size)
    clear hn
    go_wp2_with fail
    refine ⟨fun _ => hS2, ?_⟩
    refine wpM_one 8 rfl (by kernel_rfl) rfl ?_
    go_wp2_with fail
    refine (kac _).mono ?_
    rintro _ u3 ⟨rfl, hn⟩
    have hS3 := hS2.trans (hn.mono hS2.size)
    clear hn
    go_wp2_with fail
    refine ⟨fun _ => hS3, ?_⟩
    refine wpM_one 9 rfl (by kernel_rfl) rfl ?_
    go_wp2_with fail
    refine ⟨(fun h => by simp at h), ?_⟩
    refine wpM_one 10 rfl (by kernel_rfl) rfl ?_
    go_wp2_with fail
    refine ⟨(fun h => by simp at h), ?_⟩
    refine wpM_one 11 rfl (by kernel_rfl) rfl ?_
    go_wp2_with fail
    refine ⟨(fun h => by simp at h), ?_⟩
    refine wpM_done (by kernel_rfl) ?_
    clear kab kbc kac hS0 hS1 hS2
    have hA := hA.below hS3 hA.lt
    have hC := hC.below hS3 hC.lt
    have hE := hE.below hS3 hE.lt
    have hB := hB.trans (hS3.mono hB.size)
    clear hS3
    obtain ⟨a0, a1⟩ := hA.duo
    obtain ⟨b0, b1⟩ := hC.duo
    go_wp2_with fail
    refine (kba _).mono ?_
    rintro _ W1 ⟨rfl, hn⟩
    clear a0 a1 b0 b1
    have hA := hA.below hn hA.lt
    have hC := hC.below hn hC.lt
    have hE := hE.below hn hE.lt
    have hB := hB.trans (hn.mono hB.size)
    clear hn
    obtain ⟨a0, a1⟩ := hA.duo
    go_wp2_with fail
    refine (kaa _).mono ?_
    rintro _ W2 ⟨rfl, hn⟩
    clear a0 a1
    have hA := hA.below hn hA.lt
    have hC := hC.below hn hC.lt
    have hE := hE.below hn hE.lt
    have hB := hB.trans (hn.mono hB.size)
    clear hn
    go_wp2_with fail
    refine (alive_any _).mono ?_
    rintro _ W3 ⟨rfl, hn⟩
    have hA := hA.below hn hA.lt
    have hC := hC.below hn hC.lt
    have hE := hE.below hn hE.lt
    have hB := hB.trans (hn.mono hB.size)
    clear hn
    obtain ⟨a0, a1⟩ := hA.duo
    go_wp2_with fail
    refine (rA _).mono ?_
    rintro _ X1 ⟨rfl, hn⟩
    clear a0 a1
    have hA := hA.below hn hA.lt
    have hC := hC.below hn hC.lt
    have hE := hE.below hn hE.lt
    have hB := hB.trans (hn.mono hB.size)
    clear hn
    have hA := hA.alloc (.cells #[.int .i64 p, .int .i64 pe] 23)
    have hC := hC.alloc (.cells #[.int .i64 p, .int .i64 pe] 23)
    have hE := hE.alloc (.cells #[.int .i64 p, .int .i64 pe] 23)
    have rP := Row.new X1 23 #[.int .i64 p, .int .i64 pe]
    have hB := hB.alloc hB.size (.cells #[.int .i64 p, .int .i64 pe] 23)
    obtain ⟨b0, b1⟩ := hC.duo
    go_wp2_with fail
    refine (rB _).mono ?_
    rintro _ X2 ⟨rfl, hn⟩
    clear b0 b1
    have hA := hA.below hn hA.lt
    have hC := hC.below hn hC.lt
    have hE := hE.below hn hE.lt
    have rP := rP.below hn rP.lt
    have hB := hB.trans (hn.mono hB.size)
    clear hn
    have hA := hA.alloc (.cells #[.int .i64 q, .int .i64 qe] 23)
    have hC := hC.alloc (.cells #[.int .i64 q, .int .i64 qe] 23)
    have hE := hE.alloc (.cells #[.int .i64 q, .int .i64 qe] 23)
    have rP := rP.alloc (.cells #[.int .i64 q, .int .i64 qe] 23)
    have rQ := Row.new X2 23 #[.int .i64 q, .int .i64 qe]
    have hB := hB.alloc hB.size (.cells #[.int .i64 q, .int .i64 qe] 23)
    obtain ⟨a0, a1⟩ := hA.duo
    obtain ⟨d0, d1⟩ := hE.duo
    go_wp2_with fail
    refine (aA _).mono ?_
    rintro _ X3 ⟨rfl, hn⟩
    clear a0 a1 d0 d1
    have hA := hA.below hn hA.lt
    have hC := hC.below hn hC.lt
    have hE := hE.below hn hE.lt
    have rP := rP.below hn rP.lt
    have rQ := rQ.below hn rQ.lt
    have hB := hB.trans (hn.mono hB.size)
    clear hn
    have hA := hA.alloc (.cells #[.int .i64 s, .int .i64 se] 23)
    have hC := hC.alloc (.cells #[.int .i64 s, .int .i64 se] 23)
    have hE := hE.alloc (.cells #[.int .i64 s, .int .i64 se] 23)
    have rP := rP.alloc (.cells #[.int .i64 s, .int .i64 se] 23)
    have rQ := rQ.alloc (.cells #[.int .i64 s, .int .i64 se] 23)
    have rS := Row.new X3 23 #[.int .i64 s, .int .i64 se]
    have hB := hB.alloc hB.size (.cells #[.int .i64 s, .int .i64 se] 23)
    obtain ⟨b0, b1⟩ := hC.duo
    obtain ⟨d0, d1⟩ := hE.duo
    go_wp2_with fail
    refine (aB _).mono ?_
    rintro _ X4 ⟨rfl, hn⟩
    clear b0 b1 d0 d1
    have hA := hA.below hn hA.lt
    have hC := hC.below hn hC.lt
    have hE := hE.below hn hE.lt
    have rP := rP.below hn rP.lt
    have rQ := rQ.below hn rQ.lt
    have rS := rS.below hn rS.lt
    have hB := hB.trans (hn.mono hB.size)
    clear hn
    have hA := hA.alloc (.cells #[.int .i64 t, .int .i64 te] 23)
    have hC := hC.alloc (.cells #[.int .i64 t, .int .i64 te] 23)
    have hE := hE.alloc (.cells #[.int .i64 t, .int .i64 te] 23)
    have rP := rP.alloc (.cells #[.int .i64 t, .int .i64 te] 23)
    have rQ := rQ.alloc (.cells #[.int .i64 t, .int .i64 te] 23)
    have rS := rS.alloc (.cells #[.int .i64 t, .int .i64 te] 23)
    have rT := Row.new X4 23 #[.int .i64 t, .int .i64 te]
    have hB := hB.alloc hB.size (.cells #[.int .i64 t, .int .i64 te] 23)
    obtain ⟨p0, p1⟩ := rP.duo
    obtain ⟨q0, q1⟩ := rQ.duo
    obtain ⟨s0, s1⟩ := rS.duo
    obtain ⟨t0, t1⟩ := rT.duo
    by_cases z1 : v1 = 0
    · by_cases z2 : v2 = 0
      · obtain ⟨u, ku, hu, hu1, hu2⟩ := kpq' z1 z2
        subst z1 z2
        clear kpq'
        go_wp2_with fail
        refine (ku _).mono ?_
        rintro _ Y1 ⟨rfl, hn⟩
        have rS := rS.below hn rS.lt
        have rT := rT.below hn rT.lt
        have hB := hB.trans (hn.mono hB.size)
        clear hn ku p0 p1 q0 q1 s0 s1 t0 t1
        obtain ⟨s0, s1⟩ := rS.duo
        obtain ⟨t0, t1⟩ := rT.duo
        have hm : wrap64 (x * u) = x * u ∧ ¬ (x * u < 0) := by
          rcases hx with rfl | rfl | rfl <;> rcases hu with rfl | rfl | rfl <;> first | (exfalso; omega) | (constructor <;> (first | (unfold wrap64; omega) | omega))
        obtain ⟨hm1, hm2⟩ := hm
        have HX : Hid (x = -1 ∨ x = 0 ∨ x = 1) := hx
        have HU : Hid (u = -1 ∨ u = 0 ∨ u = 1) := hu
        clear hx hu hu1 hu2
        by_cases z3 : v3 = 0
        · by_cases z4 : v4 = 0
          · have kk := kst z3 z4
            subst z3 z4
            clear kst
            go_wp2_with fail
            refine (kk _).mono ?_
            rintro _ Y2 ⟨rfl, hn⟩
            have hB := hB.trans (hn.mono hB.size)
            go_wp2
            go_ret
            exact ⟨by simp, hB⟩
          · have y4 : (v4 != 0) = true := by simpa using z4
            subst z3
            clear kst z4
            go_wp2
            go_ret
            exact ⟨rfl, hB⟩
        · have y3 : (v3 != 0) = true := by simpa using z3
          clear kst z3
          go_wp2
          go_ret
          exact ⟨rfl, hB⟩
      · have y2 : (v2 == 0) = false := by simpa using z2
        subst z1
        clear kpq' z2
        by_cases z3 : v3 = 0
        · by_cases z4 : v4 = 0
          · have kk := kst z3 z4
            subst z3 z4
            clear kst
            go_wp2_with fail
            refine (kk _).mono ?_
            rintro _ Y2 ⟨rfl, hn⟩
            have hB := hB.trans (hn.mono hB.size)
            go_wp2
            go_ret
            exact ⟨by simp, hB⟩
          · have y4 : (v4 != 0) = true := by simpa using z4
            subst z3
            clear kst z4
            go_wp2
            go_ret
            exact ⟨rfl, hB⟩
        · have y3 : (v3 != 0) = true := by simpa using z3
          clear kst z3
          go_wp2
          go_ret
          exact ⟨rfl, hB⟩
    · have y1 : (v1 == 0) = false := by simpa using z1
      clear kpq' z1
      by_cases z3 : v3 = 0
      · by_cases z4 : v4 = 0
        · have kk := kst z3 z4
          subst z3 z4
          clear kst
          go_wp2_with fail
          refine (kk _).mono ?_
          rintro _ Y2 ⟨rfl, hn⟩
          have hB := hB.trans (hn.mono hB.size)
          go_wp2
          go_ret
          exact ⟨by simp, hB⟩
        · have y4 : (v4 != 0) = true := by simpa using z4
          subst z3
          clear kst z4
          go_wp2
          go_ret
          exact ⟨rfl, hB⟩
      · have y3 : (v3 != 0) = true := by simpa using z3
        clear kst z3
        go_wp2
        go_ret
        exact ⟨rfl, hB⟩
theorem order_any (c1 e1 c2 e2 c3 e3 n : Int) (h1 : I64 c1) (h2 : I64 c2) (h3 : I64 c3) (w : World) :
    Calls Tryd.prog 8 #[dv c1 e1, dv c2 e2, dv c3 e3, .int .i64 n] w fun r w' => r = .returned (.bool true) ∧ Below w.heap.size w w' := by
  by_cases f0 : e1 < -18
  · exact order_out0 c1 e1 c2 e2 c3 e3 n f0 w
  by_cases f1 : 18 < e1
  · exact order_out1 c1 e1 c2 e2 c3 e3 n f0 f1 w
  by_cases f2 : e2 < -18
  · exact order_out2 c1 e1 c2 e2 c3 e3 n f0 f1 f2 w
  by_cases f3 : 18 < e2
  · exact order_out3 c1 e1 c2 e2 c3 e3 n f0 f1 f2 f3 w
  by_cases f4 : e3 < -18
  · exact order_out4 c1 e1 c2 e2 c3 e3 n f0 f1 f2 f3 f4 w
  by_cases f5 : 18 < e3
  · exact order_out5 c1 e1 c2 e2 c3 e3 n f0 f1 f2 f3 f4 f5 w
  exact order_main c1 e1 c2 e2 c3 e3 n h1 ⟨by omega, by omega⟩ h2 ⟨by omega, by omega⟩ h3 ⟨by omega, by omega⟩ w
end Go.Proofs.YtdmddclfjjfcgaaDoor
