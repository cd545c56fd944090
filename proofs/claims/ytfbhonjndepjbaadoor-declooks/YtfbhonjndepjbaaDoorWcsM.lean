import Derived.Test.YtfbhonjndepjbaaDoorWalM
import Derived.Deep.CutBlock
import Derived.Deep.DeepCutAuto
import Derived.Test.YtfbhonjndepjbaaDoorWop
/- Cmp and Sign of any Decs, told by the numbers' signs. -/
namespace Go.Proofs.YtfbhonjndepjbaaDoor
open Go.RowKit

set_option maxRecDepth 100000 in
set_option maxHeartbeats 1200000 in
theorem cmp_bad (c e c2 e2 : Int) (hc : I64 c) (hb : ¬ (within e ∧ within e2)) (w : World) : Calls Tryd.prog 28 #[dv c e, dv c2 e2] w fun r w' => r = .returned (.int .i64 0) ∧ Below w.heap.size w w' := by
  have hT : ∀ K W, Row W K 23 #[.int .i64 c, .int .i64 e, .int .i64 c2, .int .i64 e2] → Calls Tryd.prog 49 #[.slice (some ⟨K, 0, none⟩) 2 2] W fun r w' => Below W.heap.size W w' ∧ r = .returned (.tuple #[.slice none 0 0, .int .i64 1]) := fun K W hK => by
    by_cases he : within e
    · exact taken2_bad2 c e c2 e2 K W hc he (fun h => hb ⟨he, h⟩) hK
    · exact taken2_bad1 c e c2 e2 K W he hK
  clear hc hb
  unfold dv
  go_enter Tryd.func28, Tryd.ntmps28
  go_wp2_with fail
  obtain ⟨_, _, hK, _⟩ := three_rows w _ _ _ _ 23 23 23 (Below.refl _ (((w.alloc (.cells #[.int .i64 c, .int .i64 e] 23)).alloc (.cells #[.int .i64 c2, .int .i64 e2] 23)).alloc (.cells #[.int .i64 c, .int .i64 e, .int .i64 c2, .int .i64 e2] 23)))
  refine (hT _ _ hK).mono ?_
  rintro _ w1 ⟨h1, rfl⟩
  obtain ⟨_, _, _, hB⟩ := three_rows w w1 _ _ _ _ _ _ h1
  clear h1 hT hK
  go_wp2
  go_ret
  exact ⟨rfl, hB⟩
set_option maxRecDepth 100000 in
set_option maxHeartbeats 1200000 in
theorem sign_bad (c e : Int) (he : ¬ within e) (w : World) : Calls Tryd.prog 30 #[.agg #[.int .i64 c, .int .i64 e]] w fun r w' => r = .returned (.int .i64 0) ∧ Below w.heap.size w w' := by
  have hK := Row.new1 w (.cells #[.int .i64 c, .int .i64 e] 23) 23 #[.int .i64 c, .int .i64 e]
  have hT := taken1_bad c e _ _ he hK
  clear he
  go_enter Tryd.func30, Tryd.ntmps30
  go_wp2_with fail
  refine hT.mono ?_
  rintro _ w1 ⟨h1, rfl⟩
  obtain ⟨_, _, hB⟩ := two_rows w w1 _ _ _ _ h1
  clear h1 hT hK
  go_wp2
  go_ret
  exact ⟨rfl, hB⟩
theorem pcmp_any (c e d f : Int) (hc : I64 c) (hd : I64 d) (w : World) : Calls Tryd.prog 28 #[.agg #[.int .i64 c, .int .i64 e], .agg #[.int .i64 d, .int .i64 f]] w fun r w' => r = .returned (.int .i64 (if (-18 ≤ e ∧ e ≤ 18) ∧ (-18 ≤ f ∧ f ≤ 18) then (V (-18) c e - V (-18) d f).sign else 0)) ∧ Below w.heap.size w w' := by
  by_cases h : (-18 ≤ e ∧ e ≤ 18) ∧ (-18 ≤ f ∧ f ≤ 18)
  · rw [if_pos h]
    have h1 : within e := h.1
    have h2 : within f := h.2
    have := cmp_ok c e d f hc h1 hd h2 w
    rw [cmp_eq _ _ (sh_dec c e h1.1 h1.2 hc.1 hc.2) (sh_dec d f h2.1 h2.2 hd.1 hd.2)] at this
    unfold VW at this
    rw [VW_dec' c e h1, VW_dec' d f h2] at this
    exact this
  · rw [if_neg h]
    exact cmp_bad c e d f hc h w
theorem psign_any (c e : Int) (hc : I64 c) (w : World) : Calls Tryd.prog 30 #[.agg #[.int .i64 c, .int .i64 e]] w fun r w' => r = .returned (.int .i64 (if -18 ≤ e ∧ e ≤ 18 then (V (-18) c e).sign else 0)) ∧ Below w.heap.size w w' := by
  by_cases h : -18 ≤ e ∧ e ≤ 18
  · rw [if_pos h]
    have h1 : within e := h
    have := sign_ok c e hc h1 w
    rw [← VW_sign] at this
    unfold VW at this
    rw [VW_dec' c e h1] at this
    exact this
  · rw [if_neg h]
    exact sign_bad c e h w
end Go.Proofs.YtfbhonjndepjbaaDoor
/- Int. -/
namespace Go.Proofs.YtfbhonjndepjbaaDoor
open Go.RowKit

/-- A number as an int, if it is whole and not too great. -/
def intW (y : Wd) : Value := if 0 ≤ y.e ∧ y.n * 10 ^ y.e.toNat ≤ 9007199254740992 then .tuple #[.int .i64 (sc y * 10 ^ y.e.toNat), .bool true] else .tuple #[.int .i64 0, .bool false]
set_option maxRecDepth 100000 in
set_option maxHeartbeats 1200000 in
theorem int_bad (c e : Int) (he : ¬ within e) (w : World) : Calls Tryd.prog 36 #[dv c e] w fun r w' => r = .returned (.tuple #[.int .i64 0, .bool false]) ∧ Below w.heap.size w w' := by
  unfold dv
  have hK := Row.new1 w (.cells #[.int .i64 c, .int .i64 e] 23) 23 #[.int .i64 c, .int .i64 e]
  have HT := taken1_bad c e _ _ he hK
  go_enter Tryd.func36, Tryd.ntmps36
  go_wp2_with fail
  refine HT.mono ?_
  rintro _ w1 ⟨h1, rfl⟩
  obtain ⟨_, _, hB⟩ := two_rows w w1 _ _ _ _ h1
  clear h1 HT hK
  go_wp2
  go_ret2
  exact ⟨rfl, hB⟩
set_option maxRecDepth 100000 in
set_option maxHeartbeats 1200000 in
theorem int_neg (c e : Int) (hc : I64 c) (he : within e) (hge : (decW c e).e < 0) (w : World) : Calls Tryd.prog 36 #[dv c e] w fun r w' => r = .returned (.tuple #[.int .i64 0, .bool false]) ∧ Below w.heap.size w w' := by
  have hT := fun K w (hK : Row w K 23 #[.int .i64 c, .int .i64 e]) => taken1 c e K w hc he hK
  generalize decW c e = y at *
  obtain ⟨nn, n, e0⟩ := y
  unfold Wd.cells at hT
  simp only at hT hge
  unfold dv
  clear hc he
  have hK := Row.new1 w (.cells #[.int .i64 c, .int .i64 e] 23) 23 #[.int .i64 c, .int .i64 e]
  go_enter Tryd.func36, Tryd.ntmps36
  go_wp2_with fail
  refine (hT _ _ hK).mono ?_
  rintro _ W ⟨h1, G, hG, rfl, hR⟩
  obtain ⟨_, _, hB⟩ := two_rows w W _ _ _ _ h1
  obtain ⟨x0, x1, x2, x3⟩ := hR.four
  clear h1 hG hK hT
  go_wp2
  go_ret2
  exact ⟨rfl, hB⟩
set_option maxRecDepth 100000 in
set_option maxHeartbeats 2000000 in
theorem int_ok (c e : Int) (hc : I64 c) (he : within e) (hge : 0 ≤ (decW c e).e) (w : World) : Calls Tryd.prog 36 #[dv c e] w fun r w' => r = .returned (intW (decW c e)) ∧ Below w.heap.size w w' := by
  have hT := fun K w (hK : Row w K 23 #[.int .i64 c, .int .i64 e]) => taken1 c e K w hc he hK
  have hsh := sh_dec c e he.1 he.2 hc.1 hc.2
  have hbig := hsh.big
  have hhi := hsh.hi
  generalize decW c e = y at *
  have hLO := lowered_any y 0 (by unfold M128; omega) (by omega) (by omega) (by decide)
  have hls : lowW y 0 = if y.n * 10 ^ y.e.toNat < M128 then some ⟨y.neg, y.n * 10 ^ y.e.toNat, 0⟩ else none := by
    unfold lowW
    by_cases h0 : y.e ≤ 0
    · have : y.e = 0 := by omega
      rw [if_pos h0, this, if_pos (by simp; unfold M128; omega)]
      obtain ⟨a, b, d⟩ := y
      simp only at this
      simp [this]
    · rw [if_neg h0, show (y.e - 0).toNat = y.e.toNat by omega]
  rw [hls] at hLO
  have hsg := fun x => sign_W x
  unfold intW sc
  obtain ⟨nn, n, e0⟩ := y
  simp only [Wd.val_eq] at *
  unfold Wd.cells at hT hLO
  simp only at hT hLO hge
  obtain ⟨M, hM⟩ : ∃ M, n * 10 ^ e0.toNat = M := ⟨_, rfl⟩
  have HM : Hid (n * 10 ^ e0.toNat = M) := hM
  rw [hM] at hLO ⊢
  obtain ⟨nh, hnh⟩ : ∃ q, n / 18446744073709551616 = q := ⟨_, rfl⟩
  obtain ⟨nl, hnl⟩ : ∃ q, n % 18446744073709551616 = q := ⟨_, rfl⟩
  rw [hnh, hnl] at hT hLO
  unfold dv
  have hK := Row.new1 w (.cells #[.int .i64 c, .int .i64 e] 23) 23 #[.int .i64 c, .int .i64 e]
  have hge2 : ¬ (e0 < 0) := by omega
  clear hc he hsh hnh hnl hls hM
  by_cases h1 : M < M128
  · rw [if_pos h1] at hLO
    unfold pairV at hLO
    simp only [Wd.val_eq] at hLO
    unfold Wd.cells at hLO
    simp only at hLO
    by_cases h2 : M ≤ 9007199254740992
    · rw [if_pos ⟨hge, h2⟩]
      rw [show M / 18446744073709551616 = 0 by omega, show M % 18446744073709551616 = M by omega, show ((0 : Nat) : Int) = 0 from rfl] at hLO
      have hS := hsg ⟨nn, M, 0⟩
      unfold Wd.cells at hS
      simp only at hS
      rw [show M / 18446744073709551616 = 0 by omega, show M % 18446744073709551616 = M by omega, show ((0 : Nat) : Int) = 0 from rfl] at hS
      obtain ⟨sg, hsge⟩ : ∃ sg, sgW ⟨nn, M, 0⟩ = sg := ⟨_, rfl⟩
      rw [hsge] at hS
      have hsb : -1 ≤ sg ∧ sg ≤ 1 := by rw [← hsge]; exact sgW_bd _
      obtain ⟨pv, hpv⟩ : ∃ pv, (M : Int) * sg = pv := ⟨_, rfl⟩
      have hpb : -9007199254740992 ≤ pv ∧ pv ≤ 9007199254740992 := by
        rw [← hpv]
        rcases (show sg = -1 ∨ sg = 0 ∨ sg = 1 by omega) with h | h | h <;> subst h <;> omega
      have HPV : Hid (pv = (if nn = true then -(n : Int) else (n : Int)) * 10 ^ e0.toNat) := by
        show _ = _
        have hMi : (M : Int) = (n : Int) * 10 ^ e0.toNat := by rw [← HM.out, Int.natCast_mul, Int.natCast_pow]; rfl
        rw [← hpv, ← hsge]
        unfold sgW
        by_cases hM0 : M = 0
        · simp only [hM0, if_true]
          have hn0 : n = 0 := by
            have h5 := HM.out
            rw [hM0] at h5
            rcases Nat.mul_eq_zero.1 h5 with h | h
            · exact h
            · exact absurd h (by have : 0 < 10 ^ e0.toNat := Nat.pow_pos (by decide); omega)
          subst hn0
          simp
        · simp only [hM0, if_false]
          cases nn
          · simp [hMi]
          · simp [hMi, Int.neg_mul]
      have HS : ∀ V, Hid (Calls Tryd.prog 66 #[.agg #[.bool nn, .int .u64 0, .int .u64 (M : Int), .int .i64 0]] V fun r w' => r = .returned (.int .i64 sg) ∧ Below V.heap.size V w') := hS
      have wm : IntKind.i64.wrap ((M : Int) * sg) = pv := by rw [hpv, IntKind.wrap_i64]; omega
      rw [← HPV.out]
      clear h1 HM hsg hS hsge hpv
      have hMb : (M : Int) ≤ 9007199254740992 := by omega
      go_enter Tryd.func36, Tryd.ntmps36
      go_wp2_with fail
      refine (hT _ _ hK).mono ?_
      rintro _ W ⟨h1, G, hG, rfl, hR⟩
      obtain ⟨_, _, hB⟩ := two_rows w W _ _ _ _ h1
      obtain ⟨x0, x1, x2, x3⟩ := hR.four
      clear h1 hG hK hT
      go_wp2_with fail
      refine (hLO _).mono ?_
      rintro _ w2 ⟨rfl, h2⟩
      have hB2 := hB.trans (h2.mono hB.size)
      clear h2 hLO x0 x1 x2 x3 hR hB
      have hR := Row.new w2 59 #[.bool nn, .int .u64 0, .int .u64 (M : Int), .int .i64 0]
      have hB3 := hB2.alloc hB2.size (.cells #[.bool nn, .int .u64 0, .int .u64 (M : Int), .int .i64 0] 59)
      obtain ⟨x0, x1, x2, x3⟩ := hR.four
      go_upto_region 7 with fail
      generalize w2.alloc (.cells #[.bool nn, .int .u64 0, .int .u64 (M : Int), .int .i64 0] 59) = W3 at *
      have hS0 : Below W3.heap.size W3 W3.drew := (Below.refl _ W3).drew
      have cq : ∀ wx, Below W3.heap.size W3 wx → wx.cell? ⟨w2.heap.size, 0, none⟩ = some (.bool nn) ∧ wx.cell? ⟨w2.heap.size, 1, none⟩ = some (.int .u64 0) ∧ wx.cell? ⟨w2.heap.size, 2, none⟩ = some (.int .u64 (M : Int)) ∧ wx.cell? ⟨w2.heap.size, 3, none⟩ = some (.int .i64 0) := fun wx hx => (hR.below hx hR.lt).four
      have wc3 : IntKind.i64.wrap (M : Int) = (M : Int) := by rw [IntKind.wrap_i64]; omega
      clear x0 x1 x2 x3
      refine wp_region_M (fun wx : World => Below W3.heap.size W3 wx) (fun j => decide (j < 8)) 8 rfl (by kernel_rfl) ?_
      refine wpM_held 0 (v := ?_) rfl (by kernel_rfl) (by kernel_rfl) rfl (fun _ _ _ h => h) rfl (by intro wx hx; go_simp <;> rfl) hS0 ?_
      refine wpM_held 1 (v := .int .u64 (M : Int)) rfl (by kernel_rfl) (by kernel_rfl) rfl (fun _ _ _ h => h) rfl (by intro wx hx; obtain ⟨x0, x1, x2, x3⟩ := cq wx hx; go_simp <;> rfl) hS0 ?_
      refine wpM_held 2 (v := .int .i64 (M : Int)) rfl (by kernel_rfl) (by kernel_rfl) rfl (fun _ _ _ h => h) rfl (by intro wx hx; go_simp <;> first | rfl | exact wc3) hS0 ?_
      refine wpM_held 3 (v := .agg #[.bool nn, .int .u64 0, .int .u64 (M : Int), .int .i64 0]) rfl (by kernel_rfl) (by kernel_rfl) rfl (fun _ _ _ h => h) rfl (by intro wx hx; obtain ⟨x0, x1, x2, x3⟩ := cq wx hx; go_simp <;> rfl) hS0 ?_
      refine wpM_one 4 rfl (by kernel_rfl) rfl ?_
      go_wp2_with fail
      refine Calls.mono (HS _).out ?_
      rintro _ w4 ⟨rfl, b4⟩
      have hS4 : Below W3.heap.size W3 w4 := hS0.trans (b4.mono hS0.size)
      clear b4 hS0
      go_wp2_with fail
      refine ⟨fun _ => hS4, ?_⟩
      refine wpM_one 5 rfl (by kernel_rfl) rfl ?_
      go_wp2_with fail
      refine ⟨fun _ => hS4, ?_⟩
      refine wpM_one 6 rfl (by kernel_rfl) rfl ?_
      go_wp2_with fail
      refine ⟨fun _ => hS4, ?_⟩
      refine wpM_one 7 rfl (by kernel_rfl) rfl ?_
      go_wp2_with fail
      refine ⟨fun _ => hS4, ?_⟩
      refine wpM_done (by kernel_rfl) ?_
      have hBe := hB3.trans (hS4.mono hB3.size)
      go_wp2
      go_ret2
      exact ⟨rfl, hBe⟩
    · rw [if_neg (fun h => h2 h.2)]
      by_cases h3 : M < 18446744073709551616
      · rw [show M / 18446744073709551616 = 0 by omega, show M % 18446744073709551616 = M by omega, show ((0 : Nat) : Int) = 0 from rfl] at hLO
        have hMb : decide ((9007199254740992 : Int) < (M : Int)) = true := decide_eq_true (by omega)
        clear h1 h2 h3 HM hsg
        go_enter Tryd.func36, Tryd.ntmps36
        go_wp2_with fail
        refine (hT _ _ hK).mono ?_
        rintro _ W ⟨h1, G, hG, rfl, hR⟩
        obtain ⟨_, _, hB⟩ := two_rows w W _ _ _ _ h1
        obtain ⟨x0, x1, x2, x3⟩ := hR.four
        clear h1 hG hK hT
        go_wp2_with fail
        refine (hLO _).mono ?_
        rintro _ w2 ⟨rfl, h2⟩
        have hB2 := hB.trans (h2.mono hB.size)
        clear h2 hLO x0 x1 x2 x3 hR hB
        have hB3 : ∀ o, Below w.heap.size w (w2.alloc o) := fun o => hB2.alloc hB2.size o
        go_wp2
        go_ret2
        exact ⟨rfl, hB3 _⟩
      · obtain ⟨mh, hmh⟩ : ∃ mh, M / 18446744073709551616 = mh := ⟨_, rfl⟩
        obtain ⟨ml, hml⟩ : ∃ ml, M % 18446744073709551616 = ml := ⟨_, rfl⟩
        rw [hmh, hml] at hLO
        have hne : ((mh : Int) != 0) = true := by simp; omega
        clear h1 h2 h3 HM hsg hmh hml
        go_enter Tryd.func36, Tryd.ntmps36
        go_wp2_with fail
        refine (hT _ _ hK).mono ?_
        rintro _ W ⟨h1, G, hG, rfl, hR⟩
        obtain ⟨_, _, hB⟩ := two_rows w W _ _ _ _ h1
        obtain ⟨x0, x1, x2, x3⟩ := hR.four
        clear h1 hG hK hT
        go_wp2_with fail
        refine (hLO _).mono ?_
        rintro _ w2 ⟨rfl, h2⟩
        have hB2 := hB.trans (h2.mono hB.size)
        clear h2 hLO x0 x1 x2 x3 hR hB
        have hB3 : ∀ o, Below w.heap.size w (w2.alloc o) := fun o => hB2.alloc hB2.size o
        go_wp2
        go_ret2
        exact ⟨rfl, hB3 _⟩
  · rw [if_neg h1] at hLO
    rw [if_neg (fun h => h1 (by unfold M128; omega))]
    unfold pairV wv at hLO
    simp only at hLO
    clear h1 HM hsg
    go_enter Tryd.func36, Tryd.ntmps36
    go_wp2_with fail
    refine (hT _ _ hK).mono ?_
    rintro _ W ⟨h1, G, hG, rfl, hR⟩
    obtain ⟨_, _, hB⟩ := two_rows w W _ _ _ _ h1
    obtain ⟨x0, x1, x2, x3⟩ := hR.four
    clear h1 hG hK hT
    go_wp2_with fail
    refine (hLO _).mono ?_
    rintro _ w2 ⟨rfl, h2⟩
    have hB2 := hB.trans (h2.mono hB.size)
    clear h2 hLO x0 x1 x2 x3 hR hB
    have hB3 : ∀ o, Below w.heap.size w (w2.alloc o) := fun o => hB2.alloc hB2.size o
    go_wp2
    go_ret2
    exact ⟨rfl, hB3 _⟩
end Go.Proofs.YtfbhonjndepjbaaDoor
/- Floor. -/
namespace Go.Proofs.YtfbhonjndepjbaaDoor
open Go.RowKit

set_option maxRecDepth 100000 in
set_option maxHeartbeats 1200000 in
theorem floor_bad (c e : Int) (he : ¬ within e) (w : World) : Calls Tryd.prog 34 #[dv c e] w fun r w' => r = .returned (.tuple #[dv 0 0, .int .i64 1]) ∧ Below w.heap.size w w' := by
  unfold dv
  go_enter Tryd.func34, Tryd.ntmps34
  go_wp2_with fail
  obtain ⟨_, _, hK, _⟩ := three_rows w _ _ _ _ 23 23 23 (Below.refl _ (((w.alloc (.cells #[.int .i64 c, .int .i64 e] 23)).alloc (.cells #[.int .i64 0, .int .i64 0] 23)).alloc (.cells #[.int .i64 c, .int .i64 e] 23)))
  refine (taken1_bad c e _ _ he hK).mono ?_
  rintro _ w1 ⟨h1, rfl⟩
  obtain ⟨_, hZ, _, hB⟩ := three_rows w w1 _ _ _ _ _ _ h1
  obtain ⟨d0, d1⟩ := hZ.duo
  have z := hZ.frozen
  clear h1
  go_wp2
  refine bodyPost_ret (ret_two rfl (g := w.heap.size + 1) rfl rfl (load23 (Row.set2 hZ _ _) rfl)) rfl ⟨rfl, ?_⟩
  repeat (refine below_set ?_ _ _ (by omega))
  exact hB
set_option maxRecDepth 100000 in
set_option maxHeartbeats 1200000 in
theorem floor_up (c e : Int) (hc : I64 c) (he : within e) (hge : 0 ≤ (decW c e).e) (w : World) :
    Calls Tryd.prog 34 #[dv c e] w fun r w' => r = .returned (decV (toldW (some (decW c e)))) ∧ Below w.heap.size w w' := by
  have hT := fun K w (hK : Row w K 23 #[.int .i64 c, .int .i64 e]) => taken1 c e K w hc he hK
  obtain ⟨b1, b2, b3, b4⟩ := dec_bounds hc he
  have hsh := sh_dec c e he.1 he.2 hc.1 hc.2
  have hbig := hsh.big
  have hlo := hsh.lo
  have hhi := hsh.hi
  have hTD := told_true (decW c e) b2 b4.2 b4.1
  rw [show tellW (decW c e).neg (decW c e).n (decW c e).e = toldW (some (decW c e)) from rfl] at hTD
  generalize decW c e = y at *
  obtain ⟨p1, p2, v, hdv⟩ := decV_form (toldW (some y))
  rw [hdv] at hTD ⊢
  clear hdv
  obtain ⟨nn, n, e0⟩ := y
  simp only [Wd.val_eq] at *
  unfold Wd.cells at hT
  simp only at hT
  obtain ⟨nh, hnh⟩ : ∃ q, n / 18446744073709551616 = q := ⟨_, rfl⟩
  obtain ⟨nl, hnl⟩ : ∃ q, n % 18446744073709551616 = q := ⟨_, rfl⟩
  rw [hnh, hnl] at hT
  unfold Wd.cells at hTD
  simp only at hTD
  rw [hnh, hnl] at hTD
  have hge2 : (0 : Int) ≤ e0 := hge
  clear hnh hnl hsh hc he b1 b2 b3 b4 hge
  unfold dv
  go_enter Tryd.func34, Tryd.ntmps34
  go_wp2_with fail
  obtain ⟨_, _, hK, _⟩ := three_rows w _ _ _ _ 23 23 23 (Below.refl _ (((w.alloc (.cells #[.int .i64 c, .int .i64 e] 23)).alloc (.cells #[.int .i64 0, .int .i64 0] 23)).alloc (.cells #[.int .i64 c, .int .i64 e] 23)))
  refine (hT _ _ hK).mono ?_
  rintro _ W ⟨h1, G, hG, rfl, hR⟩
  obtain ⟨_, hZ, _, hB⟩ := three_rows w W _ _ _ _ _ _ h1
  obtain ⟨x0, x1, x2, x3⟩ := hR.four
  have hzl := hZ.lt
  have hgl := hR.lt
  clear h1 hG hK hT
  have hQ := Row.new W 59 #[.bool nn, .int .u64 (nh : Int), .int .u64 (nl : Int), .int .i64 e0]
  have hZ := hZ.alloc (.cells #[.bool nn, .int .u64 (nh : Int), .int .u64 (nl : Int), .int .i64 e0] 59)
  have hB := hB.alloc hB.size (.cells #[.bool nn, .int .u64 (nh : Int), .int .u64 (nl : Int), .int .i64 e0] 59)
  have hne : w.heap.size + 1 ≠ W.heap.size := Nat.ne_of_lt hzl
  have hle : w.heap.size ≤ W.heap.size := by omega
  go_wp2_with fail
  refine (hTD _).mono ?_
  rintro _ w2 ⟨rfl, h2⟩
  have hZ := hZ.below h2 hZ.lt
  have hB := hB.trans (h2.mono hB.size)
  obtain ⟨d0, d1⟩ := hZ.duo
  have z := hZ.frozen
  clear h2 hTD
  go_wp2
  refine bodyPost_ret (ret_two rfl (g := w.heap.size + 1) rfl rfl (load23 (Row.set2 hZ _ _) rfl)) rfl ⟨rfl, ?_⟩
  repeat (refine below_set ?_ _ _ (by omega))
  exact hB
def flR (neg : Bool) (n : Nat) (e0 : Int) (QB B1 : Nat) (w0 : World) (_ : Value) (wr : World) : Prop :=
  ∃ j : Nat, e0 + j ≤ 0 ∧ Row wr QB 59 (Wd.cells ⟨neg, n / 10 ^ j, e0 + j⟩) ∧ Row wr B1 23 #[.int .i64 0, .int .i64 0] ∧ Below w0.heap.size w0 wr
/-- The floor of a number with digits behind the point. -/
def floorW (y : Wd) : Wd := ⟨y.neg, y.n / 10 ^ (-y.e).toNat + (if y.neg then 1 else 0), 0⟩
set_option maxRecDepth 100000 in
set_option maxHeartbeats 1200000 in
theorem floor_down (c e : Int) (hc : I64 c) (he : within e) (hge : (decW c e).e < 0) (w : World) :
    Calls Tryd.prog 34 #[dv c e] w fun r w' => r = .returned (decV (toldW (some (floorW (decW c e))))) ∧ Below w.heap.size w w' := by
  have hT := fun K w (hK : Row w K 23 #[.int .i64 c, .int .i64 e]) => taken1 c e K w hc he hK
  obtain ⟨b1, b2, b3, b4⟩ := dec_bounds hc he
  have hsh := sh_dec c e he.1 he.2 hc.1 hc.2
  have hbig := hsh.big
  have hlo := hsh.lo
  have hhi := hsh.hi
  unfold floorW
  generalize decW c e = y at *
  obtain ⟨nn, n, e0⟩ := y
  simp only at *
  have hMl : ∀ j, n / 10 ^ j ≤ 9223372036854775808 := fun j => Nat.le_trans (Nat.div_le_self _ _) hbig
  have hTD := told_true ⟨nn, n / 10 ^ (-e0).toNat + (if nn then 1 else 0), 0⟩ (by have := hMl (-e0).toNat; unfold M128; simp only; split <;> omega) (by simp only; omega) (by simp only; omega)
  rw [show tellW _ _ _ = toldW (some ⟨nn, n / 10 ^ (-e0).toNat + (if nn then 1 else 0), 0⟩) from rfl] at hTD
  obtain ⟨p1, p2, v, hdv⟩ := decV_form (toldW (some ⟨nn, n / 10 ^ (-e0).toNat + (if nn then 1 else 0), 0⟩))
  rw [hdv] at hTD ⊢
  clear hdv
  unfold Wd.cells at hT
  simp only at hT
  obtain ⟨nh, hnh⟩ : ∃ q, n / 18446744073709551616 = q := ⟨_, rfl⟩
  obtain ⟨nl, hnl⟩ : ∃ q, n % 18446744073709551616 = q := ⟨_, rfl⟩
  rw [hnh, hnl] at hT
  have HNH : Hid (n / 18446744073709551616 = nh) := hnh
  have HNL : Hid (n % 18446744073709551616 = nl) := hnl
  have hge2 : ¬ (0 : Int) ≤ e0 := by omega
  clear hnh hnl hsh hc he b1 b2 b3 b4 hge
  unfold dv
  go_enter Tryd.func34, Tryd.ntmps34
  go_wp2_with fail
  obtain ⟨_, _, hK, _⟩ := three_rows w _ _ _ _ 23 23 23 (Below.refl _ (((w.alloc (.cells #[.int .i64 c, .int .i64 e] 23)).alloc (.cells #[.int .i64 0, .int .i64 0] 23)).alloc (.cells #[.int .i64 c, .int .i64 e] 23)))
  refine (hT _ _ hK).mono ?_
  rintro _ W ⟨h1, G, hG, rfl, hR⟩
  obtain ⟨_, hZ, _, hB⟩ := three_rows w W _ _ _ _ _ _ h1
  obtain ⟨x0, x1, x2, x3⟩ := hR.four
  have hzl := hZ.lt
  have hgl := hR.lt
  clear h1 hG hK hT
  have hQ := Row.new W 59 #[.bool nn, .int .u64 (nh : Int), .int .u64 (nl : Int), .int .i64 e0]
  have hZ := hZ.alloc (.cells #[.bool nn, .int .u64 (nh : Int), .int .u64 (nl : Int), .int .i64 e0] 59)
  have hB := hB.alloc hB.size (.cells #[.bool nn, .int .u64 (nh : Int), .int .u64 (nl : Int), .int .i64 e0] 59)
  have hne : w.heap.size + 1 ≠ W.heap.size := Nat.ne_of_lt hzl
  have hle : w.heap.size ≤ W.heap.size := by omega
  go_wp2_with fail
  go_loopw [30] (flR nn n e0 W.heap.size (w.heap.size + 1) w) (fun _ wr => (- eCell W.heap.size wr).toNat)
  case atStart =>
    refine ⟨0, by omega, ?_, hZ, hB⟩
    unfold Wd.cells
    simp only [Nat.pow_zero, Nat.div_one]
    rw [HNH.out, HNL.out, show e0 + ((0 : Nat) : Int) = e0 by omega]
    exact hQ
  case round =>
    clear hQ hZ hB x0 x1 x2 x3
    obtain ⟨j, hj, hQ, hZ, hB⟩ := hrel
    have hEC := eCell_row hQ
    have hml := hMl j
    have HMJ : Hid (n / 10 ^ (j + 1) = n / 10 ^ j / 10) := by show _ = _; rw [Nat.pow_succ, Nat.div_div_eq_div_mul]
    obtain ⟨m, hm⟩ : ∃ m, n / 10 ^ j = m := ⟨_, rfl⟩
    obtain ⟨f, hf⟩ : ∃ f, e0 + (j : Int) = f := ⟨_, rfl⟩
    rw [hm] at hml
    unfold Wd.cells at hQ
    simp only [hm, hf] at hQ hEC
    have hm1 : m / 18446744073709551616 = 0 := by omega
    have hm2 : m % 18446744073709551616 = m := by omega
    rw [hm1, hm2] at hQ
    have hQ : Row wr W.heap.size 59 #[.bool nn, .int .u64 0, .int .u64 (m : Int), .int .i64 f] := hQ
    have HM : Hid (n / 10 ^ j = m) := hm
    have HF : Hid (e0 + (j : Int) = f) := hf
    obtain ⟨a0, a1, a2, a3⟩ := hQ.four
    have z0 := hQ.frozen
    by_cases hlt : f < 0
    · have hTn := tenth_any ⟨nn, m, f⟩ (by unfold M128; simp only; omega) (by simp only; omega) (by simp only; omega)
      simp only [Wd.val_eq] at hTn
      unfold Wd.cells at hTn
      simp only [hm1, hm2] at hTn
      obtain ⟨m', hm'⟩ : ∃ m', m / 10 = m' := ⟨_, rfl⟩
      obtain ⟨dg, hdg⟩ : ∃ dg, m % 10 = dg := ⟨_, rfl⟩
      rw [hm', hdg, show m' / 18446744073709551616 = 0 by omega, show m' % 18446744073709551616 = m' by omega] at hTn
      simp only [show ((0 : Nat) : Int) = 0 from rfl] at hTn
      have HM' : Hid (m / 10 = m') := hm'
      have hml' : m' ≤ 9223372036854775808 := by omega
      clear hm hf hm1 hm2 hm' hdg hTD HNH HNL
      go_wp2_with fail
      refine (hTn _).mono ?_
      rintro _ w2 ⟨rfl, h2⟩
      have hQ := hQ.below h2 hQ.lt
      have hZ := hZ.below h2 hZ.lt
      have hB := hB.trans (h2.mono hB.size)
      clear h2 hTn a0 a1 a2 a3 z0
      obtain ⟨a0, a1, a2, a3⟩ := hQ.four
      have z0 := hQ.frozen
      go_wp2
      have hfin : Row ((((w2.setCell ⟨W.heap.size, 0, none⟩ (.bool nn)).setCell ⟨W.heap.size, 1, none⟩ (.int .u64 0)).setCell ⟨W.heap.size, 2, none⟩ (.int .u64 (m' : Int))).setCell ⟨W.heap.size, 3, none⟩ (.int .i64 (f + 1))) W.heap.size 59 (Wd.cells ⟨nn, n / 10 ^ (j + 1), e0 + ((j + 1 : Nat) : Int)⟩) := by
        unfold Wd.cells
        simp only
        rw [HMJ.out, HM.out, HM'.out, show m' / 18446744073709551616 = 0 by omega, show m' % 18446744073709551616 = m' by omega, show e0 + ((j + 1 : Nat) : Int) = f + 1 by have := HF.out; omega]
        exact hQ.set4 _ _ _ _
      refine ⟨⟨j + 1, ?_, hfin, hZ.off4 hne _ _ _ _, below_set4 hB hle _ _ _ _⟩, ?_⟩
      · have := HF.out; omega
      · rw [eCell_row hfin, hEC]
        have := HF.out
        simp only
        omega
    · have hfe : f = 0 := by omega
      have hTe : n / 10 ^ (-e0).toNat = m := by rw [show (-e0).toNat = j by omega, hm]
      rw [hTe, Wd.val_eq] at hTD
      unfold Wd.cells at hTD
      simp only at hTD
      subst hfe
      cases nn with
      | false =>
        simp only [Bool.false_eq_true, if_false, Nat.add_zero] at hTD
        rw [hm1, hm2, show ((0 : Nat) : Int) = 0 from rfl] at hTD
        clear hm hf hm1 hm2 hTe HNH HNL
        go_wp2_with fail
        refine (hTD _).mono ?_
        rintro _ w3 ⟨rfl, h3⟩
        have hZ := hZ.below h3 hZ.lt
        have hB := hB.trans (h3.mono hB.size)
        obtain ⟨d0, d1⟩ := hZ.duo
        have z := hZ.frozen
        clear h3 hTD a0 a1 a2 a3 z0
        go_wp2
        refine bodyPost_ret (ret_two rfl (g := w.heap.size + 1) rfl rfl (load23 (Row.set2 hZ _ _) rfl)) rfl ⟨rfl, ?_⟩
        repeat (refine below_set ?_ _ _ (by omega))
        exact hB
      | true =>
        simp only [if_true] at hTD
        obtain ⟨m5, hm5⟩ : ∃ m5, m + 1 = m5 := ⟨_, rfl⟩
        rw [hm5, show m5 / 18446744073709551616 = 0 by omega, show m5 % 18446744073709551616 = m5 by omega, show ((0 : Nat) : Int) = 0 from rfl] at hTD
        have f5 : (m : Int) + 1 = (m5 : Int) := by omega
        have F5 : Hid ((m : Int) + 1 = (m5 : Int)) := f5
        have hm5b : m5 < 18446744073709551616 := by omega
        have hQ := hQ.set 2 (.int .u64 (m5 : Int))
        have hQ : Row (wr.setCell ⟨W.heap.size, 2, none⟩ (.int .u64 (m5 : Int))) W.heap.size 59 #[.bool true, .int .u64 0, .int .u64 (m5 : Int), .int .i64 0] := hQ
        have hZ := hZ.off (B' := W.heap.size) 2 (.int .u64 (m5 : Int)) hne
        have hB := below_set hB (B := W.heap.size) 2 (.int .u64 (m5 : Int)) hle
        clear hm hf hm1 hm2 hTe f5 hm5 HNH HNL
        go_wp2_with fail
        try rw [F5.out]
        refine (hTD _).mono ?_
        rintro _ w3 ⟨rfl, h3⟩
        have hZ := hZ.below h3 hZ.lt
        have hB := hB.trans (h3.mono hB.size)
        obtain ⟨d0, d1⟩ := hZ.duo
        have z := hZ.frozen
        clear h3 hTD a0 a1 a2 a3 z0
        go_wp2
        refine bodyPost_ret (ret_two rfl (g := w.heap.size + 1) rfl rfl (load23 (Row.set2 hZ _ _) rfl)) rfl ⟨rfl, ?_⟩
        repeat (refine below_set ?_ _ _ (by omega))
        exact hB
end Go.Proofs.YtfbhonjndepjbaaDoor
