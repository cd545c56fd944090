import Derived.Test.YtfbhonjndepjbaaDoorWalM
import Derived.Deep.CutBlock
import Derived.Deep.DeepCutAuto
/- Int. -/
namespace Go.Proofs.YtfbhonjndepjbaaDoor
open Go.RowKit

/-- A number as an int, if it is whole and not too great. -/
def intW (y : Wd) : Value := if 0 ≤ y.e ∧ y.n * 10 ^ y.e.toNat ≤ 9007199254740992 then .tuple #[.int .i64 (sc y * 10 ^ y.e.toNat), .bool true] else .tuple #[.int .i64 0, .bool false]
set_option maxRecDepth 100000 in
set_option maxHeartbeats 1200000 in
theorem int_neg (c e : Int) (hc : I64 c) (he : within e) (hge : (decW c e).e < 0) (w : World) : Calls Tryd.prog 36 #[dv c e] w fun r w' => r = .returned (.tuple #[.int .i64 0, .bool false]) ∧ Below w.heap.size w w' := by
  have hT := fun K w (hK : Row w K 23 #[.int .i64 c, .int .i64 e]) => taken1 c e K w hc he hK
  generalize decW c e = y at *
  obtain ⟨nn, n, e0⟩ := y
  unfold Wd.cells at hT
  simp only at hT hge
  unfold dv
  clear hc he
  have hK := Row.new1 w (.cells #[.int .i64 c, .int .i64 e] 23) 23 #[.int .i64 c, .int .i64 e]
  go_enter Tryd.func36, Tryd.ntmps36
  go_wp2_with fail
  refine (hT _ _ hK).mono ?_
  rintro _ W ⟨h1, G, hG, rfl, hR⟩
  obtain ⟨_, _, hB⟩ := two_rows w W _ _ _ _ h1
  obtain ⟨x0, x1, x2, x3⟩ := hR.four
  clear h1 hG hK hT
  go_wp2
  go_ret2
  exact ⟨rfl, hB⟩
set_option maxRecDepth 100000 in
set_option maxHeartbeats 2000000 in
theorem int_ok (c e : Int) (hc : I64 c) (he : within e) (hge : 0 ≤ (decW c e).e) (w : World) : Calls Tryd.prog 36 #[dv c e] w fun r w' => r = .returned (intW (decW c e)) ∧ Below w.heap.size w w' := by
  have hT := fun K w (hK : Row w K 23 #[.int .i64 c, .int .i64 e]) => taken1 c e K w hc he hK
  have hsh := sh_dec c e he.1 he.2 hc.1 hc.2
  have hbig := hsh.big
  have hhi := hsh.hi
  generalize decW c e = y at *
  have hLO := lowered_any y 0 (by unfold M128; omega) (by omega) (by omega) (by decide)
  have hls : lowW y 0 = if y.n * 10 ^ y.e.toNat < M128 then some ⟨y.neg, y.n * 10 ^ y.e.toNat, 0⟩ else none := by
    unfold lowW
    by_cases h0 : y.e ≤ 0
    · have : y.e = 0 := by omega
      rw [if_pos h0, this, if_pos (by simp; unfold M128; omega)]
      obtain ⟨a, b, d⟩ := y
      simp only at this
      simp [this]
    · rw [if_neg h0, show (y.e - 0).toNat = y.e.toNat by omega]
  rw [hls] at hLO
  have hsg := fun x => sign_W x
  unfold intW sc
  obtain ⟨nn, n, e0⟩ := y
  simp only [Wd.val_eq] at *
  unfold Wd.cells at hT hLO
  simp only at hT hLO hge
  obtain ⟨M, hM⟩ : ∃ M, n * 10 ^ e0.toNat = M := ⟨_, rfl⟩
  have HM : Hid (n * 10 ^ e0.toNat = M) := hM
  rw [hM] at hLO ⊢
  obtain ⟨nh, hnh⟩ : ∃ q, n / 18446744073709551616 = q := ⟨_, rfl⟩
  obtain ⟨nl, hnl⟩ : ∃ q, n % 18446744073709551616 = q := ⟨_, rfl⟩
  rw [hnh, hnl] at hT hLO
  unfold dv
  have hK := Row.new1 w (.cells #[.int .i64 c, .int .i64 e] 23) 23 #[.int .i64 c, .int .i64 e]
  have hge2 : ¬ (e0 < 0) := by omega
  clear hc he hsh hnh hnl hls hM
  by_cases h1 : M < M128
  · rw [if_pos h1] at hLO
    unfold pairV at hLO
    simp only [Wd.val_eq] at hLO
    unfold Wd.cells at hLO
    simp only at hLO
    by_cases h2 : M ≤ 9007199254740992
    · rw [if_pos ⟨hge, h2⟩]
      rw [show M / 18446744073709551616 = 0 by omega, show M % 18446744073709551616 = M by omega, show ((0 : Nat) : Int) = 0 from rfl] at hLO
      have hS := hsg ⟨nn, M, 0⟩
      unfold Wd.cells at hS
      simp only at hS
      rw [show M / 18446744073709551616 = 0 by omega, show M % 18446744073709551616 = M by omega, show ((0 : Nat) : Int) = 0 from rfl] at hS
      obtain ⟨sg, hsge⟩ : ∃ sg, sgW ⟨nn, M, 0⟩ = sg := ⟨_, rfl⟩
      rw [hsge] at hS
      have hsb : -1 ≤ sg ∧ sg ≤ 1 := by rw [← hsge]; exact sgW_bd _
      obtain ⟨pv, hpv⟩ : ∃ pv, (M : Int) * sg = pv := ⟨_, rfl⟩
      have hpb : -9007199254740992 ≤ pv ∧ pv ≤ 9007199254740992 := by
        rw [← hpv]
        rcases (show sg = -1 ∨ sg = 0 ∨ sg = 1 by omega) with h | h | h <;> subst h <;> omega
      have HPV : Hid (pv = (if nn = true then -(n : Int) else (n : Int)) * 10 ^ e0.toNat) := by
        show _ = _
        have hMi : (M : Int) = (n : Int) * 10 ^ e0.toNat := by rw [← HM.out, Int.natCast_mul, Int.natCast_pow]; rfl
        rw [← hpv, ← hsge]
        unfold sgW
        by_cases hM0 : M = 0
        · simp only [hM0, if_true]
          have hn0 : n = 0 := by
            have h5 := HM.out
            rw [hM0] at h5
            rcases Nat.mul_eq_zero.1 h5 with h | h
            · exact h
            · exact absurd h (by have : 0 < 10 ^ e0.toNat := Nat.pow_pos (by decide); omega)
          subst hn0
          simp
        · simp only [hM0, if_false]
          cases nn
          · simp [hMi]
          · simp [hMi, Int.neg_mul]
      have HS : ∀ V, Hid (Calls Tryd.prog 66 #[.agg #[.bool nn, .int .u64 0, .int .u64 (M : Int), .int .i64 0]] V fun r w' => r = .returned (.int .i64 sg) ∧ Below V.heap.size V w') := hS
      have wm : IntKind.i64.wrap ((M : Int) * sg) = pv := by rw [hpv, IntKind.wrap_i64]; omega
      rw [← HPV.out]
      clear h1 HM hsg hS hsge hpv
      have hMb : (M : Int) ≤ 9007199254740992 := by omega
      go_enter Tryd.func36, Tryd.ntmps36
      go_wp2_with fail
      refine (hT _ _ hK).mono ?_
      rintro _ W ⟨h1, G, hG, rfl, hR⟩
      obtain ⟨_, _, hB⟩ := two_rows w W _ _ _ _ h1
      obtain ⟨x0, x1, x2, x3⟩ := hR.four
      clear h1 hG hK hT
      go_wp2_with fail
      refine (hLO _).mono ?_
      rintro _ w2 ⟨rfl, h2⟩
      have hB2 := hB.trans (h2.mono hB.size)
      clear h2 hLO x0 x1 x2 x3 hR hB
      have hR := Row.new w2 59 #[.bool nn, .int .u64 0, .int .u64 (M : Int), .int .i64 0]
      have hB3 := hB2.alloc hB2.size (.cells #[.bool nn, .int .u64 0, .int .u64 (M : Int), .int .i64 0] 59)
      obtain ⟨x0, x1, x2, x3⟩ := hR.four
      go_upto_region 7 with fail
      generalize w2.alloc (.cells #[.bool nn, .int .u64 0, .int .u64 (M : Int), .int .i64 0] 59) = W3 at *
      have hS0 : Below W3.heap.size W3 W3.drew := (Below.refl _ W3).drew
      have cq : ∀ wx, Below W3.heap.size W3 wx → wx.cell? ⟨w2.heap.size, 0, none⟩ = some (.bool nn) ∧ wx.cell? ⟨w2.heap.size, 1, none⟩ = some (.int .u64 0) ∧ wx.cell? ⟨w2.heap.size, 2, none⟩ = some (.int .u64 (M : Int)) ∧ wx.cell? ⟨w2.heap.size, 3, none⟩ = some (.int .i64 0) := fun wx hx => (hR.below hx hR.lt).four
      have wc3 : IntKind.i64.wrap (M : Int) = (M : Int) := by rw [IntKind.wrap_i64]; omega
      clear x0 x1 x2 x3
      refine wp_region_M (fun wx : World => Below W3.heap.size W3 wx) (fun j => decide (j < 8)) 8 rfl (by kernel_rfl) ?_
      refine wpM_held 0 (v := ?_) rfl (by kernel_rfl) (by kernel_rfl) rfl (fun _ _ _ h => h) rfl (by intro wx hx; go_simp <;> rfl) hS0 ?_
      refine wpM_held 1 (v := .int .u64 (M : Int)) rfl (by kernel_rfl) (by kernel_rfl) rfl (fun _ _ _ h => h) rfl (by intro wx hx; obtain ⟨x0, x1, x2, x3⟩ := cq wx hx; go_simp <;> rfl) hS0 ?_
      refine wpM_held 2 (v := .int .i64 (M : Int)) rfl (by kernel_rfl) (by kernel_rfl) rfl (fun _ _ _ h => h) rfl (by intro wx hx; go_simp <;> first | rfl | exact wc3) hS0 ?_
      refine wpM_held 3 (v := .agg #[.bool nn, .int .u64 0, .int .u64 (M : Int), .int .i64 0]) rfl (by kernel_rfl) (by kernel_rfl) rfl (fun _ _ _ h => h) rfl (by intro wx hx; obtain ⟨x0, x1, x2, x3⟩ := cq wx hx; go_simp <;> rfl) hS0 ?_
      refine wpM_one 4 rfl (by kernel_rfl) rfl ?_
      go_wp2_with fail
      refine Calls.mono (HS _).out ?_
      rintro _ w4 ⟨rfl, b4⟩
      have hS4 : Below W3.heap.size W3 w4 := hS0.trans (b4.mono hS0.size)
      clear b4 hS0
      go_wp2_with fail
      refine ⟨fun _ => hS4, ?_⟩
      refine wpM_one 5 rfl (by kernel_rfl) rfl ?_
      go_wp2_with fail
      refine ⟨fun _ => hS4, ?_⟩
      refine wpM_one 6 rfl (by kernel_rfl) rfl ?_
      go_wp2_with fail
      refine ⟨fun _ => hS4, ?_⟩
      refine wpM_one 7 rfl (by kernel_rfl) rfl ?_
      go_wp2_with fail
      refine ⟨fun _ => hS4, ?_⟩
      refine wpM_done (by kernel_rfl) ?_
      have hBe := hB3.trans (hS4.mono hB3.size)
      go_wp2
      go_ret2
      exact ⟨rfl, hBe⟩
    · rw [if_neg (fun h => h2 h.2)]
      by_cases h3 : M < 18446744073709551616
      · rw [show M / 18446744073709551616 = 0 by omega, show M % 18446744073709551616 = M by omega, show ((0 : Nat) : Int) = 0 from rfl] at hLO
        have hMb : decide ((9007199254740992 : Int) < (M : Int)) = true := decide_eq_true (by omega)
        clear h1 h2 h3 HM hsg
        go_enter Tryd.func36, Tryd.ntmps36
        go_wp2_with fail
        refine (hT _ _ hK).mono ?_
        rintro _ W ⟨h1, G, hG, rfl, hR⟩
        obtain ⟨_, _, hB⟩ := two_rows w W _ _ _ _ h1
        obtain ⟨x0, x1, x2, x3⟩ := hR.four
        clear h1 hG hK hT
        go_wp2_with fail
        refine (hLO _).mono ?_
        rintro _ w2 ⟨rfl, h2⟩
        have hB2 := hB.trans (h2.mono hB.size)
        clear h2 hLO x0 x1 x2 x3 hR hB
        have hB3 : ∀ o, Below w.heap.size w (w2.alloc o) := fun o => hB2.alloc hB2.size o
        go_wp2
        go_ret2
        exact ⟨rfl, hB3 _⟩
      · obtain ⟨mh, hmh⟩ : ∃ mh, M / 18446744073709551616 = mh := ⟨_, rfl⟩
        obtain ⟨ml, hml⟩ : ∃ ml, M % 18446744073709551616 = ml := ⟨_, rfl⟩
        rw [hmh, hml] at hLO
        have hne : ((mh : Int) != 0) = true := by simp; omega
        clear h1 h2 h3 HM hsg hmh hml
        go_enter Tryd.func36, Tryd.ntmps36
        go_wp2_with fail
        refine (hT _ _ hK).mono ?_
        rintro _ W ⟨h1, G, hG, rfl, hR⟩
        obtain ⟨_, _, hB⟩ := two_rows w W _ _ _ _ h1
        obtain ⟨x0, x1, x2, x3⟩ := hR.four
        clear h1 hG hK hT
        go_wp2_with fail
        refine (hLO _).mono ?_
        rintro _ w2 ⟨rfl, h2⟩
        have hB2 := hB.trans (h2.mono hB.size)
        clear h2 hLO x0 x1 x2 x3 hR hB
        have hB3 : ∀ o, Below w.heap.size w (w2.alloc o) := fun o => hB2.alloc hB2.size o
        go_wp2
        go_ret2
        exact ⟨rfl, hB3 _⟩
  · rw [if_neg h1] at hLO
    rw [if_neg (fun h => h1 (by unfold M128; omega))]
    unfold pairV wv at hLO
    simp only at hLO
    clear h1 HM hsg
    go_enter Tryd.func36, Tryd.ntmps36
    go_wp2_with fail
    refine (hT _ _ hK).mono ?_
    rintro _ W ⟨h1, G, hG, rfl, hR⟩
    obtain ⟨_, _, hB⟩ := two_rows w W _ _ _ _ h1
    obtain ⟨x0, x1, x2, x3⟩ := hR.four
    clear h1 hG hK hT
    go_wp2_with fail
    refine (hLO _).mono ?_
    rintro _ w2 ⟨rfl, h2⟩
    have hB2 := hB.trans (h2.mono hB.size)
    clear h2 hLO x0 x1 x2 x3 hR hB
    have hB3 : ∀ o, Below w.heap.size w (w2.alloc o) := fun o => hB2.alloc hB2.size o
    go_wp2
    go_ret2
    exact ⟨rfl, hB3 _⟩
end Go.Proofs.YtfbhonjndepjbaaDoor
