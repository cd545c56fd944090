import Derived.Test.YtfbhonjndepjbaaDoorWdvM
/- told: the right Dec for a number in the making. -/
namespace Go.Proofs.YtfbhonjndepjbaaDoor
open Go.RowKit

def decV (o : Option (Int × Int)) : Value := match o with | some (c, e) => .tuple #[dv c e, .int .i64 0] | none => .tuple #[dv 0 0, .int .i64 30]
theorem signed_W (x : Wd) (h : x.n < M128) (w : World) : Calls Tryd.prog 83 #[x.val] w fun r w' =>
    r = .returned (if x.n ≤ 9223372036854775807 + x.neg.toNat then .tuple #[.int .i64 (sc x), .bool true] else .tuple #[.int .i64 0, .bool false]) ∧ Below w.heap.size w w' := by
  obtain ⟨neg, n, e⟩ := x
  refine (signed_any neg (n / 18446744073709551616) (n % 18446744073709551616) e w).mono ?_
  rintro r w' ⟨rfl, hB⟩
  refine ⟨?_, hB⟩
  unfold M128 at h
  simp only at h ⊢
  congr 1
  have hn : neg.toNat ≤ 1 := Bool.toNat_le neg
  by_cases hc : n ≤ 9223372036854775807 + neg.toNat
  · rw [if_pos hc, if_pos (by omega), show n % 18446744073709551616 = n by omega]
    unfold sc; cases neg <;> rfl
  · rw [if_neg hc, if_neg (by omega)]
theorem Row.set2 {W : World} {B : Nat} {t : TypeId} {a b : Value} (h : Row W B t #[a, b]) (a' b' : Value) :
    Row ((W.setCell ⟨B, 0, none⟩ a').setCell ⟨B, 1, none⟩ b') B t #[a', b'] := (h.set 0 a').set 1 b'
/-- The Dec of a number whose noughts are gone. -/
def endV (z : Wd) : Option (Int × Int) := if z.n ≤ 9223372036854775807 + z.neg.toNat ∧ -18 ≤ z.e ∧ z.e ≤ 18 then some (sc z, z.e) else none
theorem tellW_end (x : Wd) (h : x.n < M128) : tellW x.neg x.n x.e = (if 18 < (shortW x).e then (match lowW (shortW x) 18 with | some z => endV z | none => none) else endV (shortW x)) := by
  obtain ⟨neg, n, e⟩ := x
  simp only at h ⊢
  unfold tellW shortW
  by_cases hn : n = 0
  · subst hn; rfl
  · rw [if_neg hn, if_neg hn]
    simp only
    obtain ⟨k, a1, a2, a3, a4, a5⟩ := strip_spec n e hn
    generalize strip n e = p at *
    obtain ⟨m, f⟩ := p
    simp only at *
    unfold raise
    simp only
    by_cases hf : 18 < f
    · have hl : lowW ⟨neg, m, f⟩ 18 = if m * 10 ^ (f - 18).toNat < M128 then some ⟨neg, m * 10 ^ (f - 18).toNat, 18⟩ else none := by
        unfold lowW; rw [if_neg (by simp only; omega)]
      rw [if_pos hf, if_pos hf, hl]
      generalize m * 10 ^ (f - 18).toNat = q
      simp only
      have hb := Bool.toNat_le neg
      by_cases hq : q ≤ 9223372036854775807 + neg.toNat
      · have hM : q < M128 := by unfold M128; omega
        have h1 : q ≤ 9223372036854775807 + neg.toNat ∧ (-18 : Int) ≤ 18 := ⟨hq, by omega⟩
        have h2 : q ≤ 9223372036854775807 + neg.toNat ∧ (-18 : Int) ≤ 18 ∧ (18 : Int) ≤ 18 := ⟨hq, by omega, by omega⟩
        simp only [if_pos h1, if_pos hM]
        unfold endV sc
        simp only [if_pos h2]
      · have h1 : ¬ (q ≤ 9223372036854775807 + neg.toNat ∧ (-18 : Int) ≤ 18) := fun hx => hq hx.1
        have h2 : ¬ (q ≤ 9223372036854775807 + neg.toNat ∧ (-18 : Int) ≤ 18 ∧ (18 : Int) ≤ 18) := fun hx => hq hx.1
        by_cases hM : q < M128
        · simp only [if_neg h1, if_pos hM]
          unfold endV
          simp only [if_neg h2]
        · simp only [if_neg h1, if_neg hM]
    · unfold endV sc
      by_cases hc : m ≤ 9223372036854775807 + neg.toNat ∧ -18 ≤ f
      · have h2 : m ≤ 9223372036854775807 + neg.toNat ∧ -18 ≤ f ∧ f ≤ 18 := ⟨hc.1, hc.2, by omega⟩
        simp only [if_neg hf, if_pos hc, if_pos h2]
      · have h2 : ¬ (m ≤ 9223372036854775807 + neg.toNat ∧ -18 ≤ f ∧ f ≤ 18) := fun hx => hc ⟨hx.1, hx.2.1⟩
        simp only [if_neg hf, if_neg hc, if_neg h2]

set_option maxRecDepth 100000 in
set_option maxHeartbeats 2000000 in
theorem told_false (x : Wd) (h : x.n < M128) (he : x.e ≤ 9223372036854775807) (he0 : -9223372036854775808 ≤ x.e) (w : World) :
    Calls Tryd.prog 50 #[x.val, .bool false] w fun r w' => r = .returned (decV none) ∧ Below w.heap.size w w' := by
  have h1 := short_any x h he he0
  have hlt : (shortW x).n < M128 := by
    unfold shortW
    split
    · decide
    · rename_i hn
      obtain ⟨k, a1, _⟩ := strip_spec x.n x.e hn
      have hp := ten_pos k
      have := Nat.le_mul_of_pos_right (strip x.n x.e).1 hp
      simp only
      omega
  have hS := signed_W (shortW x) hlt
  generalize shortW x = y at *
  simp only [Wd.val_eq] at h1 hS ⊢
  unfold Wd.cells at h1 hS ⊢
  obtain ⟨xn, x', xe⟩ := x
  obtain ⟨zn, z', ze⟩ := y
  simp only at *
  obtain ⟨xh, hxh⟩ : ∃ q, x' / 18446744073709551616 = q := ⟨_, rfl⟩
  obtain ⟨xl, hxl⟩ : ∃ q, x' % 18446744073709551616 = q := ⟨_, rfl⟩
  obtain ⟨zh, hzh⟩ : ∃ q, z' / 18446744073709551616 = q := ⟨_, rfl⟩
  obtain ⟨zl, hzl⟩ : ∃ q, z' % 18446744073709551616 = q := ⟨_, rfl⟩
  rw [hxh, hxl] at h1 ⊢
  rw [hzh, hzl] at h1 hS
  unfold decV dv
  simp only
  clear hxh hxl hzh hzl h he he0 hlt
  have hne : w.heap.size + 1 ≠ w.heap.size := by omega
  by_cases hc : z' ≤ 9223372036854775807 + zn.toNat
  · simp only [if_pos hc] at hS
    generalize sc ⟨zn, z', ze⟩ = cc at hS
    clear hc
    go_enter Tryd.func50, Tryd.ntmps50
    go_wp2_with fail
    refine (h1 _).mono ?_
    rintro _ w1 ⟨rfl, hB1⟩
    obtain ⟨hA0, hZ0, hB0⟩ := two_rows w w1 _ _ _ _ hB1
    obtain ⟨a0, a1, a2, a3⟩ := hA0.four
    have z0 := hA0.frozen
    have hA := hA0.set4 (.bool zn) (.int .u64 (zh : Int)) (.int .u64 (zl : Int)) (.int .i64 ze)
    have hZ := (((hZ0.off 0 (.bool zn) hne).off 1 (.int .u64 (zh : Int)) hne).off 2 (.int .u64 (zl : Int)) hne).off 3 (.int .i64 ze) hne
    have hB := below_set (below_set (below_set (below_set hB0 0 (.bool zn) (Nat.le_refl _)) 1 (.int .u64 (zh : Int)) (Nat.le_refl _)) 2 (.int .u64 (zl : Int)) (Nat.le_refl _)) 3 (.int .i64 ze) (Nat.le_refl _)
    clear h1 hB1
    go_wp2_with fail
    refine (hS _).mono ?_
    rintro _ w9 ⟨rfl, hB9⟩
    have hA9 := hA.below hB9 hA.lt
    have hZ9 := hZ.below hB9 hZ.lt
    have hBB := hB.trans (hB9.mono (by have := hZ.lt; omega))
    obtain ⟨g0, g1, g2, g3⟩ := hA9.four
    obtain ⟨y0, y1⟩ := hZ9.duo
    have z9 := hZ9.frozen
    clear hA hZ hS hB9
    go_wp2
    refine bodyPost_ret (ret_two rfl (g := w.heap.size + 1) rfl rfl (load23 (Row.set2 hZ9 _ _) rfl)) rfl ⟨by first | rfl | (rw [HF.out]; rfl), ?_⟩
    repeat (refine below_set ?_ _ _ (by omega))
    exact hBB
  · simp only [if_neg hc] at hS
    clear hc
    go_enter Tryd.func50, Tryd.ntmps50
    go_wp2_with fail
    refine (h1 _).mono ?_
    rintro _ w1 ⟨rfl, hB1⟩
    obtain ⟨hA0, hZ0, hB0⟩ := two_rows w w1 _ _ _ _ hB1
    obtain ⟨a0, a1, a2, a3⟩ := hA0.four
    have z0 := hA0.frozen
    have hA := hA0.set4 (.bool zn) (.int .u64 (zh : Int)) (.int .u64 (zl : Int)) (.int .i64 ze)
    have hZ := (((hZ0.off 0 (.bool zn) hne).off 1 (.int .u64 (zh : Int)) hne).off 2 (.int .u64 (zl : Int)) hne).off 3 (.int .i64 ze) hne
    have hB := below_set (below_set (below_set (below_set hB0 0 (.bool zn) (Nat.le_refl _)) 1 (.int .u64 (zh : Int)) (Nat.le_refl _)) 2 (.int .u64 (zl : Int)) (Nat.le_refl _)) 3 (.int .i64 ze) (Nat.le_refl _)
    clear h1 hB1
    go_wp2_with fail
    refine (hS _).mono ?_
    rintro _ w9 ⟨rfl, hB9⟩
    have hA9 := hA.below hB9 hA.lt
    have hZ9 := hZ.below hB9 hZ.lt
    have hBB := hB.trans (hB9.mono (by have := hZ.lt; omega))
    obtain ⟨g0, g1, g2, g3⟩ := hA9.four
    obtain ⟨y0, y1⟩ := hZ9.duo
    have z9 := hZ9.frozen
    clear hA hZ hS hB9
    go_wp2
    refine bodyPost_ret (ret_two rfl (g := w.heap.size + 1) rfl rfl (load23 (Row.set2 hZ9 _ _) rfl)) rfl ⟨by first | rfl | (rw [HF.out]; rfl), ?_⟩
    repeat (refine below_set ?_ _ _ (by omega))
    exact hBB

set_option maxRecDepth 100000 in
set_option maxHeartbeats 3000000 in
theorem told_true (x : Wd) (h : x.n < M128) (he : x.e ≤ 9223372036854775807) (he0 : -9223372036854775808 ≤ x.e) (w : World) :
    Calls Tryd.prog 50 #[x.val, .bool true] w fun r w' => r = .returned (decV (tellW x.neg x.n x.e)) ∧ Below w.heap.size w w' := by
  have h1 := short_any x h he he0
  rw [tellW_end x h]
  have hlt : (shortW x).n < M128 ∧ (shortW x).e ≤ 9223372036854775807 ∧ -9223372036854775808 ≤ (shortW x).e := by
    unfold shortW
    split
    · decide
    · rename_i hn
      obtain ⟨k, a1, a2, a3, _⟩ := strip_spec x.n x.e hn
      have hp := ten_pos k
      have := Nat.le_mul_of_pos_right (strip x.n x.e).1 hp
      simp only
      omega
  have hS := signed_W (shortW x) hlt.1
  have hL := lowered_any (shortW x) 18 hlt.1 hlt.2.1 hlt.2.2 (by omega)
  generalize shortW x = y at *
  by_cases h18 : 18 < y.e
  · rw [if_pos h18]
    cases hlow : lowW y 18 with
    | none =>
      rw [hlow] at hL
      simp only [pairV, wv] at hL
      clear hS
      have hS : ∀ w, Calls Tryd.prog 83 #[.agg #[.bool false, .int .u64 0, .int .u64 0, .int .i64 0]] w fun r w' => r = .returned (.tuple #[.int .i64 0, .bool true]) ∧ Below w.heap.size w w' := fun w =>
        (signed_any false 0 0 0 w).mono (by rintro r w' ⟨rfl, hB⟩; exact ⟨rfl, hB⟩)
      simp only [Wd.val_eq] at h1 hL ⊢
      unfold Wd.cells at h1 hL ⊢
      obtain ⟨xn, x', xe⟩ := x
      obtain ⟨zn, z', ze⟩ := y
      simp only at *
      obtain ⟨xh, hxh⟩ : ∃ q, x' / 18446744073709551616 = q := ⟨_, rfl⟩
      obtain ⟨xl, hxl⟩ : ∃ q, x' % 18446744073709551616 = q := ⟨_, rfl⟩
      obtain ⟨zh, hzh⟩ : ∃ q, z' / 18446744073709551616 = q := ⟨_, rfl⟩
      obtain ⟨zl, hzl⟩ : ∃ q, z' % 18446744073709551616 = q := ⟨_, rfl⟩
      rw [hxh, hxl] at h1 ⊢
      rw [hzh, hzl] at h1 hL
      unfold decV dv
      simp only
      clear hxh hxl hzh hzl h he he0 hlt hlow
      have hne : w.heap.size + 1 ≠ w.heap.size := by omega
      go_enter Tryd.func50, Tryd.ntmps50
      go_wp2_with fail
      refine (h1 _).mono ?_
      rintro _ w1 ⟨rfl, hB1⟩
      obtain ⟨hA0, hZ0, hB0⟩ := two_rows w w1 _ _ _ _ hB1
      obtain ⟨a0, a1, a2, a3⟩ := hA0.four
      have z0 := hA0.frozen
      have hA := hA0.set4 (.bool zn) (.int .u64 (zh : Int)) (.int .u64 (zl : Int)) (.int .i64 ze)
      have hZ := (((hZ0.off 0 (.bool zn) hne).off 1 (.int .u64 (zh : Int)) hne).off 2 (.int .u64 (zl : Int)) hne).off 3 (.int .i64 ze) hne
      have hB := below_set (below_set (below_set (below_set hB0 0 (.bool zn) (Nat.le_refl _)) 1 (.int .u64 (zh : Int)) (Nat.le_refl _)) 2 (.int .u64 (zl : Int)) (Nat.le_refl _)) 3 (.int .i64 ze) (Nat.le_refl _)
      clear h1 hB1
      go_wp2_with fail
      refine (hL _).mono ?_
      rintro _ w3 ⟨rfl, hB3⟩
      have hA3 := hA.below hB3 hA.lt
      have hZ3 := hZ.below hB3 hZ.lt
      have hB3' := hB.trans (hB3.mono (by have := hZ.lt; omega))
      obtain ⟨b0, b1, b2, b3⟩ := hA3.four
      have z3 := hA3.frozen
      clear hA0 hZ0 hB0 a0 a1 a2 a3 z0 hA hZ hB hB3 hL
      have hA := hA3.set4 (.bool false) (.int .u64 0) (.int .u64 0) (.int .i64 0)
      have hZ := (((hZ3.off 0 (.bool false) hne).off 1 (.int .u64 0) hne).off 2 (.int .u64 0) hne).off 3 (.int .i64 0) hne
      have hB := below_set (below_set (below_set (below_set hB3' 0 (.bool false) (Nat.le_refl _)) 1 (.int .u64 0) (Nat.le_refl _)) 2 (.int .u64 0) (Nat.le_refl _)) 3 (.int .i64 0) (Nat.le_refl _)
      go_wp2_with fail
      refine (hS _).mono ?_
      rintro _ w9 ⟨rfl, hB9⟩
      have hA9 := hA.below hB9 hA.lt
      have hZ9 := hZ.below hB9 hZ.lt
      have hBB := hB.trans (hB9.mono (by have := hZ.lt; omega))
      obtain ⟨g0, g1, g2, g3⟩ := hA9.four
      obtain ⟨y0, y1⟩ := hZ9.duo
      have z9 := hZ9.frozen
      clear hA hZ hS hB9
      go_wp2
      refine bodyPost_ret (ret_two rfl (g := w.heap.size + 1) rfl rfl (load23 (Row.set2 hZ9 _ _) rfl)) rfl ⟨by first | rfl | (rw [HF.out]; rfl), ?_⟩
      repeat (refine below_set ?_ _ _ (by omega))
      exact hBB
    | some z2 =>
      rw [hlow] at hL
      have hS2 := signed_W z2 (by
        unfold lowW at hlow
        rw [if_neg (by omega)] at hlow
        split at hlow
        · cases hlow; assumption
        · cases hlow)
      have hz2 : z2.e = 18 := by
        unfold lowW at hlow
        rw [if_neg (by omega)] at hlow
        split at hlow
        · cases hlow; rfl
        · cases hlow
      have HEN : Hid (endV z2 = if z2.n ≤ 9223372036854775807 + z2.neg.toNat then some (sc z2, 18) else none) := by
        show _ = _
        unfold endV
        rw [hz2]
        by_cases hc : z2.n ≤ 9223372036854775807 + z2.neg.toNat
        · rw [if_pos hc, if_pos ⟨hc, by omega, by omega⟩]
        · rw [if_neg hc, if_neg (fun hx => hc hx.1)]
      simp only
      rw [HEN.out]
      simp only [pairV] at hL
      clear hS HEN
      generalize sc z2 = cc at *
      simp only [Wd.val_eq] at h1 hL hS2 ⊢
      unfold Wd.cells at h1 hL hS2 ⊢
      obtain ⟨xn, x', xe⟩ := x
      obtain ⟨zn, z', ze⟩ := y
      obtain ⟨tn, t', te⟩ := z2
      simp only at *
      subst hz2
      obtain ⟨xh, hxh⟩ : ∃ q, x' / 18446744073709551616 = q := ⟨_, rfl⟩
      obtain ⟨xl, hxl⟩ : ∃ q, x' % 18446744073709551616 = q := ⟨_, rfl⟩
      obtain ⟨zh, hzh⟩ : ∃ q, z' / 18446744073709551616 = q := ⟨_, rfl⟩
      obtain ⟨zl, hzl⟩ : ∃ q, z' % 18446744073709551616 = q := ⟨_, rfl⟩
      rw [hxh, hxl] at h1 ⊢
      rw [hzh, hzl] at h1 hL
      obtain ⟨th, hth⟩ : ∃ q, t' / 18446744073709551616 = q := ⟨_, rfl⟩
      obtain ⟨tl, htl⟩ : ∃ q, t' % 18446744073709551616 = q := ⟨_, rfl⟩
      rw [hth, htl] at hL hS2
      unfold decV dv
      have HIN : Hid (decide ((-18 : Int) ≤ 18 ∧ (18 : Int) ≤ 18) = true) := by show _ = _; decide
      have hne : w.heap.size + 1 ≠ w.heap.size := by omega
      clear hxh hxl hzh hzl h he he0 hlt hlow hth htl
      by_cases hc : t' ≤ 9223372036854775807 + tn.toNat
      · simp only [if_pos hc] at hS2 ⊢
        have hS := hS2
        clear hc hS2
        go_enter Tryd.func50, Tryd.ntmps50
        go_wp2_with fail
        refine (h1 _).mono ?_
        rintro _ w1 ⟨rfl, hB1⟩
        obtain ⟨hA0, hZ0, hB0⟩ := two_rows w w1 _ _ _ _ hB1
        obtain ⟨a0, a1, a2, a3⟩ := hA0.four
        have z0 := hA0.frozen
        have hA := hA0.set4 (.bool zn) (.int .u64 (zh : Int)) (.int .u64 (zl : Int)) (.int .i64 ze)
        have hZ := (((hZ0.off 0 (.bool zn) hne).off 1 (.int .u64 (zh : Int)) hne).off 2 (.int .u64 (zl : Int)) hne).off 3 (.int .i64 ze) hne
        have hB := below_set (below_set (below_set (below_set hB0 0 (.bool zn) (Nat.le_refl _)) 1 (.int .u64 (zh : Int)) (Nat.le_refl _)) 2 (.int .u64 (zl : Int)) (Nat.le_refl _)) 3 (.int .i64 ze) (Nat.le_refl _)
        clear h1 hB1
        go_wp2_with fail
        refine (hL _).mono ?_
        rintro _ w3 ⟨rfl, hB3⟩
        have hA3 := hA.below hB3 hA.lt
        have hZ3 := hZ.below hB3 hZ.lt
        have hB3' := hB.trans (hB3.mono (by have := hZ.lt; omega))
        obtain ⟨b0, b1, b2, b3⟩ := hA3.four
        have z3 := hA3.frozen
        clear hA0 hZ0 hB0 a0 a1 a2 a3 z0 hA hZ hB hB3 hL
        have hA := hA3.set4 (.bool tn) (.int .u64 (th : Int)) (.int .u64 (tl : Int)) (.int .i64 18)
        have hZ := (((hZ3.off 0 (.bool tn) hne).off 1 (.int .u64 (th : Int)) hne).off 2 (.int .u64 (tl : Int)) hne).off 3 (.int .i64 18) hne
        have hB := below_set (below_set (below_set (below_set hB3' 0 (.bool tn) (Nat.le_refl _)) 1 (.int .u64 (th : Int)) (Nat.le_refl _)) 2 (.int .u64 (tl : Int)) (Nat.le_refl _)) 3 (.int .i64 18) (Nat.le_refl _)
        go_wp2_with fail
        refine (hS _).mono ?_
        rintro _ w9 ⟨rfl, hB9⟩
        have hA9 := hA.below hB9 hA.lt
        have hZ9 := hZ.below hB9 hZ.lt
        have hBB := hB.trans (hB9.mono (by have := hZ.lt; omega))
        obtain ⟨g0, g1, g2, g3⟩ := hA9.four
        obtain ⟨y0, y1⟩ := hZ9.duo
        have z9 := hZ9.frozen
        clear hA hZ hS hB9
        go_wp2_with (go_at_call 65; refine (within_any _ _).mono ?_; rintro _ w10 ⟨rfl, hw10⟩; subst hw10; rw [HIN.out])
        refine bodyPost_ret (ret_two rfl (g := w.heap.size + 1) rfl rfl (load23 (Row.set2 hZ9 _ _) rfl)) rfl ⟨by first | rfl | (rw [HF.out]; rfl), ?_⟩
        repeat (refine below_set ?_ _ _ (by omega))
        exact hBB
      · simp only [if_neg hc] at hS2 ⊢
        have hS := hS2
        clear hc hS2
        go_enter Tryd.func50, Tryd.ntmps50
        go_wp2_with fail
        refine (h1 _).mono ?_
        rintro _ w1 ⟨rfl, hB1⟩
        obtain ⟨hA0, hZ0, hB0⟩ := two_rows w w1 _ _ _ _ hB1
        obtain ⟨a0, a1, a2, a3⟩ := hA0.four
        have z0 := hA0.frozen
        have hA := hA0.set4 (.bool zn) (.int .u64 (zh : Int)) (.int .u64 (zl : Int)) (.int .i64 ze)
        have hZ := (((hZ0.off 0 (.bool zn) hne).off 1 (.int .u64 (zh : Int)) hne).off 2 (.int .u64 (zl : Int)) hne).off 3 (.int .i64 ze) hne
        have hB := below_set (below_set (below_set (below_set hB0 0 (.bool zn) (Nat.le_refl _)) 1 (.int .u64 (zh : Int)) (Nat.le_refl _)) 2 (.int .u64 (zl : Int)) (Nat.le_refl _)) 3 (.int .i64 ze) (Nat.le_refl _)
        clear h1 hB1
        go_wp2_with fail
        refine (hL _).mono ?_
        rintro _ w3 ⟨rfl, hB3⟩
        have hA3 := hA.below hB3 hA.lt
        have hZ3 := hZ.below hB3 hZ.lt
        have hB3' := hB.trans (hB3.mono (by have := hZ.lt; omega))
        obtain ⟨b0, b1, b2, b3⟩ := hA3.four
        have z3 := hA3.frozen
        clear hA0 hZ0 hB0 a0 a1 a2 a3 z0 hA hZ hB hB3 hL
        have hA := hA3.set4 (.bool tn) (.int .u64 (th : Int)) (.int .u64 (tl : Int)) (.int .i64 18)
        have hZ := (((hZ3.off 0 (.bool tn) hne).off 1 (.int .u64 (th : Int)) hne).off 2 (.int .u64 (tl : Int)) hne).off 3 (.int .i64 18) hne
        have hB := below_set (below_set (below_set (below_set hB3' 0 (.bool tn) (Nat.le_refl _)) 1 (.int .u64 (th : Int)) (Nat.le_refl _)) 2 (.int .u64 (tl : Int)) (Nat.le_refl _)) 3 (.int .i64 18) (Nat.le_refl _)
        go_wp2_with fail
        refine (hS _).mono ?_
        rintro _ w9 ⟨rfl, hB9⟩
        have hA9 := hA.below hB9 hA.lt
        have hZ9 := hZ.below hB9 hZ.lt
        have hBB := hB.trans (hB9.mono (by have := hZ.lt; omega))
        obtain ⟨g0, g1, g2, g3⟩ := hA9.four
        obtain ⟨y0, y1⟩ := hZ9.duo
        have z9 := hZ9.frozen
        clear hA hZ hS hB9
        go_wp2
        refine bodyPost_ret (ret_two rfl (g := w.heap.size + 1) rfl rfl (load23 (Row.set2 hZ9 _ _) rfl)) rfl ⟨by first | rfl | (rw [HF.out]; rfl), ?_⟩
        repeat (refine below_set ?_ _ _ (by omega))
        exact hBB
  · rw [if_neg h18]
    clear hL
    unfold endV
    have hEE : (y.n ≤ 9223372036854775807 + y.neg.toNat ∧ -18 ≤ y.e ∧ y.e ≤ 18) ↔ (y.n ≤ 9223372036854775807 + y.neg.toNat ∧ -18 ≤ y.e) := by omega
    simp only [hEE]
    clear hEE
    generalize sc y = cc at *
    simp only [Wd.val_eq] at h1 hS ⊢
    unfold Wd.cells at h1 hS ⊢
    obtain ⟨xn, x', xe⟩ := x
    obtain ⟨zn, z', ze⟩ := y
    simp only at *
    obtain ⟨xh, hxh⟩ : ∃ q, x' / 18446744073709551616 = q := ⟨_, rfl⟩
    obtain ⟨xl, hxl⟩ : ∃ q, x' % 18446744073709551616 = q := ⟨_, rfl⟩
    obtain ⟨zh, hzh⟩ : ∃ q, z' / 18446744073709551616 = q := ⟨_, rfl⟩
    obtain ⟨zl, hzl⟩ : ∃ q, z' % 18446744073709551616 = q := ⟨_, rfl⟩
    rw [hxh, hxl] at h1 ⊢
    rw [hzh, hzl] at h1 hS
    unfold decV dv
    have hne : w.heap.size + 1 ≠ w.heap.size := by omega
    clear hxh hxl hzh hzl h he he0 hlt
    by_cases hc : z' ≤ 9223372036854775807 + zn.toNat
    · simp only [if_pos hc] at hS
      by_cases hl : -18 ≤ ze
      · have HIN : Hid (decide (-18 ≤ ze ∧ ze ≤ 18) = true) := decide_eq_true (by omega)
        simp only [if_pos (show z' ≤ 9223372036854775807 + zn.toNat ∧ -18 ≤ ze from ⟨hc, hl⟩)]
        clear hc hl
        go_enter Tryd.func50, Tryd.ntmps50
        go_wp2_with fail
        refine (h1 _).mono ?_
        rintro _ w1 ⟨rfl, hB1⟩
        obtain ⟨hA0, hZ0, hB0⟩ := two_rows w w1 _ _ _ _ hB1
        obtain ⟨a0, a1, a2, a3⟩ := hA0.four
        have z0 := hA0.frozen
        have hA := hA0.set4 (.bool zn) (.int .u64 (zh : Int)) (.int .u64 (zl : Int)) (.int .i64 ze)
        have hZ := (((hZ0.off 0 (.bool zn) hne).off 1 (.int .u64 (zh : Int)) hne).off 2 (.int .u64 (zl : Int)) hne).off 3 (.int .i64 ze) hne
        have hB := below_set (below_set (below_set (below_set hB0 0 (.bool zn) (Nat.le_refl _)) 1 (.int .u64 (zh : Int)) (Nat.le_refl _)) 2 (.int .u64 (zl : Int)) (Nat.le_refl _)) 3 (.int .i64 ze) (Nat.le_refl _)
        clear h1 hB1
        go_wp2_with fail
        refine (hS _).mono ?_
        rintro _ w9 ⟨rfl, hB9⟩
        have hA9 := hA.below hB9 hA.lt
        have hZ9 := hZ.below hB9 hZ.lt
        have hBB := hB.trans (hB9.mono (by have := hZ.lt; omega))
        obtain ⟨g0, g1, g2, g3⟩ := hA9.four
        obtain ⟨y0, y1⟩ := hZ9.duo
        have z9 := hZ9.frozen
        clear hA hZ hS hB9
        go_wp2_with (go_at_call 65; refine (within_any _ _).mono ?_; rintro _ w10 ⟨rfl, hw10⟩; subst hw10; rw [HIN.out])
        refine bodyPost_ret (ret_two rfl (g := w.heap.size + 1) rfl rfl (load23 (Row.set2 hZ9 _ _) rfl)) rfl ⟨by first | rfl | (rw [HF.out]; rfl), ?_⟩
        repeat (refine below_set ?_ _ _ (by omega))
        exact hBB
      · have HIN : Hid (decide (-18 ≤ ze ∧ ze ≤ 18) = false) := decide_eq_false (by omega)
        simp only [if_neg (show ¬ (z' ≤ 9223372036854775807 + zn.toNat ∧ -18 ≤ ze) from fun hx => hl hx.2)]
        clear hc hl
        go_enter Tryd.func50, Tryd.ntmps50
        go_wp2_with fail
        refine (h1 _).mono ?_
        rintro _ w1 ⟨rfl, hB1⟩
        obtain ⟨hA0, hZ0, hB0⟩ := two_rows w w1 _ _ _ _ hB1
        obtain ⟨a0, a1, a2, a3⟩ := hA0.four
        have z0 := hA0.frozen
        have hA := hA0.set4 (.bool zn) (.int .u64 (zh : Int)) (.int .u64 (zl : Int)) (.int .i64 ze)
        have hZ := (((hZ0.off 0 (.bool zn) hne).off 1 (.int .u64 (zh : Int)) hne).off 2 (.int .u64 (zl : Int)) hne).off 3 (.int .i64 ze) hne
        have hB := below_set (below_set (below_set (below_set hB0 0 (.bool zn) (Nat.le_refl _)) 1 (.int .u64 (zh : Int)) (Nat.le_refl _)) 2 (.int .u64 (zl : Int)) (Nat.le_refl _)) 3 (.int .i64 ze) (Nat.le_refl _)
        clear h1 hB1
        go_wp2_with fail
        refine (hS _).mono ?_
        rintro _ w9 ⟨rfl, hB9⟩
        have hA9 := hA.below hB9 hA.lt
        have hZ9 := hZ.below hB9 hZ.lt
        have hBB := hB.trans (hB9.mono (by have := hZ.lt; omega))
        obtain ⟨g0, g1, g2, g3⟩ := hA9.four
        obtain ⟨y0, y1⟩ := hZ9.duo
        have z9 := hZ9.frozen
        clear hA hZ hS hB9
        go_wp2_with (go_at_call 65; refine (within_any _ _).mono ?_; rintro _ w10 ⟨rfl, hw10⟩; subst hw10; rw [HIN.out])
        refine bodyPost_ret (ret_two rfl (g := w.heap.size + 1) rfl rfl (load23 (Row.set2 hZ9 _ _) rfl)) rfl ⟨by first | rfl | (rw [HF.out]; rfl), ?_⟩
        repeat (refine below_set ?_ _ _ (by omega))
        exact hBB
    · simp only [if_neg hc] at hS
      simp only [if_neg (show ¬ (z' ≤ 9223372036854775807 + zn.toNat ∧ -18 ≤ ze) from fun hx => hc hx.1)]
      clear hc
      go_enter Tryd.func50, Tryd.ntmps50
      go_wp2_with fail
      refine (h1 _).mono ?_
      rintro _ w1 ⟨rfl, hB1⟩
      obtain ⟨hA0, hZ0, hB0⟩ := two_rows w w1 _ _ _ _ hB1
      obtain ⟨a0, a1, a2, a3⟩ := hA0.four
      have z0 := hA0.frozen
      have hA := hA0.set4 (.bool zn) (.int .u64 (zh : Int)) (.int .u64 (zl : Int)) (.int .i64 ze)
      have hZ := (((hZ0.off 0 (.bool zn) hne).off 1 (.int .u64 (zh : Int)) hne).off 2 (.int .u64 (zl : Int)) hne).off 3 (.int .i64 ze) hne
      have hB := below_set (below_set (below_set (below_set hB0 0 (.bool zn) (Nat.le_refl _)) 1 (.int .u64 (zh : Int)) (Nat.le_refl _)) 2 (.int .u64 (zl : Int)) (Nat.le_refl _)) 3 (.int .i64 ze) (Nat.le_refl _)
      clear h1 hB1
      go_wp2_with fail
      refine (hS _).mono ?_
      rintro _ w9 ⟨rfl, hB9⟩
      have hA9 := hA.below hB9 hA.lt
      have hZ9 := hZ.below hB9 hZ.lt
      have hBB := hB.trans (hB9.mono (by have := hZ.lt; omega))
      obtain ⟨g0, g1, g2, g3⟩ := hA9.four
      obtain ⟨y0, y1⟩ := hZ9.duo
      have z9 := hZ9.frozen
      clear hA hZ hS hB9
      go_wp2
      refine bodyPost_ret (ret_two rfl (g := w.heap.size + 1) rfl rfl (load23 (Row.set2 hZ9 _ _) rfl)) rfl ⟨by first | rfl | (rw [HF.out]; rfl), ?_⟩
      repeat (refine below_set ?_ _ _ (by omega))
      exact hBB
theorem told_any (x : Wd) (b : Bool) (h : x.n < M128) (he : x.e ≤ 9223372036854775807) (he0 : -9223372036854775808 ≤ x.e) (w : World) :
    Calls Tryd.prog 50 #[x.val, .bool b] w fun r w' => r = .returned (decV (if b then tellW x.neg x.n x.e else none)) ∧ Below w.heap.size w w' := by
  cases b
  · exact told_false x h he he0 w
  · exact told_true x h he he0 w
end Go.Proofs.YtfbhonjndepjbaaDoor
