import Derived.Test.YtfbhonjndepjbaaDoorWop
/- size, Cmp. -/
namespace Go.Proofs.YtfbhonjndepjbaaDoor
open Go.RowKit

set_option maxRecDepth 100000 in
set_option maxHeartbeats 800000 in
theorem size_f1 (an bn : Bool) (ah al bh bl : Nat) (ae be : Int) (hla : ∀ w, Calls Tryd.prog 71 #[wv an ah al ae, .int .i64 be] w fun r w' => r = .returned (.tuple #[.agg #[.bool false, .int .u64 0, .int .u64 0, .int .i64 0], .bool false]) ∧ Below w.heap.size w w') (w : World) :
    Calls Tryd.prog 68 #[wv an ah al ae, wv bn bh bl be] w fun r w' => r = .returned (.int .i64 1) ∧ Below w.heap.size w w' := by
  unfold wv at *
  go_enter Tryd.func68, Tryd.ntmps68
  go_wp2_with fail
  refine (hla _).mono ?_
  rintro _ w1 ⟨rfl, h1⟩
  obtain ⟨hA, hC, hB⟩ := two_rows w w1 _ _ _ _ h1
  obtain ⟨a0, a1, a2, a3⟩ := hA.four
  obtain ⟨b0, b1, b2, b3⟩ := hC.four
  have z1 := hA.frozen; have z2 := hC.frozen
  clear h1 hla
  have hA := hA.set4 (.bool false) (.int .u64 0) (.int .u64 0) (.int .i64 0)
  have hC := hC.off4 (B' := w.heap.size) (by omega) (.bool false) (.int .u64 0) (.int .u64 0) (.int .i64 0)
  have hB := below_set4 hB (B' := w.heap.size) (by omega) (.bool false) (.int .u64 0) (.int .u64 0) (.int .i64 0)
  go_wp2
  go_ret
  exact ⟨rfl, hB⟩
set_option maxRecDepth 100000 in
set_option maxHeartbeats 800000 in
theorem size_f2 (an bn : Bool) (ah al bh bl : Nat) (ae be : Int) (sn : Bool) (sh sl : Nat) (se : Int) (hla : ∀ w, Calls Tryd.prog 71 #[wv an ah al ae, .int .i64 be] w fun r w' => r = .returned (.tuple #[wv sn sh sl se, .bool true]) ∧ Below w.heap.size w w') (hlb : ∀ w, Calls Tryd.prog 71 #[wv bn bh bl be, .int .i64 se] w fun r w' => r = .returned (.tuple #[.agg #[.bool false, .int .u64 0, .int .u64 0, .int .i64 0], .bool false]) ∧ Below w.heap.size w w') (w : World) :
    Calls Tryd.prog 68 #[wv an ah al ae, wv bn bh bl be] w fun r w' => r = .returned (.int .i64 (-1)) ∧ Below w.heap.size w w' := by
  unfold wv at *
  go_enter Tryd.func68, Tryd.ntmps68
  go_wp2_with fail
  refine (hla _).mono ?_
  rintro _ w1 ⟨rfl, h1⟩
  obtain ⟨hA, hC, hB⟩ := two_rows w w1 _ _ _ _ h1
  obtain ⟨a0, a1, a2, a3⟩ := hA.four
  obtain ⟨b0, b1, b2, b3⟩ := hC.four
  have z1 := hA.frozen; have z2 := hC.frozen
  clear h1 hla
  have hA := hA.set4 (.bool sn) (.int .u64 (sh : Int)) (.int .u64 (sl : Int)) (.int .i64 se)
  have hC := hC.off4 (B' := w.heap.size) (by omega) (.bool sn) (.int .u64 (sh : Int)) (.int .u64 (sl : Int)) (.int .i64 se)
  have hB := below_set4 hB (B' := w.heap.size) (by omega) (.bool sn) (.int .u64 (sh : Int)) (.int .u64 (sl : Int)) (.int .i64 se)
  go_wp2_with fail
  refine (hlb _).mono ?_
  rintro _ w2 ⟨rfl, h2⟩
  clear a0 a1 a2 a3 b0 b1 b2 b3 z1 z2
  have hA := hA.below h2 hA.lt
  have hC := hC.below h2 hC.lt
  have hB := hB.trans (h2.mono hB.size)
  obtain ⟨a0, a1, a2, a3⟩ := hA.four
  obtain ⟨b0, b1, b2, b3⟩ := hC.four
  have z1 := hA.frozen; have z2 := hC.frozen
  clear h2 hlb
  have hC := hC.set4 (.bool false) (.int .u64 0) (.int .u64 0) (.int .i64 0)
  have hA := hA.off4 (B' := w.heap.size + 1) (by omega) (.bool false) (.int .u64 0) (.int .u64 0) (.int .i64 0)
  have hB := below_set4 hB (B' := w.heap.size + 1) (by omega) (.bool false) (.int .u64 0) (.int .u64 0) (.int .i64 0)
  go_wp2
  go_ret
  exact ⟨rfl, hB⟩
set_option maxRecDepth 100000 in
set_option maxHeartbeats 800000 in
theorem size_ok (an bn : Bool) (ah al bh bl : Nat) (ae be : Int) (sn tn : Bool) (sh sl th tl : Nat) (se te q : Int) (hla : ∀ w, Calls Tryd.prog 71 #[wv an ah al ae, .int .i64 be] w fun r w' => r = .returned (.tuple #[wv sn sh sl se, .bool true]) ∧ Below w.heap.size w w') (hlb : ∀ w, Calls Tryd.prog 71 #[wv bn bh bl be, .int .i64 se] w fun r w' => r = .returned (.tuple #[wv tn th tl te, .bool true]) ∧ Below w.heap.size w w') (hk : ∀ w, Calls Tryd.prog 89 #[wv sn sh sl se, wv tn th tl te] w fun r w' => r = .returned (.int .i64 q) ∧ Below w.heap.size w w') (w : World) :
    Calls Tryd.prog 68 #[wv an ah al ae, wv bn bh bl be] w fun r w' => r = .returned (.int .i64 q) ∧ Below w.heap.size w w' := by
  unfold wv at *
  go_enter Tryd.func68, Tryd.ntmps68
  go_wp2_with fail
  refine (hla _).mono ?_
  rintro _ w1 ⟨rfl, h1⟩
  obtain ⟨hA, hC, hB⟩ := two_rows w w1 _ _ _ _ h1
  obtain ⟨a0, a1, a2, a3⟩ := hA.four
  obtain ⟨b0, b1, b2, b3⟩ := hC.four
  have z1 := hA.frozen; have z2 := hC.frozen
  clear h1 hla
  have hA := hA.set4 (.bool sn) (.int .u64 (sh : Int)) (.int .u64 (sl : Int)) (.int .i64 se)
  have hC := hC.off4 (B' := w.heap.size) (by omega) (.bool sn) (.int .u64 (sh : Int)) (.int .u64 (sl : Int)) (.int .i64 se)
  have hB := below_set4 hB (B' := w.heap.size) (by omega) (.bool sn) (.int .u64 (sh : Int)) (.int .u64 (sl : Int)) (.int .i64 se)
  go_wp2_with fail
  refine (hlb _).mono ?_
  rintro _ w2 ⟨rfl, h2⟩
  clear a0 a1 a2 a3 b0 b1 b2 b3 z1 z2
  have hA := hA.below h2 hA.lt
  have hC := hC.below h2 hC.lt
  have hB := hB.trans (h2.mono hB.size)
  obtain ⟨a0, a1, a2, a3⟩ := hA.four
  obtain ⟨b0, b1, b2, b3⟩ := hC.four
  have z1 := hA.frozen; have z2 := hC.frozen
  clear h2 hlb
  have hC := hC.set4 (.bool tn) (.int .u64 (th : Int)) (.int .u64 (tl : Int)) (.int .i64 te)
  have hA := hA.off4 (B' := w.heap.size + 1) (by omega) (.bool tn) (.int .u64 (th : Int)) (.int .u64 (tl : Int)) (.int .i64 te)
  have hB := below_set4 hB (B' := w.heap.size + 1) (by omega) (.bool tn) (.int .u64 (th : Int)) (.int .u64 (tl : Int)) (.int .i64 te)
  go_wp2_with fail
  refine (hk _).mono ?_
  rintro _ w3 ⟨rfl, h3⟩
  go_wp2
  go_ret
  exact ⟨rfl, hB.trans (h3.mono hB.size)⟩
theorem size_any (a b : Wd) (ha : a.n < M128) (hb : b.n < M128) (ea : EOk a) (eb : EOk b) (w : World) :
    Calls Tryd.prog 68 #[a.val, b.val] w fun r w' => r = .returned (.int .i64 (sizeW a b)) ∧ Below w.heap.size w w' := by
  unfold sizeW
  rcases low_val a b.e ha ea eb.1 with ⟨hl, hla⟩ | ⟨a', hl, hla⟩
  · rw [hl]
    exact size_f1 a.neg b.neg _ _ _ _ a.e b.e hla w
  · rw [hl]
    simp only
    obtain ⟨p1, p2, p3, p4, p5⟩ := lowW_some hl ha
    have ea' : EOk a' := by unfold EOk at *; omega
    rcases low_val b a'.e hb eb ea'.1 with ⟨hl2, hlb⟩ | ⟨b', hl2, hlb⟩
    · rw [hl2]
      exact size_f2 a.neg b.neg _ _ _ _ a.e b.e a'.neg _ _ a'.e hla hlb w
    · rw [hl2]
      simp only
      exact size_ok a.neg b.neg _ _ _ _ a.e b.e a'.neg b'.neg _ _ _ _ a'.e b'.e _ hla hlb (bySize_any a' b') w
theorem sign_W (x : Wd) (w : World) : Calls Tryd.prog 66 #[x.val] w fun r w' => r = .returned (.int .i64 (sgW x)) ∧ Below w.heap.size w w' := by
  refine (sign_any x.neg (x.n / 18446744073709551616) (x.n % 18446744073709551616) x.e w).mono ?_
  rintro r w' ⟨rfl, hB⟩
  refine ⟨?_, hB⟩
  unfold sgW
  have : (x.n / 18446744073709551616 = 0 ∧ x.n % 18446744073709551616 = 0) ↔ x.n = 0 := by omega
  simp only [this]
theorem sgW_bd (x : Wd) : -1 ≤ sgW x ∧ sgW x ≤ 1 := by unfold sgW; split; omega; split <;> omega
theorem sizeW_bd (a b : Wd) : -1 ≤ sizeW a b ∧ sizeW a b ≤ 1 := by
  unfold sizeW cN
  split
  · omega
  · split
    · omega
    · repeat' split
      all_goals omega
set_option maxRecDepth 100000 in
set_option maxHeartbeats 800000 in
theorem cmp_ok (c e c2 e2 : Int) (hc : I64 c) (he : within e) (hc2 : I64 c2) (he2 : within e2) (w : World) : Calls Tryd.prog 28 #[dv c e, dv c2 e2] w fun r w' => r = .returned (.int .i64 (cmpW (decW c e) (decW c2 e2))) ∧ Below w.heap.size w w' := by
  have hT := fun K w (hK : Row w K 23 #[.int .i64 c, .int .i64 e, .int .i64 c2, .int .i64 e2]) => taken2 c e c2 e2 K w hc he hc2 he2 hK
  have hs1 := sign_W (decW c e)
  have hs2 := sign_W (decW c2 e2)
  obtain ⟨q1, q2, q3, q4⟩ := dec_bounds hc he
  obtain ⟨p1, p2, p3, p4⟩ := dec_bounds hc2 he2
  have hz := size_any (decW c e) (decW c2 e2) q2 p2 q4 p4
  have b1 := sgW_bd (decW c e)
  have b2 := sgW_bd (decW c2 e2)
  have b3 := sizeW_bd (decW c e) (decW c2 e2)
  unfold cmpW at *
  simp only [Wd.val_eq] at *
  obtain ⟨y0, y1, y2, y3, hy⟩ : ∃ y0 y1 y2 y3, (decW c e).cells = #[y0, y1, y2, y3] := ⟨_, _, _, _, rfl⟩
  obtain ⟨z0, z1, z2, z3, hz'⟩ : ∃ y0 y1 y2 y3, (decW c2 e2).cells = #[y0, y1, y2, y3] := ⟨_, _, _, _, rfl⟩
  rw [hy] at hs1 hz
  rw [hz'] at hs2 hz
  simp only [hy, hz'] at hT
  generalize sgW (decW c e) = s1 at *
  generalize sgW (decW c2 e2) = s2 at *
  generalize sizeW (decW c e) (decW c2 e2) = q at *
  clear hc he hc2 he2 hy hz' q1 q2 q3 q4 p1 p2 p3 p4
  by_cases hne : s1 = s2
  · subst hne
    have HV : Hid ((if s1 ≠ s1 then (if s1 < s1 then -1 else 1) else s1 * q) = s1 * q) := if_neg (by simp)
    rw [HV.out]
    have fm : Hid (wrap64 (s1 * q) = s1 * q) := by
      show _ = _
      have : s1 = -1 ∨ s1 = 0 ∨ s1 = 1 := by omega
      rcases this with rfl | rfl | rfl <;> (unfold wrap64; omega)
    have fm2 : Hid (IntKind.i64.wrap (s1 * q) = s1 * q) := by
      show _ = _
      have : s1 = -1 ∨ s1 = 0 ∨ s1 = 1 := by omega
      have hd : s1 * q = -q ∨ s1 * q = 0 ∨ s1 * q = q := by rcases this with rfl | rfl | rfl <;> omega
      generalize s1 * q = m at hd
      simp [IntKind.wrap, IntKind.bits, IntKind.signed]
      omega
    clear b1 b2 b3
    unfold dv
    go_enter Tryd.func28, Tryd.ntmps28
    go_wp2_with fail
    obtain ⟨_, _, hK, _⟩ := three_rows w _ _ _ _ 23 23 23 (Below.refl _ (((w.alloc (.cells #[.int .i64 c, .int .i64 e] 23)).alloc (.cells #[.int .i64 c2, .int .i64 e2] 23)).alloc (.cells #[.int .i64 c, .int .i64 e, .int .i64 c2, .int .i64 e2] 23)))
    refine (hT _ _ hK).mono ?_
    rintro _ W ⟨h1, G, hG, rfl, hR⟩
    obtain ⟨_, _, _, hB⟩ := three_rows w W _ _ _ _ _ _ h1
    have hR : Row W G 59 #[y0, y1, y2, y3, z0, z1, z2, z3] := hR
    clear h1 hG hK hT
    obtain ⟨g0, g1, g2, g3, g4, g5, g6, g7⟩ := hR.eight
    go_wp2_with fail
    refine (hs1 _).mono ?_
    rintro _ W1 ⟨rfl, h1⟩
    have hR := hR.below h1 hR.lt
    have hB := hB.trans (h1.mono hB.size)
    clear h1 hs1 g0 g1 g2 g3 g4 g5 g6 g7
    obtain ⟨g0, g1, g2, g3, g4, g5, g6, g7⟩ := hR.eight
    go_wp2_with fail
    refine (hs2 _).mono ?_
    rintro _ W2 ⟨rfl, h1⟩
    have hR := hR.below h1 hR.lt
    have hB := hB.trans (h1.mono hB.size)
    clear h1 g0 g1 g2 g3 g4 g5 g6 g7
    obtain ⟨g0, g1, g2, g3, g4, g5, g6, g7⟩ := hR.eight
    go_wp2_with fail
    have hS0 : Below W2.heap.size W2 W2.drew := (Below.refl _ W2).drew
    refine wp_region_M (fun wx : World => Below W2.heap.size W2 wx) (fun j => decide (j < 8)) 10 rfl (by kernel_rfl) ?_
    refine wpM_held 0 (v := ?_) rfl (by kernel_rfl) (by kernel_rfl) rfl (fun _ _ _ h => h) rfl (by intro wx hx; go_simp <;> rfl) hS0 ?_
    refine wpM_held 1 (v := ?_) rfl (by kernel_rfl) (by kernel_rfl) rfl (fun _ _ _ h => h) rfl (by intro wx hx; go_simp <;> rfl) hS0 ?_
    refine wpM_held 2 (v := .pointer (some ⟨G, 0, none⟩)) rfl (by kernel_rfl) (by kernel_rfl) rfl (fun _ _ _ h => h) rfl (by intro wx hx; go_simp <;> rfl) hS0 ?_
    refine wpM_held 3 (v := .agg #[y0, y1, y2, y3]) rfl (by kernel_rfl) (by kernel_rfl) rfl (fun _ _ _ h => h) rfl (by intro wx hx; obtain ⟨g0, g1, g2, g3, g4, g5, g6, g7⟩ := (hR.below hx hR.lt).eight; go_simp <;> rfl) hS0 ?_
    refine wpM_held 4 (v := ?_) rfl (by kernel_rfl) (by kernel_rfl) rfl (fun _ _ _ h => h) rfl (by intro wx hx; go_simp <;> rfl) hS0 ?_
    refine wpM_held 5 (v := .pointer (some ⟨G, 4, none⟩)) rfl (by kernel_rfl) (by kernel_rfl) rfl (fun _ _ _ h => h) rfl (by intro wx hx; go_simp <;> rfl) hS0 ?_
    refine wpM_held 6 (v := .agg #[z0, z1, z2, z3]) rfl (by kernel_rfl) (by kernel_rfl) rfl (fun _ _ _ h => h) rfl (by intro wx hx; obtain ⟨g0, g1, g2, g3, g4, g5, g6, g7⟩ := (hR.below hx hR.lt).eight; go_simp <;> rfl) hS0 ?_
    refine wpM_one 7 rfl (by kernel_rfl) rfl ?_
    go_wp2_with fail
    refine (hz _).mono ?_
    rintro _ W3 ⟨rfl, h3⟩
    have hS1 := hS0.trans h3
    go_wp2_with fail
    refine ⟨fun _ => hS1, ?_⟩
    refine wpM_one 8 rfl (by kernel_rfl) rfl ?_
    go_wp2_with fail
    refine ⟨(fun h => by simp at h), ?_⟩
    refine wpM_one 9 rfl (by kernel_rfl) rfl ?_
    go_wp2_with fail
    refine ⟨(fun h => by simp at h), ?_⟩
    refine wpM_done (by kernel_rfl) ?_
    go_wp2
    first | rw [fm.out] | rw [fm2.out] | skip
    go_ret
    exact ⟨rfl, hB.trans (hS1.mono hB.size)⟩
  · have HV : Hid ((if s1 ≠ s2 then (if s1 < s2 then -1 else 1) else s1 * q) = Lib.compareInt s1 s2) := by
      show _ = _
      rw [if_pos hne]
      unfold Lib.compareInt
      split
      · rfl
      · rw [if_pos (by omega)]
    rw [HV.out]
    have hn1 : (s1 != s2) = true := by simpa using hne
    have hcm := Tryd.cmp_Compare_int s1 s2
    clear b1 b2 b3 hne hz
    unfold dv
    go_enter Tryd.func28, Tryd.ntmps28
    go_wp2_with fail
    obtain ⟨_, _, hK, _⟩ := three_rows w _ _ _ _ 23 23 23 (Below.refl _ (((w.alloc (.cells #[.int .i64 c, .int .i64 e] 23)).alloc (.cells #[.int .i64 c2, .int .i64 e2] 23)).alloc (.cells #[.int .i64 c, .int .i64 e, .int .i64 c2, .int .i64 e2] 23)))
    refine (hT _ _ hK).mono ?_
    rintro _ W ⟨h1, G, hG, rfl, hR⟩
    obtain ⟨_, _, _, hB⟩ := three_rows w W _ _ _ _ _ _ h1
    have hR : Row W G 59 #[y0, y1, y2, y3, z0, z1, z2, z3] := hR
    clear h1 hG hK hT
    obtain ⟨g0, g1, g2, g3, g4, g5, g6, g7⟩ := hR.eight
    go_wp2_with fail
    refine (hs1 _).mono ?_
    rintro _ W1 ⟨rfl, h1⟩
    have hR := hR.below h1 hR.lt
    have hB := hB.trans (h1.mono hB.size)
    clear h1 hs1 g0 g1 g2 g3 g4 g5 g6 g7
    obtain ⟨g0, g1, g2, g3, g4, g5, g6, g7⟩ := hR.eight
    go_wp2_with fail
    refine (hs2 _).mono ?_
    rintro _ W2 ⟨rfl, h1⟩
    have hR := hR.below h1 hR.lt
    have hB := hB.trans (h1.mono hB.size)
    clear h1 g0 g1 g2 g3 g4 g5 g6 g7
    obtain ⟨g0, g1, g2, g3, g4, g5, g6, g7⟩ := hR.eight
    go_wp2_with fail
    refine (hs2 _).mono ?_
    rintro _ W3 ⟨rfl, h1⟩
    have hB := hB.trans (h1.mono hB.size)
    go_wp2_with fail
    refine (hcm _).mono ?_
    rintro _ W4 ⟨rfl, hw4⟩
    rw [hw4]
    go_wp2
    go_ret
    exact ⟨rfl, hB⟩
end Go.Proofs.YtfbhonjndepjbaaDoor
