import Derived.Test.YtfbhonjndepjbaaDoorRnaM
/- The document's Add. -/
namespace Go.Proofs.YtfbhonjndepjbaaDoor
open Go.RowKit

theorem dec_form' (o : Option (Int × Int)) : ∃ p q s, decV o = .tuple #[.agg #[.int .i64 p, .int .i64 q], .int .i64 s] := by
  rcases o with _ | ⟨p, q⟩
  · exact ⟨_, _, _, rfl⟩
  · exact ⟨_, _, _, rfl⟩
theorem tell_sum (c e d f : Int) (i j : Nat) (he : -18 ≤ e - (i : Int)) (h : e - (i : Int) = f - (j : Int)) : tell (c * 10 ^ i + d * 10 ^ j) (e - (i : Int)) = tell (V (-18) c e + V (-18) d f) (-18) := by
  obtain ⟨k, hk⟩ : ∃ k : Nat, e - (i : Int) - (k : Int) = -18 := ⟨(e - i + 18).toNat, by omega⟩
  rw [← tell_pow _ _ k, hk]
  unfold V
  rw [show (e - -18).toNat = i + k by omega, show (f - -18).toNat = j + k by omega, Int.pow_add, Int.pow_add, Int.add_mul, Int.mul_assoc, Int.mul_assoc]
theorem shifted_lt (c : Int) (hc : I64 c) (i : Nat) (hi : i ≤ 36) : (c * 10 ^ i).natAbs < 10 ^ 55 := by
  rw [Int.natAbs_mul, Int.natAbs_pow]
  have h19 : c.natAbs < 10 ^ 19 := by
    unfold I64 at hc
    have : (10 : Nat) ^ 19 = 10000000000000000000 := by decide
    omega
  refine Nat.lt_of_lt_of_le (Nat.mul_lt_mul_of_pos_right h19 (Nat.pow_pos (by decide))) ?_
  rw [show (10 : Int).natAbs = 10 from rfl, ← Nat.pow_add]
  exact Nat.pow_le_pow_right (by decide) (by omega)
theorem sum_len (c d : Int) (hc : I64 c) (hd : I64 d) (i j : Nat) (hi : i ≤ 36) (hj : j ≤ 36) : (digs (c * 10 ^ i + d * 10 ^ j).natAbs).length ≤ 57 := by
  refine digs_len _ _ ?_
  have h1 : (c * 10 ^ i).natAbs < 10 ^ 55 := shifted_lt c hc i hi
  have h2 : (d * 10 ^ j).natAbs < 10 ^ 55 := shifted_lt d hd j hj
  have h3 : (10 : Nat) ^ 57 = 10 ^ 55 * 100 := rfl
  have h4 := Int.natAbs_add_le (c * 10 ^ i) (d * 10 ^ j)
  generalize (10 : Nat) ^ 55 = p at *
  omega
set_option maxRecDepth 100000 in
set_option maxHeartbeats 2000000 in
theorem radd_ok (c e d f : Int) (hc : I64 c) (hd : I64 d) (w : World) (he1 : -18 ≤ e) (he2 : e ≤ 18) (hf1 : -18 ≤ f) (hf2 : f ≤ 18) : Calls Tryd.prog 10 #[.agg #[.int .i64 c, .int .i64 e], .agg #[.int .i64 d, .int .i64 f]] w fun r w' => r = .returned (decV (tell (V (-18) c e + V (-18) d f) (-18))) ∧ Below w.heap.size w w' := by
  have HC : ∀ W, Hid (Calls Tryd.prog 44 #[.agg #[.int .i64 c, .int .i64 e], .agg #[.int .i64 d, .int .i64 f]] W _) := fun W => two_any c e d f hc hd W he1 he2 hf1 hf2
  obtain ⟨res, HRES⟩ : ∃ res, Hid (decV (tell (V (-18) c e + V (-18) d f) (-18)) = res) := ⟨_, rfl⟩
  rw [HRES.out]
  go_enter Tryd.func10, Tryd.ntmps10
  go_wp2_with fail
  have r2 := Row.new ((w.alloc (.cells #[.int .i64 c, .int .i64 e] 23)).alloc (.cells #[.int .i64 d, .int .i64 f] 23)) 23 #[.int .i64 0, .int .i64 0]
  have hB := (((Below.refl _ w).alloc (Nat.le_refl _) (.cells #[.int .i64 c, .int .i64 e] 23)).alloc (by simp) (.cells #[.int .i64 d, .int .i64 f] 23)).alloc (by simp; omega) (.cells #[.int .i64 0, .int .i64 0] 23)
  have hWs : w.heap.size + 3 ≤ (((((w.alloc (.cells #[.int .i64 c, .int .i64 e] 23)).alloc (.cells #[.int .i64 d, .int .i64 f] 23)).alloc (.cells #[.int .i64 0, .int .i64 0] 23)))).heap.size := by simp
  simp only [World.size_alloc] at r2
  generalize ((((w.alloc (.cells #[.int .i64 c, .int .i64 e] 23)).alloc (.cells #[.int .i64 d, .int .i64 f] 23)).alloc (.cells #[.int .i64 0, .int .i64 0] 23))) = W at *
  refine Calls.mono (HC W).out ?_
  rintro _ w1 ⟨i, j, sx, sy, rfl, hij, hlo, hi, hj, hDx, hDy, b1⟩
  clear HC
  obtain ⟨_, a1, c1, rfl, _, _⟩ := id hDx
  obtain ⟨_, a2, c2, rfl, _, _⟩ := id hDy
  unfold numC
  obtain ⟨nx, HNX⟩ : ∃ nx, Hid (decide (c * 10 ^ i < 0) = nx) := ⟨_, rfl⟩
  obtain ⟨ny, HNY⟩ : ∃ ny, Hid (decide (d * 10 ^ j < 0) = ny) := ⟨_, rfl⟩
  rw [HNX.out, HNY.out]
  have lx := shifted_len c hc i
  have ly := shifted_len d hd j
  obtain ⟨n1, HN1⟩ : ∃ n1 : Nat, Hid ((digs (c * 10 ^ i).natAbs).length = n1) := ⟨_, rfl⟩
  obtain ⟨n2, HN2⟩ : ∃ n2 : Nat, Hid ((digs (d * 10 ^ j).natAbs).length = n2) := ⟨_, rfl⟩
  rw [HN1.out] at hDx lx
  rw [HN2.out] at hDy ly
  rw [HN1.out, HN2.out]
  obtain ⟨m, HM⟩ : ∃ m, Hid (e - (i : Int) = m) := ⟨_, rfl⟩
  rw [HM.out]
  go_wp2_with fail
  have hmr : -18 ≤ m ∧ m ≤ 18 := by have := HM.out; omega
  have px := (Row.new w1 47 #[.bool nx, .slice a1 n1 c1, .int .i64 m]).alloc (.cells #[.bool ny, .slice a2 n2 c2, .int .i64 m] 47)
  have py := Row.new1 w1 (.cells #[.bool nx, .slice a1 n1 c1, .int .i64 m] 47) 47 #[.bool ny, .slice a2 n2 c2, .int .i64 m]
  have b2 : Below w1.heap.size w1 ((w1.alloc (.cells #[.bool nx, .slice a1 n1 c1, .int .i64 m] 47)).alloc (.cells #[.bool ny, .slice a2 n2 c2, .int .i64 m] 47)) := ((Below.refl _ w1).alloc (Nat.le_refl _) _).alloc (by simp) _
  have hrx := (r2.below b1 r2.lt).below b2 (r2.below b1 r2.lt).lt
  have hBe := (hB.trans (b1.mono (by omega))).trans (b2.mono (Nat.le_trans (by omega) b1.size))
  have eX := hDx.below b2
  have eY := hDy.below b2
  have hr1 : w.heap.size + 2 < w1.heap.size := by have := b1.size; omega
  clear r2 b1 b2 hDx hDy hB hWs
  generalize (w1.alloc (.cells #[.bool nx, .slice a1 n1 c1, .int .i64 m] 47)).alloc (.cells #[.bool ny, .slice a2 n2 c2, .int .i64 m] 47) = wr at *
  generalize w1.heap.size = X at *
  have HL : Hid ((digs (c * 10 ^ i + d * 10 ^ j).natAbs).length ≤ 500) := Nat.le_trans (sum_len c d hc hd i j hi hj) (by decide)
  have HEQ : Hid (tell (c * 10 ^ i + d * 10 ^ j) m = tell (V (-18) c e + V (-18) d f) (-18)) := by
    show _ = _
    rw [← HM.out]
    exact tell_sum c e d f i j (by have := HM.out; omega) hij
  obtain ⟨x, HX⟩ : ∃ x, Hid (c * 10 ^ i = x) := ⟨_, rfl⟩
  obtain ⟨y, HY⟩ : ∃ y, Hid (d * 10 ^ j = y) := ⟨_, rfl⟩
  rw [HX.out] at eX HNX HN1 HL HEQ
  rw [HY.out] at eY HNY HN2 HL HEQ
  have HPL : ∀ V, Below wr.heap.size wr V → Hid (Calls Tryd.prog 46 #[.agg #[.bool nx, .slice a1 n1 c1], .agg #[.bool ny, .slice a2 n2 c2]] V fun r w' => ∃ v', r = .returned v' ∧ BigV w' (x + y) v' ∧ Below V.heap.size V w') := fun V h =>
    plus_any x y _ _ V ⟨.slice a1 n1 c1, by rw [← HNX.out]; rfl, eX.below h⟩ ⟨.slice a2 n2 c2, by rw [← HNY.out]; rfl, eY.below h⟩ (by rw [HN1.out]; omega) (by rw [HN2.out]; omega)
  obtain ⟨z, HZ⟩ : ∃ z, Hid (x + y = z) := ⟨_, rfl⟩
  have HTE : ∀ V s, DgAt V s (digs z.natAbs) → Hid (Calls Tryd.prog 45 #[.agg #[.bool (decide (z < 0)), s, .int .i64 m]] V fun r w' => r = .returned res ∧ Below V.heap.size V w') := fun V s h => by
    have := told_any' z m _ V ⟨s, rfl, h⟩ (by omega) (by omega) (by rw [← HZ.out]; exact HL.out)
    rw [← HZ.out, HEQ.out, HRES.out, HZ.out] at this
    exact this
  obtain ⟨p, q, st, hres⟩ := dec_form' (tell (V (-18) c e + V (-18) d f) (-18))
  rw [HRES.out] at hres
  subst hres
  have hS : Below wr.heap.size wr wr.drew := (Below.refl _ wr).drew
  have tri : ∀ wx, Below wr.heap.size wr wx → wx.cell? ⟨X, 0, none⟩ = some (.bool nx) ∧ wx.cell? ⟨X, 1, none⟩ = some (.slice a1 n1 c1) ∧ wx.cell? ⟨X, 2, none⟩ = some (.int .i64 m) := fun wx hx => (px.below hx px.lt).tri
  have tri2 : ∀ wx, Below wr.heap.size wr wx → wx.cell? ⟨X + 1, 0, none⟩ = some (.bool ny) ∧ wx.cell? ⟨X + 1, 1, none⟩ = some (.slice a2 n2 c2) ∧ wx.cell? ⟨X + 1, 2, none⟩ = some (.int .i64 m) := fun wx hx => (py.below hx py.lt).tri
  refine wp_region_M (fun wx : World => Below wr.heap.size wr wx) (fun j => decide (j < 11)) 13 rfl (by kernel_rfl) ?_
  refine wpM_held 0 (v := ?_) rfl (by kernel_rfl) (by kernel_rfl) rfl (fun _ _ _ h => h) rfl (by intro wx hx; go_simp <;> rfl) hS ?_
  refine wpM_held 1 (v := .agg #[.bool nx, .slice a1 n1 c1]) rfl (by kernel_rfl) (by kernel_rfl) rfl (fun _ _ _ h => h) rfl (by intro wx hx; obtain ⟨x0, x1, x2⟩ := tri wx hx; go_simp <;> rfl) hS ?_
  refine wpM_held 2 (v := ?_) rfl (by kernel_rfl) (by kernel_rfl) rfl (fun _ _ _ h => h) rfl (by intro wx hx; go_simp <;> rfl) hS ?_
  refine wpM_held 3 (v := .agg #[.bool ny, .slice a2 n2 c2]) rfl (by kernel_rfl) (by kernel_rfl) rfl (fun _ _ _ h => h) rfl (by intro wx hx; obtain ⟨x0, x1, x2⟩ := tri2 wx hx; go_simp <;> rfl) hS ?_
  refine wpM_held 5 (v := ?_) rfl (by kernel_rfl) (by kernel_rfl) rfl (fun _ _ _ h => h) rfl (by intro wx hx; go_simp <;> rfl) hS ?_
  refine wpM_held 6 (v := .int .i64 m) rfl (by kernel_rfl) (by kernel_rfl) rfl (fun _ _ _ h => h) rfl (by intro wx hx; obtain ⟨x0, x1, x2⟩ := tri wx hx; go_simp <;> rfl) hS ?_
  refine wpM_one 4 rfl (by kernel_rfl) rfl ?_
  go_wp2_with fail
  refine Calls.mono (HPL _ hS).out ?_
  rintro _ wb ⟨v2, rfl, hV2, b4⟩
  have hWb : Below wr.heap.size wr wb := hS.trans (b4.mono hS.size)
  clear b4 HPL
  rw [HZ.out] at hV2
  obtain ⟨s2, rfl, hD2⟩ := hV2
  have HTE := HTE wb s2 hD2
  obtain ⟨_, a6, c6, rfl, _, _⟩ := id hD2
  unfold bv
  obtain ⟨nz, HNZ⟩ : ∃ nz, Hid (decide (z < 0) = nz) := ⟨_, rfl⟩
  obtain ⟨n6, HN6⟩ : ∃ n6 : Nat, Hid ((digs z.natAbs).length = n6) := ⟨_, rfl⟩
  rw [HNZ.out, HN6.out] at HTE
  rw [HNZ.out, HN6.out]
  clear hD2
  go_wp2_with fail
  refine ⟨fun _ => hWb, ?_⟩
  refine wpM_one 7 rfl (by kernel_rfl) rfl ?_
  go_wp2_with fail
  refine ⟨fun _ => hWb, ?_⟩
  refine wpM_one 8 rfl (by kernel_rfl) rfl ?_
  go_wp2_with fail
  refine Calls.mono HTE.out ?_
  rintro _ wd ⟨rfl, b5⟩
  have hWd : Below wr.heap.size wr wd := hWb.trans (b5.mono hWb.size)
  clear b5 HTE
  go_wp2_with fail
  refine ⟨fun _ => hWd, ?_⟩
  refine wpM_held 9 (v := .agg #[.int .i64 p, .int .i64 q]) rfl (by kernel_rfl) (by kernel_rfl) rfl (fun _ _ _ h => h) rfl (by intro wx hx; go_simp <;> rfl) hWd ?_
  refine wpM_held 10 (v := .int .i64 st) rfl (by kernel_rfl) (by kernel_rfl) rfl (fun _ _ _ h => h) rfl (by intro wx hx; go_simp <;> rfl) hWd ?_
  have pr := hrx.below hWd hrx.lt
  obtain ⟨y0, y1⟩ := pr.duo
  have zf := pr.frozen
  have hZe := Row.set2 pr (.int .i64 p) (.int .i64 q)
  have hBf := hBe.trans (hWd.mono (Nat.le_of_lt (Nat.lt_trans (by omega) hrx.lt)))
  have hBg := below_set (below_set hBf (B := w.heap.size + 1 + 1) 0 (.int .i64 p) (by omega)) (B := w.heap.size + 1 + 1) 1 (.int .i64 q) (by omega)
  refine wpM_one 11 rfl (by kernel_rfl) rfl ?_
  go_wp2_with fail
  refine ⟨fun h => by simp at h, ?_⟩
  refine wpM_one 12 rfl (by kernel_rfl) rfl ?_
  go_wp2_with fail
  refine ⟨fun h => by simp at h, ?_⟩
  refine wpM_done (by kernel_rfl) ?_
  go_wp2
  exact bodyPost_ret (ret_two rfl (g := w.heap.size + 1 + 1) rfl rfl (load23 hZe rfl)) rfl ⟨rfl, hBg⟩
end Go.Proofs.YtfbhonjndepjbaaDoor
/- The document's Sub. -/
namespace Go.Proofs.YtfbhonjndepjbaaDoor
open Go.RowKit

theorem tell_diff (c e d f : Int) (i j : Nat) (he : -18 ≤ e - (i : Int)) (h : e - (i : Int) = f - (j : Int)) : tell (c * 10 ^ i + -(d * 10 ^ j)) (e - (i : Int)) = tell (V (-18) c e - V (-18) d f) (-18) := by
  have := tell_sum c e (-d) f i j he h
  rw [Int.neg_mul] at this
  rw [this]
  unfold V
  rw [Int.neg_mul]
  rfl
theorem diff_len (c d : Int) (hc : I64 c) (hd : I64 d) (i j : Nat) (hi : i ≤ 36) (hj : j ≤ 36) : (digs (c * 10 ^ i + -(d * 10 ^ j)).natAbs).length ≤ 57 := by
  have h1 := shifted_len c hc i
  refine digs_len _ _ ?_
  have h1 : (c * 10 ^ i).natAbs < 10 ^ 55 := shifted_lt c hc i hi
  have h2 : (d * 10 ^ j).natAbs < 10 ^ 55 := shifted_lt d hd j hj
  have h3 : (10 : Nat) ^ 57 = 10 ^ 55 * 100 := rfl
  have h4 := Int.natAbs_add_le (c * 10 ^ i) (-(d * 10 ^ j))
  rw [Int.natAbs_neg] at h4
  generalize (10 : Nat) ^ 55 = p at *
  omega
set_option maxRecDepth 100000 in
set_option maxHeartbeats 2000000 in
theorem rsub_ok (c e d f : Int) (hc : I64 c) (hd : I64 d) (w : World) (he1 : -18 ≤ e) (he2 : e ≤ 18) (hf1 : -18 ≤ f) (hf2 : f ≤ 18) : Calls Tryd.prog 12 #[.agg #[.int .i64 c, .int .i64 e], .agg #[.int .i64 d, .int .i64 f]] w fun r w' => r = .returned (decV (tell (V (-18) c e - V (-18) d f) (-18))) ∧ Below w.heap.size w w' := by
  have HC : ∀ W, Hid (Calls Tryd.prog 44 #[.agg #[.int .i64 c, .int .i64 e], .agg #[.int .i64 d, .int .i64 f]] W _) := fun W => two_any c e d f hc hd W he1 he2 hf1 hf2
  obtain ⟨res, HRES⟩ : ∃ res, Hid (decV (tell (V (-18) c e - V (-18) d f) (-18)) = res) := ⟨_, rfl⟩
  rw [HRES.out]
  go_enter Tryd.func12, Tryd.ntmps12
  go_wp2_with fail
  have r2 := Row.new ((w.alloc (.cells #[.int .i64 c, .int .i64 e] 23)).alloc (.cells #[.int .i64 d, .int .i64 f] 23)) 23 #[.int .i64 0, .int .i64 0]
  have hB := (((Below.refl _ w).alloc (Nat.le_refl _) (.cells #[.int .i64 c, .int .i64 e] 23)).alloc (by simp) (.cells #[.int .i64 d, .int .i64 f] 23)).alloc (by simp; omega) (.cells #[.int .i64 0, .int .i64 0] 23)
  have hWs : w.heap.size + 3 ≤ (((((w.alloc (.cells #[.int .i64 c, .int .i64 e] 23)).alloc (.cells #[.int .i64 d, .int .i64 f] 23)).alloc (.cells #[.int .i64 0, .int .i64 0] 23)))).heap.size := by simp
  simp only [World.size_alloc] at r2
  generalize ((((w.alloc (.cells #[.int .i64 c, .int .i64 e] 23)).alloc (.cells #[.int .i64 d, .int .i64 f] 23)).alloc (.cells #[.int .i64 0, .int .i64 0] 23))) = W at *
  refine Calls.mono (HC W).out ?_
  rintro _ w1 ⟨i, j, sx, sy, rfl, hij, hlo, hi, hj, hDx, hDy, b1⟩
  clear HC
  obtain ⟨_, a1, c1, rfl, _, _⟩ := id hDx
  obtain ⟨_, a2, c2, rfl, _, _⟩ := id hDy
  unfold numC
  obtain ⟨nx, HNX⟩ : ∃ nx, Hid (decide (c * 10 ^ i < 0) = nx) := ⟨_, rfl⟩
  obtain ⟨ny, HNY⟩ : ∃ ny, Hid (decide (d * 10 ^ j < 0) = ny) := ⟨_, rfl⟩
  rw [HNX.out, HNY.out]
  have lx := shifted_len c hc i
  have ly := shifted_len d hd j
  obtain ⟨n1, HN1⟩ : ∃ n1 : Nat, Hid ((digs (c * 10 ^ i).natAbs).length = n1) := ⟨_, rfl⟩
  obtain ⟨n2, HN2⟩ : ∃ n2 : Nat, Hid ((digs (d * 10 ^ j).natAbs).length = n2) := ⟨_, rfl⟩
  rw [HN1.out] at hDx lx
  rw [HN2.out] at hDy ly
  rw [HN1.out, HN2.out]
  obtain ⟨m, HM⟩ : ∃ m, Hid (e - (i : Int) = m) := ⟨_, rfl⟩
  rw [HM.out]
  go_wp2_with fail
  have hmr : -18 ≤ m ∧ m ≤ 18 := by have := HM.out; omega
  have px := (Row.new w1 47 #[.bool nx, .slice a1 n1 c1, .int .i64 m]).alloc (.cells #[.bool ny, .slice a2 n2 c2, .int .i64 m] 47)
  have py := Row.new1 w1 (.cells #[.bool nx, .slice a1 n1 c1, .int .i64 m] 47) 47 #[.bool ny, .slice a2 n2 c2, .int .i64 m]
  have b2 : Below w1.heap.size w1 ((w1.alloc (.cells #[.bool nx, .slice a1 n1 c1, .int .i64 m] 47)).alloc (.cells #[.bool ny, .slice a2 n2 c2, .int .i64 m] 47)) := ((Below.refl _ w1).alloc (Nat.le_refl _) _).alloc (by simp) _
  have hrx := (r2.below b1 r2.lt).below b2 (r2.below b1 r2.lt).lt
  have hBe := (hB.trans (b1.mono (by omega))).trans (b2.mono (Nat.le_trans (by omega) b1.size))
  have eX := hDx.below b2
  have eY := hDy.below b2
  have hr1 : w.heap.size + 2 < w1.heap.size := by have := b1.size; omega
  clear r2 b1 b2 hDx hDy hB hWs
  generalize (w1.alloc (.cells #[.bool nx, .slice a1 n1 c1, .int .i64 m] 47)).alloc (.cells #[.bool ny, .slice a2 n2 c2, .int .i64 m] 47) = wr at *
  generalize w1.heap.size = X at *
  have HL : Hid ((digs (c * 10 ^ i + -(d * 10 ^ j)).natAbs).length ≤ 500) := Nat.le_trans (diff_len c d hc hd i j hi hj) (by decide)
  have HEQ : Hid (tell (c * 10 ^ i + -(d * 10 ^ j)) m = tell (V (-18) c e - V (-18) d f) (-18)) := by
    show _ = _
    rw [← HM.out]
    exact tell_diff c e d f i j (by have := HM.out; omega) hij
  obtain ⟨x, HX⟩ : ∃ x, Hid (c * 10 ^ i = x) := ⟨_, rfl⟩
  obtain ⟨y, HY⟩ : ∃ y, Hid (d * 10 ^ j = y) := ⟨_, rfl⟩
  rw [HX.out] at eX HNX HN1 HL HEQ
  rw [HY.out] at eY HNY HN2 HL HEQ
  have ly2 : (digs (-y).natAbs).length ≤ 800 := by rw [Int.natAbs_neg, HN2.out]; omega
  have HMI : ∀ V, Below wr.heap.size wr V → Hid (Calls Tryd.prog 48 #[.agg #[.bool ny, .slice a2 n2 c2]] V fun r w' => ∃ v', r = .returned v' ∧ BigV w' (-y) v' ∧ Below V.heap.size V w') := fun V h =>
    minus_any y _ V ⟨.slice a2 n2 c2, by rw [← HNY.out]; rfl, eY.below h⟩ (by rw [HN2.out]; omega)
  have HPL : ∀ V u, Below wr.heap.size wr V → BigV V (-y) u → Hid (Calls Tryd.prog 46 #[.agg #[.bool nx, .slice a1 n1 c1], u] V fun r w' => ∃ v', r = .returned v' ∧ BigV w' (x + -y) v' ∧ Below V.heap.size V w') := fun V u h hu =>
    plus_any x (-y) _ _ V ⟨.slice a1 n1 c1, by rw [← HNX.out]; rfl, eX.below h⟩ hu (by rw [HN1.out]; omega) ly2
  obtain ⟨z, HZ⟩ : ∃ z, Hid (x + -y = z) := ⟨_, rfl⟩
  have HTE : ∀ V s, DgAt V s (digs z.natAbs) → Hid (Calls Tryd.prog 45 #[.agg #[.bool (decide (z < 0)), s, .int .i64 m]] V fun r w' => r = .returned res ∧ Below V.heap.size V w') := fun V s h => by
    have := told_any' z m _ V ⟨s, rfl, h⟩ (by omega) (by omega) (by rw [← HZ.out]; exact HL.out)
    rw [← HZ.out, HEQ.out, HRES.out, HZ.out] at this
    exact this
  obtain ⟨p, q, st, hres⟩ := dec_form' (tell (V (-18) c e - V (-18) d f) (-18))
  rw [HRES.out] at hres
  subst hres
  have hS : Below wr.heap.size wr wr.drew := (Below.refl _ wr).drew
  have tri : ∀ wx, Below wr.heap.size wr wx → wx.cell? ⟨X, 0, none⟩ = some (.bool nx) ∧ wx.cell? ⟨X, 1, none⟩ = some (.slice a1 n1 c1) ∧ wx.cell? ⟨X, 2, none⟩ = some (.int .i64 m) := fun wx hx => (px.below hx px.lt).tri
  have tri2 : ∀ wx, Below wr.heap.size wr wx → wx.cell? ⟨X + 1, 0, none⟩ = some (.bool ny) ∧ wx.cell? ⟨X + 1, 1, none⟩ = some (.slice a2 n2 c2) ∧ wx.cell? ⟨X + 1, 2, none⟩ = some (.int .i64 m) := fun wx hx => (py.below hx py.lt).tri
  refine wp_region_M (fun wx : World => Below wr.heap.size wr wx) (fun j => decide (j < 12)) 14 rfl (by kernel_rfl) ?_
  refine wpM_held 0 (v := ?_) rfl (by kernel_rfl) (by kernel_rfl) rfl (fun _ _ _ h => h) rfl (by intro wx hx; go_simp <;> rfl) hS ?_
  refine wpM_held 1 (v := .agg #[.bool nx, .slice a1 n1 c1]) rfl (by kernel_rfl) (by kernel_rfl) rfl (fun _ _ _ h => h) rfl (by intro wx hx; obtain ⟨x0, x1, x2⟩ := tri wx hx; go_simp <;> rfl) hS ?_
  refine wpM_held 2 (v := ?_) rfl (by kernel_rfl) (by kernel_rfl) rfl (fun _ _ _ h => h) rfl (by intro wx hx; go_simp <;> rfl) hS ?_
  refine wpM_held 3 (v := .agg #[.bool ny, .slice a2 n2 c2]) rfl (by kernel_rfl) (by kernel_rfl) rfl (fun _ _ _ h => h) rfl (by intro wx hx; obtain ⟨x0, x1, x2⟩ := tri2 wx hx; go_simp <;> rfl) hS ?_
  refine wpM_held 6 (v := ?_) rfl (by kernel_rfl) (by kernel_rfl) rfl (fun _ _ _ h => h) rfl (by intro wx hx; go_simp <;> rfl) hS ?_
  refine wpM_held 7 (v := .int .i64 m) rfl (by kernel_rfl) (by kernel_rfl) rfl (fun _ _ _ h => h) rfl (by intro wx hx; obtain ⟨x0, x1, x2⟩ := tri wx hx; go_simp <;> rfl) hS ?_
  refine wpM_one 4 rfl (by kernel_rfl) rfl ?_
  go_wp2_with fail
  refine Calls.mono (HMI _ hS).out ?_
  rintro _ wa ⟨v1, rfl, hV1, b3⟩
  have hWa : Below wr.heap.size wr wa := hS.trans (b3.mono hS.size)
  clear b3 HMI
  obtain ⟨s1, rfl, hD1⟩ := hV1
  obtain ⟨_, a5, c5, rfl, _, _⟩ := id hD1
  have hV1 : BigV wa (-y) (bv (decide (-y < 0)) (.slice a5 (digs (-y).natAbs).length c5)) := ⟨_, rfl, hD1⟩
  unfold bv at hV1
  unfold bv
  obtain ⟨nm, HNM⟩ : ∃ nm, Hid (decide (-y < 0) = nm) := ⟨_, rfl⟩
  rw [HNM.out] at hV1
  rw [HNM.out]
  obtain ⟨n5, HN5⟩ : ∃ n5 : Nat, Hid ((digs (-y).natAbs).length = n5) := ⟨_, rfl⟩
  rw [HN5.out] at hV1
  rw [HN5.out]
  go_wp2_with fail
  refine ⟨fun _ => hWa, ?_⟩
  refine wpM_one 5 rfl (by kernel_rfl) rfl ?_
  go_wp2_with fail
  refine Calls.mono (HPL _ _ hWa hV1).out ?_
  rintro _ wb ⟨v2, rfl, hV2, b4⟩
  have hWb : Below wr.heap.size wr wb := hWa.trans (b4.mono hWa.size)
  clear b4 HPL
  rw [HZ.out] at hV2
  obtain ⟨s2, rfl, hD2⟩ := hV2
  have HTE := HTE wb s2 hD2
  obtain ⟨_, a6, c6, rfl, _, _⟩ := id hD2
  unfold bv
  obtain ⟨nz, HNZ⟩ : ∃ nz, Hid (decide (z < 0) = nz) := ⟨_, rfl⟩
  obtain ⟨n6, HN6⟩ : ∃ n6 : Nat, Hid ((digs z.natAbs).length = n6) := ⟨_, rfl⟩
  rw [HNZ.out, HN6.out] at HTE
  rw [HNZ.out, HN6.out]
  clear hD2
  go_wp2_with fail
  refine ⟨fun _ => hWb, ?_⟩
  refine wpM_one 8 rfl (by kernel_rfl) rfl ?_
  go_wp2_with fail
  refine ⟨fun _ => hWb, ?_⟩
  refine wpM_one 9 rfl (by kernel_rfl) rfl ?_
  go_wp2_with fail
  refine Calls.mono HTE.out ?_
  rintro _ wd ⟨rfl, b5⟩
  have hWd : Below wr.heap.size wr wd := hWb.trans (b5.mono hWb.size)
  clear b5 HTE
  go_wp2_with fail
  refine ⟨fun _ => hWd, ?_⟩
  refine wpM_held 10 (v := .agg #[.int .i64 p, .int .i64 q]) rfl (by kernel_rfl) (by kernel_rfl) rfl (fun _ _ _ h => h) rfl (by intro wx hx; go_simp <;> rfl) hWd ?_
  refine wpM_held 11 (v := .int .i64 st) rfl (by kernel_rfl) (by kernel_rfl) rfl (fun _ _ _ h => h) rfl (by intro wx hx; go_simp <;> rfl) hWd ?_
  have pr := hrx.below hWd hrx.lt
  obtain ⟨y0, y1⟩ := pr.duo
  have zf := pr.frozen
  have hZe := Row.set2 pr (.int .i64 p) (.int .i64 q)
  have hBf := hBe.trans (hWd.mono (Nat.le_of_lt (Nat.lt_trans (by omega) hrx.lt)))
  have hBg := below_set (below_set hBf (B := w.heap.size + 1 + 1) 0 (.int .i64 p) (by omega)) (B := w.heap.size + 1 + 1) 1 (.int .i64 q) (by omega)
  refine wpM_one 12 rfl (by kernel_rfl) rfl ?_
  go_wp2_with fail
  refine ⟨fun h => by simp at h, ?_⟩
  refine wpM_one 13 rfl (by kernel_rfl) rfl ?_
  go_wp2_with fail
  refine ⟨fun h => by simp at h, ?_⟩
  refine wpM_done (by kernel_rfl) ?_
  go_wp2
  exact bodyPost_ret (ret_two rfl (g := w.heap.size + 1 + 1) rfl rfl (load23 hZe rfl)) rfl ⟨rfl, hBg⟩
end Go.Proofs.YtfbhonjndepjbaaDoor
