import Derived.Test.YtfbhonjndepjbaaDoorRti
import Derived.Test.YtfbhonjndepjbaaDoorWalM
/- The document's Mul, given its Times. -/
namespace Go.Proofs.YtfbhonjndepjbaaDoor
open Go.RowKit

/-- What the document's Times keeps. -/
def TimesC : Prop := ∀ (x y : Int) (v u : Value) (w : World), BigV w x v → BigV w y u → (digs x.natAbs).length ≤ 40 → (digs y.natAbs).length ≤ 40 → Calls Tryd.prog 54 #[v, u] w fun r w' => ∃ v', r = .returned v' ∧ BigV w' (x * y) v' ∧ Below w.heap.size w w'
theorem tell_mul (c e d f : Int) (he : -18 ≤ e) (hf : -18 ≤ f) : tell (c * d) (e + f) = tell (V (-18) c e * V (-18) d f) (-36) := by
  obtain ⟨i, hi⟩ : ∃ i : Nat, e - (i : Int) = -18 := ⟨(e + 18).toNat, by omega⟩
  obtain ⟨j, hj⟩ : ∃ j : Nat, f - (j : Int) = -18 := ⟨(f + 18).toNat, by omega⟩
  rw [← tell_pow (c * d) (e + f) (i + j), show e + f - ((i + j : Nat) : Int) = -36 by omega]
  unfold V
  rw [show (e - -18).toNat = i by omega, show (f - -18).toNat = j by omega, Int.pow_add]
  congr 1
  rw [Int.mul_assoc, Int.mul_assoc, ← Int.mul_assoc d, Int.mul_comm d (10 ^ i), Int.mul_assoc]
theorem prod_len (c d : Int) (hc : I64 c) (hd : I64 d) : (digs (c * d).natAbs).length ≤ 38 := by
  refine digs_len _ _ ?_
  rw [Int.natAbs_mul]
  unfold I64 at hc hd
  have h1 : c.natAbs ≤ 9223372036854775808 := by omega
  have h2 : d.natAbs ≤ 9223372036854775808 := by omega
  exact Nat.lt_of_le_of_lt (Nat.mul_le_mul h1 h2) (by decide)
set_option maxRecDepth 100000 in
set_option maxHeartbeats 2000000 in
theorem rmul_ok (HTI : TimesC) (c e d f : Int) (hc : I64 c) (hd : I64 d) (w : World) (he1 : -18 ≤ e) (he2 : e ≤ 18) (hf1 : -18 ≤ f) (hf2 : f ≤ 18) : Calls Tryd.prog 16 #[.agg #[.int .i64 c, .int .i64 e], .agg #[.int .i64 d, .int .i64 f]] w fun r w' => r = .returned (decV (tell (V (-18) c e * V (-18) d f) (-36))) ∧ Below w.heap.size w w' := by
  have HC : ∀ W, Hid (Calls Tryd.prog 53 #[.agg #[.int .i64 c, .int .i64 e]] W _) := fun W => num_any c e hc W
  have HD : ∀ W, Hid (Calls Tryd.prog 53 #[.agg #[.int .i64 d, .int .i64 f]] W _) := fun W => num_any d f hd W
  rw [decide_eq_true (show -18 ≤ e ∧ e ≤ 18 from ⟨he1, he2⟩)] at HC
  rw [decide_eq_true (show -18 ≤ f ∧ f ≤ 18 from ⟨hf1, hf2⟩)] at HD
  obtain ⟨res, HRES⟩ : ∃ res, Hid (decV (tell (V (-18) c e * V (-18) d f) (-36)) = res) := ⟨_, rfl⟩
  rw [HRES.out]
  have HTC : Hid TimesC := HTI
  clear HTI
  go_enter Tryd.func16, Tryd.ntmps16
  go_wp2_with fail
  have r1 := (Row.new1 w (.cells #[.int .i64 c, .int .i64 e] 23) 23 #[.int .i64 d, .int .i64 f]).alloc (.cells #[.int .i64 0, .int .i64 0] 23)
  have r2 := Row.new ((w.alloc (.cells #[.int .i64 c, .int .i64 e] 23)).alloc (.cells #[.int .i64 d, .int .i64 f] 23)) 23 #[.int .i64 0, .int .i64 0]
  have hB := (((Below.refl _ w).alloc (Nat.le_refl _) (.cells #[.int .i64 c, .int .i64 e] 23)).alloc (by simp) (.cells #[.int .i64 d, .int .i64 f] 23)).alloc (by simp; omega) (.cells #[.int .i64 0, .int .i64 0] 23)
  have hWs : w.heap.size + 3 ≤ (((((w.alloc (.cells #[.int .i64 c, .int .i64 e] 23)).alloc (.cells #[.int .i64 d, .int .i64 f] 23)).alloc (.cells #[.int .i64 0, .int .i64 0] 23)))).heap.size := by simp
  simp only [World.size_alloc] at r2
  generalize ((((w.alloc (.cells #[.int .i64 c, .int .i64 e] 23)).alloc (.cells #[.int .i64 d, .int .i64 f] 23)).alloc (.cells #[.int .i64 0, .int .i64 0] 23))) = W at *
  refine Calls.mono (HC W).out ?_
  rintro _ w1 ⟨s1, rfl, hD1, hN1, b1⟩
  clear HC hN1
  obtain ⟨_, a1, c1, rfl, _, _⟩ := id hD1
  obtain ⟨nc, HNC⟩ : ∃ nc, Hid (decide (c < 0) = nc) := ⟨_, rfl⟩
  rw [HNC.out]
  obtain ⟨lc, HLC⟩ : ∃ lc, Hid ((digs c.natAbs).length = lc) := ⟨_, rfl⟩
  rw [HLC.out] at hD1
  rw [HLC.out]
  have q1 := (r1.below b1 r1.lt).alloc (.cells #[.bool nc, .slice a1 lc c1, .int .i64 e] 47)
  obtain ⟨x0, x1⟩ := q1.duo
  go_wp2_with fail
  have r4 := Row.new w1 47 #[.bool nc, .slice a1 lc c1, .int .i64 e]
  have b2 : Below W.heap.size W (w1.alloc (.cells #[.bool nc, .slice a1 lc c1, .int .i64 e] 47)) := b1.alloc b1.size _
  have hD2 := hD1.below ((Below.refl _ w1).alloc (Nat.le_refl _) (.cells #[.bool nc, .slice a1 lc c1, .int .i64 e] 47))
  clear q1 x0 x1 hD1
  generalize w1.alloc (.cells #[.bool nc, .slice a1 lc c1, .int .i64 e] 47) = W2 at *
  generalize w1.heap.size = X at *
  refine Calls.mono (HD W2).out ?_
  rintro _ w2 ⟨s2, rfl, hD3, hN3, b3⟩
  clear HD hN3
  obtain ⟨_, a2, c2, rfl, _, _⟩ := id hD3
  obtain ⟨nd, HND⟩ : ∃ nd, Hid (decide (d < 0) = nd) := ⟨_, rfl⟩
  rw [HND.out]
  obtain ⟨ld, HLD⟩ : ∃ ld, Hid ((digs d.natAbs).length = ld) := ⟨_, rfl⟩
  rw [HLD.out] at hD3
  rw [HLD.out]
  have py := Row.new w2 47 #[.bool nd, .slice a2 ld c2, .int .i64 f]
  have b4 : Below W2.heap.size W2 (w2.alloc (.cells #[.bool nd, .slice a2 ld c2, .int .i64 f] 47)) := b3.alloc b3.size _
  have eY := hD3.below ((Below.refl _ w2).alloc (Nat.le_refl _) (.cells #[.bool nd, .slice a2 ld c2, .int .i64 f] 47))
  have eX := hD2.below b4
  have px := r4.below b4 r4.lt
  have hrx := (r2.below b2 r2.lt).below b4 (r2.below b2 r2.lt).lt
  have hBe := (hB.trans (b2.mono (by omega))).trans (b4.mono (Nat.le_trans (by omega) b2.size))
  clear r1 r2 hB r4 hD2 hD3 b1 b2 b3 b4
  generalize hW5 : w2.alloc (.cells #[.bool nd, .slice a2 ld c2, .int .i64 f] 47) = wr at *
  generalize hYg : w2.heap.size = Y at *
  go_wp2_with fail
  have lx := shifted_len c hc 0
  have ly := shifted_len d hd 0
  rw [Int.pow_zero, Int.mul_one, HLC.out] at lx
  rw [Int.pow_zero, Int.mul_one, HLD.out] at ly
  have HPL : ∀ V, Below wr.heap.size wr V → Hid (Calls Tryd.prog 54 #[.agg #[.bool nc, .slice a1 lc c1], .agg #[.bool nd, .slice a2 ld c2]] V fun r w' => ∃ v', r = .returned v' ∧ BigV w' (c * d) v' ∧ Below V.heap.size V w') := fun V h =>
    HTC.out c d _ _ V ⟨.slice a1 lc c1, by rw [← HNC.out]; rfl, eX.below h⟩ ⟨.slice a2 ld c2, by rw [← HND.out]; rfl, eY.below h⟩ (by rw [HLC.out]; omega) (by rw [HLD.out]; omega)
  have HTE : ∀ V s, DgAt V s (digs (c * d).natAbs) → Hid (Calls Tryd.prog 45 #[.agg #[.bool (decide (c * d < 0)), s, .int .i64 (e + f)]] V fun r w' => r = .returned res ∧ Below V.heap.size V w') := fun V s h => by
    have := told_any' (c * d) (e + f) _ V ⟨s, rfl, h⟩ (by omega) (by omega) (Nat.le_trans (prod_len c d hc hd) (by decide))
    rw [tell_mul c e d f he1 hf1, HRES.out] at this
    exact this
  obtain ⟨p, q, st, hres⟩ := dec_form' (tell (V (-18) c e * V (-18) d f) (-36))
  rw [HRES.out] at hres
  subst hres
  have fw : IntKind.i64.wrap (e + f) = e + f := IntWalk.i64_in _ ⟨by omega, by omega⟩
  have hS : Below wr.heap.size wr wr.drew := (Below.refl _ wr).drew
  have tri : ∀ wx, Below wr.heap.size wr wx → wx.cell? ⟨X, 0, none⟩ = some (.bool nc) ∧ wx.cell? ⟨X, 1, none⟩ = some (.slice a1 lc c1) ∧ wx.cell? ⟨X, 2, none⟩ = some (.int .i64 e) := fun wx hx => (px.below hx px.lt).tri
  have tri2 : ∀ wx, Below wr.heap.size wr wx → wx.cell? ⟨Y, 0, none⟩ = some (.bool nd) ∧ wx.cell? ⟨Y, 1, none⟩ = some (.slice a2 ld c2) ∧ wx.cell? ⟨Y, 2, none⟩ = some (.int .i64 f) := fun wx hx => (py.below hx py.lt).tri
  clear hW5 hYg HTC
  refine wp_region_M (fun wx : World => Below wr.heap.size wr wx) (fun j => decide (j < 14)) 16 rfl (by kernel_rfl) ?_
  refine wpM_held 0 (v := ?_) rfl (by kernel_rfl) (by kernel_rfl) rfl (fun _ _ _ h => h) rfl (by intro wx hx; go_simp <;> rfl) hS ?_
  refine wpM_held 1 (v := .agg #[.bool nc, .slice a1 lc c1]) rfl (by kernel_rfl) (by kernel_rfl) rfl (fun _ _ _ h => h) rfl (by intro wx hx; obtain ⟨x0, x1, x2⟩ := tri wx hx; go_simp <;> rfl) hS ?_
  refine wpM_held 2 (v := ?_) rfl (by kernel_rfl) (by kernel_rfl) rfl (fun _ _ _ h => h) rfl (by intro wx hx; go_simp <;> rfl) hS ?_
  refine wpM_held 3 (v := .agg #[.bool nd, .slice a2 ld c2]) rfl (by kernel_rfl) (by kernel_rfl) rfl (fun _ _ _ h => h) rfl (by intro wx hx; obtain ⟨x0, x1, x2⟩ := tri2 wx hx; go_simp <;> rfl) hS ?_
  refine wpM_held 5 (v := ?_) rfl (by kernel_rfl) (by kernel_rfl) rfl (fun _ _ _ h => h) rfl (by intro wx hx; go_simp <;> rfl) hS ?_
  refine wpM_held 6 (v := .int .i64 e) rfl (by kernel_rfl) (by kernel_rfl) rfl (fun _ _ _ h => h) rfl (by intro wx hx; obtain ⟨x0, x1, x2⟩ := tri wx hx; go_simp <;> rfl) hS ?_
  refine wpM_held 7 (v := ?_) rfl (by kernel_rfl) (by kernel_rfl) rfl (fun _ _ _ h => h) rfl (by intro wx hx; go_simp <;> rfl) hS ?_
  refine wpM_held 8 (v := .int .i64 f) rfl (by kernel_rfl) (by kernel_rfl) rfl (fun _ _ _ h => h) rfl (by intro wx hx; obtain ⟨x0, x1, x2⟩ := tri2 wx hx; go_simp <;> rfl) hS ?_
  refine wpM_held 9 (v := .int .i64 (e + f)) rfl (by kernel_rfl) (by kernel_rfl) rfl (fun _ _ _ h => h) rfl (by intro wx hx; go_simp <;> first | rfl | exact fw) hS ?_
  refine wpM_one 4 rfl (by kernel_rfl) rfl ?_
  go_wp2_with fail
  refine Calls.mono (HPL _ hS).out ?_
  rintro _ wb ⟨v2, rfl, hV2, b4⟩
  have hWb : Below wr.heap.size wr wb := hS.trans (b4.mono hS.size)
  clear b4 HPL
  obtain ⟨s2, rfl, hD2⟩ := hV2
  have HTE := HTE wb s2 hD2
  obtain ⟨_, a6, c6, rfl, _, _⟩ := id hD2
  unfold bv
  obtain ⟨nz, HNZ⟩ : ∃ nz, Hid (decide (c * d < 0) = nz) := ⟨_, rfl⟩
  obtain ⟨n6, HN6⟩ : ∃ n6 : Nat, Hid ((digs (c * d).natAbs).length = n6) := ⟨_, rfl⟩
  rw [HNZ.out, HN6.out] at HTE
  rw [HNZ.out, HN6.out]
  clear hD2
  go_wp2_with fail
  refine ⟨fun _ => hWb, ?_⟩
  refine wpM_one 10 rfl (by kernel_rfl) rfl ?_
  go_wp2_with fail
  refine ⟨fun _ => hWb, ?_⟩
  refine wpM_one 11 rfl (by kernel_rfl) rfl ?_
  go_wp2_with fail
  refine Calls.mono HTE.out ?_
  rintro _ wd ⟨rfl, b5⟩
  have hWd : Below wr.heap.size wr wd := hWb.trans (b5.mono hWb.size)
  clear b5 HTE
  go_wp2_with fail
  refine ⟨fun _ => hWd, ?_⟩
  refine wpM_held 12 (v := .agg #[.int .i64 p, .int .i64 q]) rfl (by kernel_rfl) (by kernel_rfl) rfl (fun _ _ _ h => h) rfl (by intro wx hx; go_simp <;> rfl) hWd ?_
  refine wpM_held 13 (v := .int .i64 st) rfl (by kernel_rfl) (by kernel_rfl) rfl (fun _ _ _ h => h) rfl (by intro wx hx; go_simp <;> rfl) hWd ?_
  have pr := hrx.below hWd hrx.lt
  obtain ⟨y0, y1⟩ := pr.duo
  have zf := pr.frozen
  have hZe := Row.set2 pr (.int .i64 p) (.int .i64 q)
  have hBf := hBe.trans (hWd.mono (Nat.le_of_lt (Nat.lt_trans (by omega) hrx.lt)))
  have hBg := below_set (below_set hBf (B := w.heap.size + 1 + 1) 0 (.int .i64 p) (by omega)) (B := w.heap.size + 1 + 1) 1 (.int .i64 q) (by omega)
  refine wpM_one 14 rfl (by kernel_rfl) rfl ?_
  go_wp2_with fail
  refine ⟨fun h => by simp at h, ?_⟩
  refine wpM_one 15 rfl (by kernel_rfl) rfl ?_
  go_wp2_with fail
  refine ⟨fun h => by simp at h, ?_⟩
  refine wpM_done (by kernel_rfl) ?_
  go_wp2
  exact bodyPost_ret (ret_two rfl (g := w.heap.size + 1 + 1) rfl rfl (load23 hZe rfl)) rfl ⟨rfl, hBg⟩
set_option maxRecDepth 100000 in
set_option maxHeartbeats 2000000 in
theorem rmul_bad (c e d f : Int) (hc : I64 c) (hd : I64 d) (w : World) (hb : ¬((-18 ≤ e ∧ e ≤ 18) ∧ (-18 ≤ f ∧ f ≤ 18))) : Calls Tryd.prog 16 #[.agg #[.int .i64 c, .int .i64 e], .agg #[.int .i64 d, .int .i64 f]] w fun r w' => r = .returned argV ∧ Below w.heap.size w w' := by
  have HC : ∀ W, Hid (Calls Tryd.prog 53 #[.agg #[.int .i64 c, .int .i64 e]] W _) := fun W => num_any c e hc W
  have HD : ∀ W, Hid (Calls Tryd.prog 53 #[.agg #[.int .i64 d, .int .i64 f]] W _) := fun W => num_any d f hd W
  obtain ⟨okc, HOC⟩ : ∃ okc, Hid (decide (-18 ≤ e ∧ e ≤ 18) = okc) := ⟨_, rfl⟩
  obtain ⟨okd, HOD⟩ : ∃ okd, Hid (decide (-18 ≤ f ∧ f ≤ 18) = okd) := ⟨_, rfl⟩
  have hbad : okc = false ∨ okc = true ∧ okd = false := by
    rw [← HOC.out, ← HOD.out]
    by_cases h : -18 ≤ e ∧ e ≤ 18
    · right
      exact ⟨decide_eq_true h, decide_eq_false fun h2 => hb ⟨h, h2⟩⟩
    · left; exact decide_eq_false h
  clear hb
  rw [HOC.out] at HC
  rw [HOD.out] at HD
  go_enter Tryd.func16, Tryd.ntmps16
  go_wp2_with fail
  have r1 := (Row.new1 w (.cells #[.int .i64 c, .int .i64 e] 23) 23 #[.int .i64 d, .int .i64 f]).alloc (.cells #[.int .i64 0, .int .i64 0] 23)
  have r2 := Row.new ((w.alloc (.cells #[.int .i64 c, .int .i64 e] 23)).alloc (.cells #[.int .i64 d, .int .i64 f] 23)) 23 #[.int .i64 0, .int .i64 0]
  have hB := (((Below.refl _ w).alloc (Nat.le_refl _) (.cells #[.int .i64 c, .int .i64 e] 23)).alloc (by simp) (.cells #[.int .i64 d, .int .i64 f] 23)).alloc (by simp; omega) (.cells #[.int .i64 0, .int .i64 0] 23)
  have hWs : w.heap.size + 3 ≤ (((((w.alloc (.cells #[.int .i64 c, .int .i64 e] 23)).alloc (.cells #[.int .i64 d, .int .i64 f] 23)).alloc (.cells #[.int .i64 0, .int .i64 0] 23)))).heap.size := by simp
  simp only [World.size_alloc] at r2
  generalize ((((w.alloc (.cells #[.int .i64 c, .int .i64 e] 23)).alloc (.cells #[.int .i64 d, .int .i64 f] 23)).alloc (.cells #[.int .i64 0, .int .i64 0] 23))) = W at *
  refine Calls.mono (HC W).out ?_
  rintro _ w1 ⟨s1, rfl, hD1, hN1, b1⟩
  clear HC hN1
  obtain ⟨_, a1, c1, rfl, _, _⟩ := id hD1
  obtain ⟨nc, HNC⟩ : ∃ nc, Hid (decide (c < 0) = nc) := ⟨_, rfl⟩
  rw [HNC.out]
  obtain ⟨lc, HLC⟩ : ∃ lc, Hid ((digs c.natAbs).length = lc) := ⟨_, rfl⟩
  rw [HLC.out] at hD1
  rw [HLC.out]
  have q1 := (r1.below b1 r1.lt).alloc (.cells #[.bool nc, .slice a1 lc c1, .int .i64 e] 47)
  obtain ⟨x0, x1⟩ := q1.duo
  go_wp2_with fail
  have r4 := Row.new w1 47 #[.bool nc, .slice a1 lc c1, .int .i64 e]
  have b2 : Below W.heap.size W (w1.alloc (.cells #[.bool nc, .slice a1 lc c1, .int .i64 e] 47)) := b1.alloc b1.size _
  have hD2 := hD1.below ((Below.refl _ w1).alloc (Nat.le_refl _) (.cells #[.bool nc, .slice a1 lc c1, .int .i64 e] 47))
  clear q1 x0 x1 hD1
  generalize w1.alloc (.cells #[.bool nc, .slice a1 lc c1, .int .i64 e] 47) = W2 at *
  generalize w1.heap.size = X at *
  refine Calls.mono (HD W2).out ?_
  rintro _ w2 ⟨s2, rfl, hD3, hN3, b3⟩
  clear HD hN3
  obtain ⟨_, a2, c2, rfl, _, _⟩ := id hD3
  obtain ⟨nd, HND⟩ : ∃ nd, Hid (decide (d < 0) = nd) := ⟨_, rfl⟩
  rw [HND.out]
  obtain ⟨ld, HLD⟩ : ∃ ld, Hid ((digs d.natAbs).length = ld) := ⟨_, rfl⟩
  rw [HLD.out] at hD3
  rw [HLD.out]
  have py := Row.new w2 47 #[.bool nd, .slice a2 ld c2, .int .i64 f]
  have b4 : Below W2.heap.size W2 (w2.alloc (.cells #[.bool nd, .slice a2 ld c2, .int .i64 f] 47)) := b3.alloc b3.size _
  have eY := hD3.below ((Below.refl _ w2).alloc (Nat.le_refl _) (.cells #[.bool nd, .slice a2 ld c2, .int .i64 f] 47))
  have eX := hD2.below b4
  have px := r4.below b4 r4.lt
  have hrx := (r2.below b2 r2.lt).below b4 (r2.below b2 r2.lt).lt
  have hBe := (hB.trans (b2.mono (by omega))).trans (b4.mono (Nat.le_trans (by omega) b2.size))
  clear r1 r2 hB r4 hD2 hD3 b1 b2 b3 b4
  generalize hW5 : w2.alloc (.cells #[.bool nd, .slice a2 ld c2, .int .i64 f] 47) = wr at *
  generalize hYg : w2.heap.size = Y at *
  clear px py eX eY
  obtain ⟨y0, y1⟩ := hrx.duo
  have zf := hrx.frozen
  have hZe := Row.set2 hrx (.int .i64 0) (.int .i64 0)
  have hBg := below_set (below_set hBe (B := w.heap.size + 1 + 1) 0 (.int .i64 0) (by omega)) (B := w.heap.size + 1 + 1) 1 (.int .i64 0) (by omega)
  rcases hbad with rfl | ⟨rfl, rfl⟩
  · go_wp2_with fail
    exact bodyPost_ret (ret_two rfl (g := w.heap.size + 1 + 1) rfl rfl (load23 hZe rfl)) rfl ⟨rfl, hBg⟩
  · go_wp2_with fail
    exact bodyPost_ret (ret_two rfl (g := w.heap.size + 1 + 1) rfl rfl (load23 hZe rfl)) rfl ⟨rfl, hBg⟩
theorem rmul_any (HTI : TimesC) (c e d f : Int) (hc : I64 c) (hd : I64 d) (w : World) : Calls Tryd.prog 16 #[.agg #[.int .i64 c, .int .i64 e], .agg #[.int .i64 d, .int .i64 f]] w fun r w' => r = .returned (mulD c e d f) ∧ Below w.heap.size w w' := by
  unfold mulD
  split
  · rename_i h
    exact rmul_ok HTI c e d f hc hd w h.1.1 h.1.2 h.2.1 h.2.2
  · rename_i h
    exact rmul_bad c e d f hc hd w h
end Go.Proofs.YtfbhonjndepjbaaDoor
/- DecSums' walk, given Times. -/
namespace Go.Proofs.YtfbhonjndepjbaaDoor
open Go.RowKit

theorem addD_form (c e d f : Int) : ∃ p q s, addD c e d f = .tuple #[.agg #[.int .i64 p, .int .i64 q], .int .i64 s] := by
  unfold addD
  split
  · exact dec_form' _
  · exact ⟨_, _, _, rfl⟩
theorem mulD_form (c e d f : Int) : ∃ p q s, mulD c e d f = .tuple #[.agg #[.int .i64 p, .int .i64 q], .int .i64 s] := by
  unfold mulD
  split
  · exact dec_form' _
  · exact ⟨_, _, _, rfl⟩
/-- The boxes of the law. -/
structure SuAt (w : World) (X Y : Nat) (c e d f p q p' q' : Int) (W : World) : Prop where
  a : Row W w.heap.size 23 #[.int .i64 c, .int .i64 e]
  b : Row W (w.heap.size + 1) 23 #[.int .i64 d, .int .i64 f]
  x : Row W X 23 #[.int .i64 p, .int .i64 q]
  y : Row W Y 23 #[.int .i64 p', .int .i64 q']
  below : Below w.heap.size w W
theorem SuAt.mono {w W V : World} {X Y : Nat} {c e d f p q p' q' : Int} (h : SuAt w X Y c e d f p q p' q' W) (hb : Below W.heap.size W V) : SuAt w X Y c e d f p q p' q' V :=
  ⟨h.a.below hb h.a.lt, h.b.below hb h.b.lt, h.x.below hb h.x.lt, h.y.below hb h.y.lt, h.below.trans (hb.mono h.below.size)⟩
theorem SuAt.putX {w W : World} {X Y : Nat} {c e d f p q p' q' : Int} (h : SuAt w X Y c e d f p q p' q' W) (hX : w.heap.size + 1 < X) (hXY : X < Y) (r s : Int) : SuAt w X Y c e d f r s p' q' ((W.setCell ⟨X, 0, none⟩ (.int .i64 r)).setCell ⟨X, 1, none⟩ (.int .i64 s)) :=
  ⟨(h.a.off 0 _ (by omega)).off 1 _ (by omega), (h.b.off 0 _ (by omega)).off 1 _ (by omega), Row.set2 h.x _ _, (h.y.off 0 _ (by omega)).off 1 _ (by omega), below_set (below_set h.below 0 _ (by omega)) 1 _ (by omega)⟩
theorem SuAt.putY {w W : World} {X Y : Nat} {c e d f p q p' q' : Int} (h : SuAt w X Y c e d f p q p' q' W) (hX : w.heap.size + 1 < X) (hXY : X < Y) (r s : Int) : SuAt w X Y c e d f p q r s ((W.setCell ⟨Y, 0, none⟩ (.int .i64 r)).setCell ⟨Y, 1, none⟩ (.int .i64 s)) :=
  ⟨(h.a.off 0 _ (by omega)).off 1 _ (by omega), (h.b.off 0 _ (by omega)).off 1 _ (by omega), (h.x.off 0 _ (by omega)).off 1 _ (by omega), Row.set2 h.y _ _, below_set (below_set h.below 0 _ (by omega)) 1 _ (by omega)⟩
set_option maxRecDepth 100000 in
set_option maxHeartbeats 4000000 in
theorem sums_any (HTI : TimesC) (c e d f : Int) (hc : I64 c) (hd : I64 d) (w : World) : Calls Tryd.prog 3 #[.agg #[.int .i64 c, .int .i64 e], .agg #[.int .i64 d, .int .i64 f]] w fun r w' => r = .returned (.bool true) ∧ Below w.heap.size w w' := by
  have HP1 : ∀ W, Hid (Calls Tryd.prog 9 #[.agg #[.int .i64 c, .int .i64 e], .agg #[.int .i64 d, .int .i64 f]] W _) := fun W => padd_any c e d f hc hd W
  have HR1 : ∀ W, Hid (Calls Tryd.prog 10 #[.agg #[.int .i64 c, .int .i64 e], .agg #[.int .i64 d, .int .i64 f]] W _) := fun W => radd_any c e d f hc hd W
  obtain ⟨p1, q1, s1, h1⟩ := addD_form c e d f
  rw [h1] at HP1 HR1
  clear h1
  have HP2 : ∀ W, Hid (Calls Tryd.prog 11 #[.agg #[.int .i64 c, .int .i64 e], .agg #[.int .i64 d, .int .i64 f]] W _) := fun W => psub_any c e d f hc hd W
  have HR2 : ∀ W, Hid (Calls Tryd.prog 12 #[.agg #[.int .i64 c, .int .i64 e], .agg #[.int .i64 d, .int .i64 f]] W _) := fun W => rsub_any c e d f hc hd W
  obtain ⟨p2, q2, s2, h2⟩ := subD_form c e d f
  rw [h2] at HP2 HR2
  have HP3 : ∀ W, Hid (Calls Tryd.prog 13 #[.agg #[.int .i64 c, .int .i64 e]] W _) := fun W => pneg_any c e hc W
  have HR3 : ∀ W, Hid (Calls Tryd.prog 14 #[.agg #[.int .i64 c, .int .i64 e]] W _) := fun W => rneg_any c e hc W
  obtain ⟨p3, q3, s3, h3⟩ := subD_form 0 0 c e
  rw [h3] at HP3 HR3
  have HP4 : ∀ W, Hid (Calls Tryd.prog 15 #[.agg #[.int .i64 c, .int .i64 e], .agg #[.int .i64 d, .int .i64 f]] W _) := fun W => pmul_any c e d f hc hd W
  have HR4 : ∀ W, Hid (Calls Tryd.prog 16 #[.agg #[.int .i64 c, .int .i64 e], .agg #[.int .i64 d, .int .i64 f]] W _) := fun W => rmul_any HTI c e d f hc hd W
  obtain ⟨p4, q4, s4, h4⟩ := mulD_form c e d f
  rw [h4] at HP4 HR4
  clear h4
  have HAL : ∀ W, Hid (Calls Tryd.prog 17 #[] W _) := alive_any
  clear HTI
  go_enter Tryd.func3, Tryd.ntmps3
  go_wp2_with fail
  have ra := (Row.new w 23 #[.int .i64 c, .int .i64 e]).alloc (.cells #[.int .i64 d, .int .i64 f] 23)
  have rb := Row.new1 w (.cells #[.int .i64 c, .int .i64 e] 23) 23 #[.int .i64 d, .int .i64 f]
  have hB := ((Below.refl _ w).alloc (Nat.le_refl _) (.cells #[.int .i64 c, .int .i64 e] 23)).alloc (by simp) (.cells #[.int .i64 d, .int .i64 f] 23)
  have hWs : w.heap.size + 2 ≤ ((w.alloc (.cells #[.int .i64 c, .int .i64 e] 23)).alloc (.cells #[.int .i64 d, .int .i64 f] 23)).heap.size := by simp
  generalize (w.alloc (.cells #[.int .i64 c, .int .i64 e] 23)).alloc (.cells #[.int .i64 d, .int .i64 f] 23) = W at *
  refine Calls.mono (HP1 W).out ?_
  rintro _ w1 ⟨rfl, b1⟩
  have sa := (ra.below b1 ra.lt).alloc (.cells #[.int .i64 p1, .int .i64 q1] 23)
  have sb := (rb.below b1 rb.lt).alloc (.cells #[.int .i64 p1, .int .i64 q1] 23)
  have sx := Row.new w1 23 #[.int .i64 p1, .int .i64 q1]
  have b2 := b1.alloc b1.size (.cells #[.int .i64 p1, .int .i64 q1] 23)
  have hX := b1.size
  have hs1 : (w1.alloc (.cells #[.int .i64 p1, .int .i64 q1] 23)).heap.size = w1.heap.size + 1 := by simp
  obtain ⟨x0, x1⟩ := sa.duo
  obtain ⟨x2, x3⟩ := sb.duo
  clear HP1
  go_wp2_with fail
  clear x0 x1 x2 x3
  have hBW := hB.trans (b2.mono (by omega))
  generalize w1.alloc (.cells #[.int .i64 p1, .int .i64 q1] 23) = W2 at *
  generalize w1.heap.size = X at *
  clear ra rb hB b1 b2
  refine Calls.mono (HR1 W2).out ?_
  rintro _ w2 ⟨rfl, b3⟩
  have hT : SuAt w X w2.heap.size c e d f p1 q1 p1 q1 (w2.alloc (.cells #[.int .i64 p1, .int .i64 q1] 23)) := by
    have b4 := b3.alloc b3.size (.cells #[.int .i64 p1, .int .i64 q1] 23)
    exact ⟨sa.below b4 sa.lt, sb.below b4 sb.lt, sx.below b4 sx.lt, Row.new w2 23 _, hBW.trans (b4.mono (by have := hBW.size; omega))⟩
  have hX1 : w.heap.size + 1 < X := by omega
  have hXY : X < w2.heap.size := by have := b3.size; omega
  clear sa sb sx hBW b3 HR1 hWs hX hs1
  have y0 := hT.a.duo
  have y1 := hT.b.duo
  have y2 := hT.x.duo
  have y3 := hT.y.duo
  obtain ⟨a0, a1⟩ := y0
  obtain ⟨a2, a3⟩ := y1
  obtain ⟨a4, a5⟩ := y2
  obtain ⟨a6, a7⟩ := y3
  generalize hW5 : w2.alloc (.cells #[.int .i64 p1, .int .i64 q1] 23) = V1 at *
  generalize hYg : w2.heap.size = Y at *
  go_wp2_with fail
  clear hW5 hYg
  clear a0 a1 a2 a3 a4 a5 a6 a7
  refine Calls.mono (HP2 _).out ?_
  rintro _ u2 ⟨rfl, b⟩
  have hT1 := hT.mono b
  clear hT b HP2
  have hT2 := hT1.putX hX1 hXY p2 q2
  obtain ⟨a0, a1⟩ := hT1.x.duo
  have zf := hT1.x.frozen
  obtain ⟨a2, a3⟩ := hT2.a.duo
  obtain ⟨a4, a5⟩ := hT2.b.duo
  go_wp2_with fail
  clear a0 a1 zf a2 a3 a4 a5 hT1
  refine Calls.mono (HR2 _).out ?_
  rintro _ v2 ⟨rfl, b⟩
  have hT3 := hT2.mono b
  clear hT2 b HR2
  have hT := hT3.putY hX1 hXY p2 q2
  obtain ⟨z0, z1⟩ := hT3.y.duo
  have zf := hT3.y.frozen
  obtain ⟨a0, a1⟩ := hT.a.duo
  obtain ⟨a2, a3⟩ := hT.b.duo
  obtain ⟨a4, a5⟩ := hT.x.duo
  obtain ⟨a6, a7⟩ := hT.y.duo
  go_wp2_with fail
  clear z0 z1 zf hT3
  clear a0 a1 a2 a3 a4 a5 a6 a7
  refine Calls.mono (HP3 _).out ?_
  rintro _ u3 ⟨rfl, b⟩
  have hT1 := hT.mono b
  clear hT b HP3
  have hT2 := hT1.putX hX1 hXY p3 q3
  obtain ⟨a0, a1⟩ := hT1.x.duo
  have zf := hT1.x.frozen
  obtain ⟨a2, a3⟩ := hT2.a.duo
  obtain ⟨a4, a5⟩ := hT2.b.duo
  go_wp2_with fail
  clear a0 a1 zf a2 a3 a4 a5 hT1
  refine Calls.mono (HR3 _).out ?_
  rintro _ v3 ⟨rfl, b⟩
  have hT3 := hT2.mono b
  clear hT2 b HR3
  have hT := hT3.putY hX1 hXY p3 q3
  obtain ⟨z0, z1⟩ := hT3.y.duo
  have zf := hT3.y.frozen
  obtain ⟨a0, a1⟩ := hT.a.duo
  obtain ⟨a2, a3⟩ := hT.b.duo
  obtain ⟨a4, a5⟩ := hT.x.duo
  obtain ⟨a6, a7⟩ := hT.y.duo
  go_wp2_with fail
  clear z0 z1 zf hT3
  clear a0 a1 a2 a3 a4 a5 a6 a7
  refine Calls.mono (HP4 _).out ?_
  rintro _ u4 ⟨rfl, b⟩
  have hT1 := hT.mono b
  clear hT b HP4
  have hT2 := hT1.putX hX1 hXY p4 q4
  obtain ⟨a0, a1⟩ := hT1.x.duo
  have zf := hT1.x.frozen
  obtain ⟨a2, a3⟩ := hT2.a.duo
  obtain ⟨a4, a5⟩ := hT2.b.duo
  go_wp2_with fail
  clear a0 a1 zf a2 a3 a4 a5 hT1
  refine Calls.mono (HR4 _).out ?_
  rintro _ v4 ⟨rfl, b⟩
  have hT3 := hT2.mono b
  clear hT2 b HR4
  have hT := hT3.putY hX1 hXY p4 q4
  obtain ⟨z0, z1⟩ := hT3.y.duo
  have zf := hT3.y.frozen
  obtain ⟨a0, a1⟩ := hT.a.duo
  obtain ⟨a2, a3⟩ := hT.b.duo
  obtain ⟨a4, a5⟩ := hT.x.duo
  obtain ⟨a6, a7⟩ := hT.y.duo
  go_wp2_with fail
  clear z0 z1 zf hT3
  refine Calls.mono (HAL _).out ?_
  rintro _ wz ⟨rfl, b⟩
  have hZ := hT.below.trans (b.mono hT.below.size)
  go_wp2
  go_ret
  exact ⟨rfl, hZ⟩
end Go.Proofs.YtfbhonjndepjbaaDoor
