import Derived.Test.YtfbhonjndepjbaaDoorRqu
import Derived.Test.YtfbhonjndepjbaaDoorRpl
import Derived.Test.YtfbhonjndepjbaaDoorRtxM
import Derived.Test.YtfbhonjndepjbaaDoorPdvM
import Derived.Test.YtfbhonjndepjbaaDoorWddM
import Derived.Test.YtfbhonjndepjbaaDoorWry
/- The document's Mod. -/
namespace Go.Proofs.YtfbhonjndepjbaaDoor
open Go.RowKit

theorem DgAt.setc {W : World} {sv : Value} {ds : List Int} (h : DgAt W sv ds) {B : Nat} {p : Bool} {x : Option Addr} {y z : Nat} (hR : Row W B 45 #[.bool p, .slice x y z]) (u : Value) : DgAt (W.setCell ⟨B, 0, none⟩ u) sv ds := by
  refine ⟨?_, h.2⟩
  have hk := (Kept.refl (fun k => k ≠ B) W).setCell (p := ⟨B, 0, none⟩) (by simp) u
  rcases h.1 with h0 | ⟨b, off, c, e, hb, hc⟩
  · exact .inl h0
  · by_cases h0 : ds = []
    · subst h0; exact .inl ⟨rfl, _, _, e⟩
    · have hl : 0 < ds.length := List.length_pos_iff.2 h0
      have hne : b ≠ B := by
        rintro rfl
        have h1 := hc 0 hl
        rw [row_cell hR] at h1
        match off, h1 with
        | 0, h1 => simp at h1
        | 1, h1 => simp at h1
        | o + 2, h1 => simp at h1
      exact .inr ⟨b, off, c, e, Nat.lt_of_lt_of_le hb hk.size, fun j hj => (hk.cell (p := ⟨b, off + j, none⟩) hne).trans (hc j hj)⟩
theorem mod_scale (x y : Int) (t : Nat) (ht : 0 < t) : modI (x * (t : Int)) (y * (t : Int)) = modI x y * (t : Int) := by
  have hlt : ∀ z : Int, decide (z * (t : Int) < 0) = decide (z < 0) := fun z => by
    rw [decide_eq_decide]
    constructor
    · intro h
      by_cases h2 : z < 0
      · exact h2
      · exact absurd h (Int.not_lt.2 (Int.mul_nonneg (Int.not_lt.1 h2) (Int.natCast_nonneg t)))
    · intro h
      exact Int.mul_neg_of_neg_of_pos h (by omega)
  have hr : rI (x * (t : Int)) (y * (t : Int)) = rI x y * (t : Int) := by
    unfold rI
    rw [Int.natAbs_mul, Int.natAbs_mul, Int.natAbs_natCast, Nat.mul_mod_mul_right]
    have h := hlt x
    rw [decide_eq_decide] at h
    by_cases h0 : x < 0
    · rw [if_pos h0, if_pos (h.2 h0), Int.natCast_mul, Int.neg_mul]
    · rw [if_neg h0, if_neg (fun h2 => h0 (h.1 h2)), Int.natCast_mul]
  unfold modI
  rw [hlt, hlt, hr, Int.natAbs_mul, Int.natAbs_mul, Int.natAbs_natCast, Nat.mul_mod_mul_right]
  have hz : (x.natAbs % y.natAbs * t ≠ 0) ↔ (x.natAbs % y.natAbs ≠ 0) := by
    constructor
    · intro h h2
      exact h (by rw [h2, Nat.zero_mul])
    · intro h
      exact Nat.mul_ne_zero h (by omega)
  by_cases hc : x.natAbs % y.natAbs ≠ 0 ∧ decide (x < 0) ≠ decide (y < 0)
  · rw [if_pos hc, if_pos ⟨hz.2 hc.1, hc.2⟩, Int.add_mul]
  · rw [if_neg hc, if_neg (fun h => hc ⟨hz.1 h.1, h.2⟩)]
theorem tell_mod (c e d f : Int) (i j : Nat) (hm : -18 ≤ e - (i : Int)) (hij : e - (i : Int) = f - (j : Int)) : tell (modI (c * 10 ^ i) (d * 10 ^ j)) (e - (i : Int)) = tell (modI (V (-18) c e) (V (-18) d f)) (-18) := by
  obtain ⟨k, hk⟩ : ∃ k : Nat, e - (i : Int) = -18 + (k : Int) := ⟨(e - (i : Int) + 18).toNat, by omega⟩
  have hV : ∀ (c e : Int) (i : Nat), e - (i : Int) = -18 + (k : Int) → V (-18) c e = c * 10 ^ i * ((10 ^ k : Nat) : Int) := fun c e i h => by
    unfold V
    rw [Int.natCast_pow, Int.mul_assoc]
    congr 1
    show (10 : Int) ^ _ = 10 ^ i * 10 ^ k
    rw [← Int.pow_add]
    congr 1
    omega
  rw [hV c e i hk, hV d f j (by omega), mod_scale _ _ _ (Nat.pow_pos (by decide)), hk]
  have h := tell_pow (modI (c * 10 ^ i) (d * 10 ^ j)) (-18 + (k : Int)) k
  rw [show -18 + (k : Int) - (k : Int) = -18 by omega] at h
  rw [← h, Int.natCast_pow]
  rfl
theorem bval_rI (x y : Int) : bval (decide (x < 0)) (digs (x.natAbs % y.natAbs)) = rI x y := by
  unfold bval rI
  rw [dval_digs]
  by_cases h : x < 0
  · rw [decide_eq_true h, if_pos h]
    rfl
  · rw [decide_eq_false h, if_neg h]
    rfl
theorem rI_zero (x y : Int) : rI x y = 0 ↔ x.natAbs % y.natAbs = 0 := by
  unfold rI
  split <;> omega
theorem rI_sgn (x y : Int) (h : rI x y ≠ 0) : decide (rI x y < 0) = decide (x < 0) := by
  rw [decide_eq_decide]
  unfold rI at *
  split at h <;> rename_i hx
  · rw [if_pos hx]
    omega
  · rw [if_neg hx]
    omega
set_option maxRecDepth 100000 in
set_option maxHeartbeats 16000000 in
theorem rmod_ok (c e d f : Int) (hc : I64 c) (hd : I64 d) (w : World) (he1 : -18 ≤ e) (he2 : e ≤ 18) (hf1 : -18 ≤ f) (hf2 : f ≤ 18) (h0 : d ≠ 0) : Calls Tryd.prog 21 #[.agg #[.int .i64 c, .int .i64 e], .agg #[.int .i64 d, .int .i64 f]] w fun r w' => r = .returned (decV (tell (modI (V (-18) c e) (V (-18) d f)) (-18))) ∧ Below w.heap.size w w' := by
  have HNZ0 : Hid (d ≠ 0) := h0
  clear h0
  have HC : ∀ W, Hid (Calls Tryd.prog 44 #[.agg #[.int .i64 c, .int .i64 e], .agg #[.int .i64 d, .int .i64 f]] W _) := fun W => two_any c e d f hc hd W he1 he2 hf1 hf2
  obtain ⟨res, HRES⟩ : ∃ res, Hid (decV (tell (modI (V (-18) c e) (V (-18) d f)) (-18)) = res) := ⟨_, rfl⟩
  rw [HRES.out]
  go_enter Tryd.func21, Tryd.ntmps21
  go_wp2_with fail
  have r2 := Row.new ((w.alloc (.cells #[.int .i64 c, .int .i64 e] 23)).alloc (.cells #[.int .i64 d, .int .i64 f] 23)) 23 #[.int .i64 0, .int .i64 0]
  have hB := (((Below.refl _ w).alloc (Nat.le_refl _) (.cells #[.int .i64 c, .int .i64 e] 23)).alloc (by simp) (.cells #[.int .i64 d, .int .i64 f] 23)).alloc (by simp; omega) (.cells #[.int .i64 0, .int .i64 0] 23)
  have hWs : w.heap.size + 3 ≤ (((((w.alloc (.cells #[.int .i64 c, .int .i64 e] 23)).alloc (.cells #[.int .i64 d, .int .i64 f] 23)).alloc (.cells #[.int .i64 0, .int .i64 0] 23)))).heap.size := by simp
  simp only [World.size_alloc] at r2
  generalize ((((w.alloc (.cells #[.int .i64 c, .int .i64 e] 23)).alloc (.cells #[.int .i64 d, .int .i64 f] 23)).alloc (.cells #[.int .i64 0, .int .i64 0] 23))) = W at *
  refine Calls.mono (HC W).out ?_
  rintro _ w1 ⟨i, j, sx, sy, rfl, hij, hlo, hi, hj, hDx, hDy, b1⟩
  clear HC
  obtain ⟨_, a1, c1, rfl, _, _⟩ := id hDx
  obtain ⟨_, a2, c2, rfl, _, _⟩ := id hDy
  unfold numC
  obtain ⟨nx, HNX⟩ : ∃ nx, Hid (decide (c * 10 ^ i < 0) = nx) := ⟨_, rfl⟩
  obtain ⟨ny, HNY⟩ : ∃ ny, Hid (decide (d * 10 ^ j < 0) = ny) := ⟨_, rfl⟩
  rw [HNX.out, HNY.out]
  have lx := shifted_len c hc i
  have ly := shifted_len d hd j
  obtain ⟨n1, HN1⟩ : ∃ n1 : Nat, Hid ((digs (c * 10 ^ i).natAbs).length = n1) := ⟨_, rfl⟩
  obtain ⟨n2, HN2⟩ : ∃ n2 : Nat, Hid ((digs (d * 10 ^ j).natAbs).length = n2) := ⟨_, rfl⟩
  rw [HN1.out] at hDx lx
  rw [HN2.out] at hDy ly
  rw [HN1.out, HN2.out]
  obtain ⟨m, HM⟩ : ∃ m, Hid (e - (i : Int) = m) := ⟨_, rfl⟩
  rw [HM.out]
  go_upto_region 2 with fail
  have hmr : -18 ≤ m ∧ m ≤ 18 := by have := HM.out; omega
  have px := (Row.new w1 47 #[.bool nx, .slice a1 n1 c1, .int .i64 m]).alloc (.cells #[.bool ny, .slice a2 n2 c2, .int .i64 m] 47)
  have py := Row.new1 w1 (.cells #[.bool nx, .slice a1 n1 c1, .int .i64 m] 47) 47 #[.bool ny, .slice a2 n2 c2, .int .i64 m]
  have b2 : Below w1.heap.size w1 ((w1.alloc (.cells #[.bool nx, .slice a1 n1 c1, .int .i64 m] 47)).alloc (.cells #[.bool ny, .slice a2 n2 c2, .int .i64 m] 47)) := ((Below.refl _ w1).alloc (Nat.le_refl _) _).alloc (by simp) _
  have hrx := (r2.below b1 r2.lt).below b2 (r2.below b1 r2.lt).lt
  have hBe := (hB.trans (b1.mono (by omega))).trans (b2.mono (Nat.le_trans (by omega) b1.size))
  have eX := hDx.below b2
  have eY := hDy.below b2
  have hr1 : w.heap.size + 2 < w1.heap.size := by have := b1.size; omega
  clear r2 b1 b2 hDx hDy hB hWs
  generalize (w1.alloc (.cells #[.bool nx, .slice a1 n1 c1, .int .i64 m] 47)).alloc (.cells #[.bool ny, .slice a2 n2 c2, .int .i64 m] 47) = wr at *
  generalize w1.heap.size = X at *
  have HEQ : Hid (tell (modI (c * 10 ^ i) (d * 10 ^ j)) m = tell (modI (V (-18) c e) (V (-18) d f)) (-18)) := by
    show _ = _
    rw [← HM.out]
    exact tell_mod c e d f i j (by have := HM.out; omega) hij
  have HYP : Hid (0 < (d * 10 ^ j).natAbs) := by
    have h1 : d * 10 ^ j ≠ 0 := Int.mul_ne_zero HNZ0.out (by have : (0 : Int) < 10 ^ j := Int.pow_pos (by decide); omega)
    show _ < _
    omega
  have HYL : Hid ((d * 10 ^ j).natAbs < 10 ^ 60) := by
    show _ < _
    rw [Int.natAbs_mul, Int.natAbs_pow]
    show d.natAbs * 10 ^ j < 10 ^ 60
    have c20 : (10 : Nat) ^ 20 = 100000000000000000000 := by decide
    have h1 : d.natAbs < 10 ^ 20 := by unfold I64 at hd; omega
    have h2 : (10 : Nat) ^ j ≤ 10 ^ 40 := Nat.pow_le_pow_right (by decide) (by omega)
    have h3 : (10 : Nat) ^ 60 = 10 ^ 20 * 10 ^ 40 := by rw [← Nat.pow_add]
    rw [h3]
    exact Nat.lt_of_lt_of_le (Nat.mul_lt_mul_of_pos_right h1 (Nat.pow_pos (by decide))) (Nat.mul_le_mul_left _ h2)
  obtain ⟨x, HX⟩ : ∃ x, Hid (c * 10 ^ i = x) := ⟨_, rfl⟩
  obtain ⟨y, HY⟩ : ∃ y, Hid (d * 10 ^ j = y) := ⟨_, rfl⟩
  rw [HX.out] at eX HNX HN1 HEQ
  rw [HY.out] at eY HNY HN2 HEQ HYP HYL
  obtain ⟨p, q, st, hres⟩ := dec_form' (tell (modI (V (-18) c e) (V (-18) d f)) (-18))
  rw [HRES.out] at hres
  subst hres
  have hn2 : 0 < n2 := by
    rw [← HN2.out]
    apply Nat.pos_of_ne_zero
    intro h
    have h2 := dval_digs y.natAbs
    rw [List.length_eq_zero_iff.1 h] at h2
    simp [dval] at h2
    have := HYP.out
    omega
  obtain ⟨y0, y1, y2⟩ := py.tri
  obtain ⟨x0, x1, x2⟩ := px.tri
  have hl0 : ((n2 : Int) == 0) = false := beq_eq_false_iff_ne.2 (by omega)
  have HQ : ∀ V, Below wr.heap.size wr V → Hid (Calls Tryd.prog 57 #[.agg #[.bool nx, .slice a1 n1 c1], .agg #[.bool ny, .slice a2 n2 c2]] V fun r w' => ∃ aq nq cq ar nr cr, r = .returned (.tuple #[.agg #[.bool false, .slice aq nq cq], .agg #[.bool false, .slice ar nr cr]]) ∧ DgAt w' (.slice ar nr cr) (digs (x.natAbs % y.natAbs)) ∧ Below V.heap.size V w') := fun V hV => by
    refine (quo_digs nx ny _ _ _ _ V (eX.below hV) (eY.below hV) (digs_dg _) (digs_dg _) (by rw [HN1.out]; omega) (by rw [HN2.out]; omega) (by rw [dval_digs]; have := HYP.out; omega)).mono ?_
    rintro r w' ⟨v1, v2, rfl, ⟨s1, rfl, h1⟩, ⟨s2, rfl, h2⟩, hb⟩
    rw [dval_digs, dval_digs] at h1 h2 ⊢
    have e1 : (((x.natAbs : Nat) : Int) / ((y.natAbs : Nat) : Int)) = ((x.natAbs / y.natAbs : Nat) : Int) := (Int.natCast_ediv _ _).symm
    have e2 : (((x.natAbs : Nat) : Int) % ((y.natAbs : Nat) : Int)) = ((x.natAbs % y.natAbs : Nat) : Int) := (Int.natCast_emod _ _).symm
    rw [e1, Int.natAbs_natCast] at h1
    rw [e2, Int.natAbs_natCast] at h2
    rw [e1, e2, decide_eq_false (Int.not_lt.2 (Int.natCast_nonneg _)), decide_eq_false (Int.not_lt.2 (Int.natCast_nonneg _))]
    obtain ⟨_, a1, c1, rfl, _, _⟩ := id h1
    obtain ⟨_, a2, c2, rfl, _, _⟩ := id h2
    exact ⟨a1, _, c1, a2, _, c2, rfl, h2, hb⟩
  go_wp2_with fail
  refine Calls.mono (HQ _ (Below.refl _ _)).out ?_
  rintro _ w3 ⟨aq, nq, cq, ar, nr, cr, rfl, hDr, b3⟩
  have px3 := px.below b3 px.lt
  have py3 := py.below b3 py.lt
  have rx3 := hrx.below b3 hrx.lt
  have hB3 := hBe.trans (b3.mono hBe.size)
  have eY3 := eY.below b3
  clear HQ y0 y1 y2 x0 x1 x2 px py hrx hBe eX eY hl0 b3
  go_upto_region 7 with fail
  have RR := Row.new1 w3 (.cells #[.bool false, .slice aq nq cq] 45) 45 #[.bool false, .slice ar nr cr]
  have bb : Below w3.heap.size w3 ((w3.alloc (.cells #[.bool false, .slice aq nq cq] 45)).alloc (.cells #[.bool false, .slice ar nr cr] 45)) := ((Below.refl _ w3).alloc (Nat.le_refl _) _).alloc (by simp) _
  have px4 := px3.below bb px3.lt
  have py4 := py3.below bb py3.lt
  have rx4 := rx3.below bb rx3.lt
  have eY4 := eY3.below bb
  have D4 := hDr.below bb
  have hB4 := hB3.trans (bb.mono hB3.size)
  have gX : X < w3.heap.size := px3.lt
  have gY : X + 1 < w3.heap.size := py3.lt
  have gZ : w.heap.size + 1 + 1 < w3.heap.size := rx3.lt
  have gW : w.heap.size ≤ w3.heap.size := by omega
  clear px3 py3 rx3 eY3 hDr hB3 bb
  generalize (w3.alloc (.cells #[.bool false, .slice aq nq cq] 45)).alloc (.cells #[.bool false, .slice ar nr cr] 45) = w4 at *
  generalize w3.heap.size = G at *
  obtain ⟨x0, x1, x2⟩ := px4.tri
  obtain ⟨r0, r1⟩ := RR.duo
  have zf := RR.frozen
  have zl := RR.lt
  go_upto_region 8 with fail
  have R5 : Row (w4.setCell ⟨G + 1, 0, none⟩ (.bool nx)) (G + 1) 45 #[.bool nx, .slice ar nr cr] := RR.set 0 _
  have px5 := px4.other (K := G + 1) (by omega) 0 (.bool nx)
  have py5 := py4.other (K := G + 1) (by omega) 0 (.bool nx)
  have rx5 := rx4.other (K := G + 1) (by omega) 0 (.bool nx)
  have hB5 := below_set hB4 (B := G + 1) 0 (.bool nx) (by omega)
  have D5 : DgAt (w4.setCell ⟨G + 1, 0, none⟩ (.bool nx)) (.slice ar nr cr) (digs (x.natAbs % y.natAbs)) := DgAt.setc D4 RR _
  have eY5 := DgAt.setc eY4 RR (.bool nx)
  clear x0 x1 x2 r0 r1 zf zl px4 py4 rx4 hB4 D4 eY4 RR
  generalize w4.setCell ⟨G + 1, 0, none⟩ (.bool nx) = w5 at *
  have lR : (digs (x.natAbs % y.natAbs)).length ≤ 500 := by
    refine Nat.le_trans (digs_len _ 60 ?_) (by decide)
    exact Nat.lt_trans (Nat.mod_lt _ HYP.out) HYL.out
  have hbv : bval nx (digs (x.natAbs % y.natAbs)) = rI x y := by rw [← HNX.out]; exact bval_rI x y
  have HTR : ∀ V, Below w5.heap.size w5 V → Hid (Calls Tryd.prog 59 #[.agg #[.bool nx, .slice ar nr cr]] V fun r w' => ∃ a n c, r = .returned (.agg #[.bool (decide (rI x y < 0)), .slice a n c]) ∧ DgAt w' (.slice a n c) (digs (rI x y).natAbs) ∧ Hid (n = (digs (rI x y).natAbs).length) ∧ Below V.heap.size V w') := fun V hV => by
    refine (trim_any nx _ (digs (x.natAbs % y.natAbs)) V (D5.below hV) (digs_dg _) (by omega)).mono ?_
    rintro r w' ⟨v, rfl, ⟨s, rfl, hs⟩, hb⟩
    rw [hbv] at hs ⊢
    obtain ⟨_, a, c, rfl, _, _⟩ := id hs
    exact ⟨a, _, c, rfl, hs, rfl, hb⟩
  have HMO : Hid (modI x y = if x.natAbs % y.natAbs ≠ 0 ∧ nx ≠ ny then rI x y + y else rI x y) := by
    show modI x y = _
    unfold modI
    rw [HNX.out, HNY.out]
  have HZ0 : Hid (rI x y = 0 ↔ x.natAbs % y.natAbs = 0) := rI_zero x y
  have HZS : Hid (rI x y ≠ 0 → decide (rI x y < 0) = nx) := fun h => by rw [rI_sgn x y h, HNX.out]
  have HZL : Hid ((digs (rI x y).natAbs).length ≤ 500) := by
    have e1 : (rI x y).natAbs = x.natAbs % y.natAbs := by
      unfold rI
      split <;> omega
    show _ ≤ _
    rw [e1]
    exact lR
  obtain ⟨z, HZE⟩ : ∃ z, Hid (rI x y = z) := ⟨_, rfl⟩
  rw [HZE.out] at HTR HMO HZ0 HZS HZL
  rw [HMO.out] at HEQ
  obtain ⟨N0, HN0⟩ : ∃ N0, Hid (decide (z < 0) = N0) := ⟨_, rfl⟩
  have HT : ∀ u, Hid (tell u m = tell (modI (V (-18) c e) (V (-18) d f)) (-18)) → (digs u.natAbs).length ≤ 500 → ∀ V s, DgAt V s (digs u.natAbs) → Hid (Calls Tryd.prog 45 #[.agg #[.bool (decide (u < 0)), s, .int .i64 m]] V fun r w' => r = .returned (.tuple #[.agg #[.int .i64 p, .int .i64 q], .int .i64 st]) ∧ Below V.heap.size V w') := fun u hu hl V s h => by
    have := told_any' u m _ V ⟨s, rfl, h⟩ (by omega) (by omega) hl
    rw [hu.out, HRES.out] at this
    exact this
  rw [HN0.out] at HTR
  clear lR hbv D5
  obtain ⟨r0, r1⟩ := R5.duo
  go_wp2_with fail
  refine Calls.mono (HTR _ (Below.refl _ _)).out ?_
  rintro _ w6 ⟨a6, n6, c6, rfl, D6, HN6, b6⟩
  have R6 := R5.below b6 R5.lt
  have px6 := px5.below b6 px5.lt
  have py6 := py5.below b6 py5.lt
  have rx6 := rx5.below b6 rx5.lt
  have hB6 := hB5.trans (b6.mono hB5.size)
  have eY6 := eY5.below b6
  clear r0 r1 HTR R5 px5 py5 rx5 hB5 eY5 b6
  obtain ⟨r0, r1⟩ := R6.duo
  have zf := R6.frozen
  have zl := R6.lt
  go_upto_region 9 with fail
  have R7 := Row.set2 R6 (.bool N0) (.slice a6 n6 c6)
  have px := (px6.other (K := G + 1) (by omega) 0 (.bool N0)).other (K := G + 1) (by omega) 1 (.slice a6 n6 c6)
  have py := (py6.other (K := G + 1) (by omega) 0 (.bool N0)).other (K := G + 1) (by omega) 1 (.slice a6 n6 c6)
  have rx := (rx6.other (K := G + 1) (by omega) 0 (.bool N0)).other (K := G + 1) (by omega) 1 (.slice a6 n6 c6)
  have hBx := below_set (below_set hB6 (B := G + 1) 0 (.bool N0) (by omega)) (B := G + 1) 1 (.slice a6 n6 c6) (by omega)
  have D7 := D6.store R6 (.bool N0) (.slice a6 n6 c6)
  have eY7 := eY6.store R6 (.bool N0) (.slice a6 n6 c6)
  clear r0 r1 zf zl R6 px6 py6 rx6 hB6 D6 eY6
  generalize (w6.setCell ⟨G + 1, 0, none⟩ (.bool N0)).setCell ⟨G + 1, 1, none⟩ (.slice a6 n6 c6) = w7 at *
  obtain ⟨y0, y1, y2⟩ := py.tri
  obtain ⟨r0, r1⟩ := R7.duo
  by_cases hz : z = 0
  · have h6 : n6 = 0 := by rw [HN6.out, hz, Int.natAbs_zero, digs_zero]; rfl
    have HT0 := HT z (by
      have := HEQ
      rw [if_neg (fun h => h.1 (HZ0.out.1 hz))] at this
      exact this) HZL.out w7 _ D7
    rw [HN0.out] at HT0
    subst h6
    clear HT HEQ HZ0 HZS HZL HMO D7 eY7 hz
    go_upto_region 11 with fail
    clear y0 y1 y2 r0 r1
    obtain ⟨x0, x1, x2⟩ := px.tri
    obtain ⟨r0, r1⟩ := R7.duo
    go_wp2_with fail
    refine Calls.mono (HT0).out ?_
    rintro _ w9 ⟨rfl, b9⟩
    have pr := rx.below b9 rx.lt
    have hBf := hBx.trans (b9.mono hBx.size)
    obtain ⟨y0, y1⟩ := pr.duo
    have zf := pr.frozen
    have hZe := Row.set2 pr (.int .i64 p) (.int .i64 q)
    have hBg := below_set (below_set hBf (B := w.heap.size + 1 + 1) 0 (.int .i64 p) (by omega)) (B := w.heap.size + 1 + 1) 1 (.int .i64 q) (by omega)
    clear x0 x1 x2 r0 r1
    go_wp2
    exact bodyPost_ret (ret_two rfl (g := w.heap.size + 1 + 1) rfl rfl (load23 hZe rfl)) rfl ⟨rfl, hBg⟩
  · have h6 : (0 : Int) < (n6 : Int) := by
      have : 0 < n6 := by
        rw [HN6.out]
        apply Nat.pos_of_ne_zero
        intro h
        have h2 := dval_digs z.natAbs
        rw [List.length_eq_zero_iff.1 h] at h2
        simp [dval] at h2
        omega
      omega
    have hN := HZS.out hz
    rw [HN0.out] at hN
    have hR0 : x.natAbs % y.natAbs ≠ 0 := fun h => hz (HZ0.out.2 h)
    have h6d : decide ((0 : Int) < (n6 : Int)) = true := decide_eq_true h6
    cases hs : (N0 != ny)
    · have hse : N0 = ny := by simpa using hs
      have HT0 := HT z (by
        have := HEQ
        rw [if_neg (fun h => h.2 (hN.symm.trans hse))] at this
        exact this) HZL.out w7 _ D7
      rw [HN0.out] at HT0
      clear hs
      obtain rfl : N0 = ny := hse
      clear HT HEQ HZ0 HZS HZL HMO D7 eY7 hz hN hR0 h6d HN0 HNY
      cases N0
      all_goals
        go_upto_region 11 with fail
        clear y0 y1 y2 r0 r1 h6
        obtain ⟨x0, x1, x2⟩ := px.tri
        obtain ⟨r0, r1⟩ := R7.duo
        go_wp2_with fail
        refine Calls.mono (HT0).out ?_
        rintro _ w9 ⟨rfl, b9⟩
        have pr := rx.below b9 rx.lt
        have hBf := hBx.trans (b9.mono hBx.size)
        obtain ⟨y0, y1⟩ := pr.duo
        have zf := pr.frozen
        have hZe := Row.set2 pr (.int .i64 p) (.int .i64 q)
        have hBg := below_set (below_set hBf (B := w.heap.size + 1 + 1) 0 (.int .i64 p) (by omega)) (B := w.heap.size + 1 + 1) 1 (.int .i64 q) (by omega)
        clear x0 x1 x2 r0 r1
        go_wp2
        exact bodyPost_ret (ret_two rfl (g := w.heap.size + 1 + 1) rfl rfl (load23 hZe rfl)) rfl ⟨rfl, hBg⟩
    · have hse : nx ≠ ny := fun h => by rw [hN, h] at hs; simp at hs
      have hyl : (digs y.natAbs).length ≤ 400 := by rw [HN2.out]; omega
      have hul : (digs (z + y).natAbs).length ≤ 500 := by
        have l1 := HZL.out
        refine Nat.le_trans (digs_len _ 90 ?_) (by decide)
        have e1 : z.natAbs = x.natAbs % y.natAbs := by
          rw [← HZE.out]
          unfold rI
          split <;> omega
        have h0 : z.natAbs < y.natAbs := by rw [e1]; exact Nat.mod_lt _ HYP.out
        have hyl2 := HYL.out
        have h5 : (10 : Nat) ^ 90 = 10 ^ 60 * 10 ^ 30 := by rw [← Nat.pow_add]
        have h6' : (2 : Nat) ≤ 10 ^ 30 := by decide
        have h7 : 10 ^ 60 * 2 ≤ 10 ^ 60 * 10 ^ 30 := Nat.mul_le_mul_left _ h6'
        omega
      have HT0 := HT (z + y) (by
        have := HEQ
        rw [if_pos ⟨hR0, hse⟩] at this
        exact this) hul
      have HPL : ∀ V, Below w7.heap.size w7 V → Hid (Calls Tryd.prog 46 #[.agg #[.bool N0, .slice a6 n6 c6], .agg #[.bool ny, .slice a2 n2 c2]] V fun r w' => ∃ v', r = .returned v' ∧ BigV w' (z + y) v' ∧ Below V.heap.size V w') := fun V h =>
        plus_any z y _ _ V ⟨.slice a6 n6 c6, by rw [← HN0.out]; rfl, D7.below h⟩ ⟨.slice a2 n2 c2, by rw [← HNY.out]; rfl, eY7.below h⟩ (Nat.le_trans HZL.out (by decide)) (Nat.le_trans hyl (by decide))
      clear HT HEQ HZ0 HZS HZL HMO hz hN hR0 hse h6d hyl hul HN0 HNY
      cases N0 <;> cases ny
      all_goals try (exact absurd hs (by decide))
      all_goals
        go_wp2_with fail
        refine Calls.mono (HPL _ (Below.refl _ _)).out ?_
        rintro _ w8 ⟨v8, rfl, ⟨s8, rfl, D8⟩, b8⟩
        have R8 := R7.below b8 R7.lt
        have px8 := px.below b8 px.lt
        have rx8 := rx.below b8 rx.lt
        have hB8 := hBx.trans (b8.mono hBx.size)
        clear HPL D7 eY7 b8 y0 y1 y2 r0 r1 h6 hs R7 px py rx hBx
        obtain ⟨_, a8, c8, rfl, _, _⟩ := id D8
        unfold bv
        obtain ⟨n8, HN8⟩ : ∃ n8 : Nat, Hid ((digs (z + y).natAbs).length = n8) := ⟨_, rfl⟩
        obtain ⟨u, HU⟩ : ∃ u, Hid (z + y = u) := ⟨_, rfl⟩
        rw [HU.out] at HT0 D8 HN8
        rw [HU.out]
        obtain ⟨N8, HNB⟩ : ∃ N8, Hid (decide (u < 0) = N8) := ⟨_, rfl⟩
        rw [HNB.out] at HT0
        rw [HNB.out]
        rw [HN8.out] at D8
        rw [HN8.out]
        obtain ⟨r0, r1⟩ := R8.duo
        have zf := R8.frozen
        have zl := R8.lt
        go_upto_region 11 with fail
        have R9 := Row.set2 R8 (.bool N8) (.slice a8 n8 c8)
        have px := (px8.other (K := G + 1) (by omega) 0 (.bool N8)).other (K := G + 1) (by omega) 1 (.slice a8 n8 c8)
        have rx := (rx8.other (K := G + 1) (by omega) 0 (.bool N8)).other (K := G + 1) (by omega) 1 (.slice a8 n8 c8)
        have hBx := below_set (below_set hB8 (B := G + 1) 0 (.bool N8) (by omega)) (B := G + 1) 1 (.slice a8 n8 c8) (by omega)
        have D9 := D8.store R8 (.bool N8) (.slice a8 n8 c8)
        have HT1 := HT0 _ _ D9
        clear HT0 r0 r1 zf zl R8 px8 rx8 hB8 D8 D9
        generalize (w8.setCell ⟨G + 1, 0, none⟩ (.bool N8)).setCell ⟨G + 1, 1, none⟩ (.slice a8 n8 c8) = w8b at *
        obtain ⟨x0, x1, x2⟩ := px.tri
        obtain ⟨r0, r1⟩ := R9.duo
        go_wp2_with fail
        refine Calls.mono (HT1).out ?_
        rintro _ w9 ⟨rfl, b9⟩
        have pr := rx.below b9 rx.lt
        have hBf := hBx.trans (b9.mono hBx.size)
        obtain ⟨y0, y1⟩ := pr.duo
        have zf := pr.frozen
        have hZe := Row.set2 pr (.int .i64 p) (.int .i64 q)
        have hBg := below_set (below_set hBf (B := w.heap.size + 1 + 1) 0 (.int .i64 p) (by omega)) (B := w.heap.size + 1 + 1) 1 (.int .i64 q) (by omega)
        clear x0 x1 x2 r0 r1
        go_wp2
        exact bodyPost_ret (ret_two rfl (g := w.heap.size + 1 + 1) rfl rfl (load23 hZe rfl)) rfl ⟨rfl, hBg⟩
end Go.Proofs.YtfbhonjndepjbaaDoor
/- The document's Mod: whole. -/
namespace Go.Proofs.YtfbhonjndepjbaaDoor
open Go.RowKit

set_option maxRecDepth 100000 in
set_option maxHeartbeats 4000000 in
theorem rmod_bad (c e d f : Int) (hc : I64 c) (hd : I64 d) (w : World) (hb : ¬((-18 ≤ e ∧ e ≤ 18) ∧ (-18 ≤ f ∧ f ≤ 18))) : Calls Tryd.prog 21 #[.agg #[.int .i64 c, .int .i64 e], .agg #[.int .i64 d, .int .i64 f]] w fun r w' => r = .returned argV ∧ Below w.heap.size w w' := by
  have HC : ∀ W, Hid (Calls Tryd.prog 44 #[.agg #[.int .i64 c, .int .i64 e], .agg #[.int .i64 d, .int .i64 f]] W _) := fun W => two_bad c e d f hc hd W hb
  go_enter Tryd.func21, Tryd.ntmps21
  go_wp2_with fail
  have r2 := Row.new ((w.alloc (.cells #[.int .i64 c, .int .i64 e] 23)).alloc (.cells #[.int .i64 d, .int .i64 f] 23)) 23 #[.int .i64 0, .int .i64 0]
  have hB := (((Below.refl _ w).alloc (Nat.le_refl _) (.cells #[.int .i64 c, .int .i64 e] 23)).alloc (by simp) (.cells #[.int .i64 d, .int .i64 f] 23)).alloc (by simp; omega) (.cells #[.int .i64 0, .int .i64 0] 23)
  have hWs : w.heap.size + 3 ≤ (((((w.alloc (.cells #[.int .i64 c, .int .i64 e] 23)).alloc (.cells #[.int .i64 d, .int .i64 f] 23)).alloc (.cells #[.int .i64 0, .int .i64 0] 23)))).heap.size := by simp
  simp only [World.size_alloc] at r2
  generalize ((((w.alloc (.cells #[.int .i64 c, .int .i64 e] 23)).alloc (.cells #[.int .i64 d, .int .i64 f] 23)).alloc (.cells #[.int .i64 0, .int .i64 0] 23))) = W at *
  refine Calls.mono (HC W).out ?_
  rintro _ w1 ⟨rfl, b1⟩
  clear HC
  unfold zeroC
  have b2 : Below w1.heap.size w1 ((w1.alloc (.cells #[.bool false, .slice none 0 0, .int .i64 0] 47)).alloc (.cells #[.bool false, .slice none 0 0, .int .i64 0] 47)) := ((Below.refl _ w1).alloc (Nat.le_refl _) _).alloc (by simp) _
  have hrx := (r2.below b1 r2.lt).below b2 (r2.below b1 r2.lt).lt
  have hBe := (hB.trans (b1.mono (by omega))).trans (b2.mono (Nat.le_trans (by omega) b1.size))
  clear r2 b1 b2 hB hWs
  obtain ⟨y0, y1⟩ := hrx.duo
  have zf := hrx.frozen
  have hZe := Row.set2 hrx (.int .i64 0) (.int .i64 0)
  have hBg := below_set (below_set hBe (B := w.heap.size + 1 + 1) 0 (.int .i64 0) (by omega)) (B := w.heap.size + 1 + 1) 1 (.int .i64 0) (by omega)
  go_wp2_with fail
  exact bodyPost_ret (ret_two rfl (g := w.heap.size + 1 + 1) rfl rfl (load23 hZe rfl)) rfl ⟨rfl, hBg⟩
set_option maxRecDepth 100000 in
set_option maxHeartbeats 4000000 in
theorem rmod_zero (c e d f : Int) (hc : I64 c) (hd : I64 d) (w : World) (he1 : -18 ≤ e) (he2 : e ≤ 18) (hf1 : -18 ≤ f) (hf2 : f ≤ 18) (h0 : d = 0) : Calls Tryd.prog 21 #[.agg #[.int .i64 c, .int .i64 e], .agg #[.int .i64 d, .int .i64 f]] w fun r w' => r = .returned divV ∧ Below w.heap.size w w' := by
  have HZ0 : Hid (∀ j : Nat, (digs (d * 10 ^ j).natAbs).length = 0) := fun j => by rw [h0, Int.zero_mul, Int.natAbs_zero, digs_zero]; rfl
  clear h0
  have HC : ∀ W, Hid (Calls Tryd.prog 44 #[.agg #[.int .i64 c, .int .i64 e], .agg #[.int .i64 d, .int .i64 f]] W _) := fun W => two_any c e d f hc hd W he1 he2 hf1 hf2
  go_enter Tryd.func21, Tryd.ntmps21
  go_wp2_with fail
  have r2 := Row.new ((w.alloc (.cells #[.int .i64 c, .int .i64 e] 23)).alloc (.cells #[.int .i64 d, .int .i64 f] 23)) 23 #[.int .i64 0, .int .i64 0]
  have hB := (((Below.refl _ w).alloc (Nat.le_refl _) (.cells #[.int .i64 c, .int .i64 e] 23)).alloc (by simp) (.cells #[.int .i64 d, .int .i64 f] 23)).alloc (by simp; omega) (.cells #[.int .i64 0, .int .i64 0] 23)
  have hWs : w.heap.size + 3 ≤ (((((w.alloc (.cells #[.int .i64 c, .int .i64 e] 23)).alloc (.cells #[.int .i64 d, .int .i64 f] 23)).alloc (.cells #[.int .i64 0, .int .i64 0] 23)))).heap.size := by simp
  simp only [World.size_alloc] at r2
  generalize ((((w.alloc (.cells #[.int .i64 c, .int .i64 e] 23)).alloc (.cells #[.int .i64 d, .int .i64 f] 23)).alloc (.cells #[.int .i64 0, .int .i64 0] 23))) = W at *
  refine Calls.mono (HC W).out ?_
  rintro _ w1 ⟨i, j, sx, sy, rfl, hij, hlo, hi, hj, hDx, hDy, b1⟩
  clear HC
  obtain ⟨_, a1, c1, rfl, _, _⟩ := id hDx
  obtain ⟨_, a2, c2, rfl, _, _⟩ := id hDy
  unfold numC
  obtain ⟨nx, HNX⟩ : ∃ nx, Hid (decide (c * 10 ^ i < 0) = nx) := ⟨_, rfl⟩
  obtain ⟨ny, HNY⟩ : ∃ ny, Hid (decide (d * 10 ^ j < 0) = ny) := ⟨_, rfl⟩
  rw [HNX.out, HNY.out]
  have lx := shifted_len c hc i
  have ly := shifted_len d hd j
  obtain ⟨n1, HN1⟩ : ∃ n1 : Nat, Hid ((digs (c * 10 ^ i).natAbs).length = n1) := ⟨_, rfl⟩
  obtain ⟨n2, HN2⟩ : ∃ n2 : Nat, Hid ((digs (d * 10 ^ j).natAbs).length = n2) := ⟨_, rfl⟩
  rw [HN1.out] at hDx lx
  rw [HN2.out] at hDy ly
  rw [HN1.out, HN2.out]
  obtain ⟨m, HM⟩ : ∃ m, Hid (e - (i : Int) = m) := ⟨_, rfl⟩
  rw [HM.out]
  go_upto_region 2 with fail
  have hmr : -18 ≤ m ∧ m ≤ 18 := by have := HM.out; omega
  have px := (Row.new w1 47 #[.bool nx, .slice a1 n1 c1, .int .i64 m]).alloc (.cells #[.bool ny, .slice a2 n2 c2, .int .i64 m] 47)
  have py := Row.new1 w1 (.cells #[.bool nx, .slice a1 n1 c1, .int .i64 m] 47) 47 #[.bool ny, .slice a2 n2 c2, .int .i64 m]
  have b2 : Below w1.heap.size w1 ((w1.alloc (.cells #[.bool nx, .slice a1 n1 c1, .int .i64 m] 47)).alloc (.cells #[.bool ny, .slice a2 n2 c2, .int .i64 m] 47)) := ((Below.refl _ w1).alloc (Nat.le_refl _) _).alloc (by simp) _
  have hrx := (r2.below b1 r2.lt).below b2 (r2.below b1 r2.lt).lt
  have hBe := (hB.trans (b1.mono (by omega))).trans (b2.mono (Nat.le_trans (by omega) b1.size))
  have eX := hDx.below b2
  have eY := hDy.below b2
  have hr1 : w.heap.size + 2 < w1.heap.size := by have := b1.size; omega
  clear r2 b1 b2 hDx hDy hB hWs
  generalize (w1.alloc (.cells #[.bool nx, .slice a1 n1 c1, .int .i64 m] 47)).alloc (.cells #[.bool ny, .slice a2 n2 c2, .int .i64 m] 47) = wr at *
  generalize w1.heap.size = X at *
  have hl0 : n2 = 0 := by rw [← HN2.out]; exact HZ0.out j
  subst hl0
  obtain ⟨t0, t1, t2⟩ := py.tri
  clear px py eX eY
  obtain ⟨y0, y1⟩ := hrx.duo
  have zf := hrx.frozen
  have hZe := Row.set2 hrx (.int .i64 0) (.int .i64 0)
  have hBg := below_set (below_set hBe (B := w.heap.size + 1 + 1) 0 (.int .i64 0) (by omega)) (B := w.heap.size + 1 + 1) 1 (.int .i64 0) (by omega)
  go_wp2_with fail
  exact bodyPost_ret (ret_two rfl (g := w.heap.size + 1 + 1) rfl rfl (load23 hZe rfl)) rfl ⟨rfl, hBg⟩
theorem rmod_any (c e d f : Int) (hc : I64 c) (hd : I64 d) (w : World) : Calls Tryd.prog 21 #[.agg #[.int .i64 c, .int .i64 e], .agg #[.int .i64 d, .int .i64 f]] w fun r w' => r = .returned (modD c e d f) ∧ Below w.heap.size w w' := by
  unfold modD
  by_cases hb : (-18 ≤ e ∧ e ≤ 18) ∧ (-18 ≤ f ∧ f ≤ 18)
  · rw [if_pos hb]
    by_cases h0 : d = 0
    · rw [if_pos h0]
      exact rmod_zero c e d f hc hd w hb.1.1 hb.1.2 hb.2.1 hb.2.2 h0
    · rw [if_neg h0]
      exact rmod_ok c e d f hc hd w hb.1.1 hb.1.2 hb.2.1 hb.2.2 h0
  · rw [if_neg hb]
    exact rmod_bad c e d f hc hd w hb
end Go.Proofs.YtfbhonjndepjbaaDoor
