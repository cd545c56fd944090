import Derived.Test.YtfbhonjndepjbaaDoorRqu
import Derived.Test.YtfbhonjndepjbaaDoorRtxM
import Derived.Test.YtfbhonjndepjbaaDoorRfiMM
import Derived.Test.YtfbhonjndepjbaaDoorWddM
import Derived.Test.YtfbhonjndepjbaaDoorWddM
import Derived.Deep.CutBlock
import Derived.Deep.DeepCutAuto
/- The document's Div. -/
namespace Go.Proofs.YtfbhonjndepjbaaDoor
open Go.RowKit

theorem DgAt.setd {W : World} {sv : Value} {ds : List Int} (h : DgAt W sv ds) {B : Nat} {p : Bool} {x : Option Addr} {y z : Nat} (hR : Row W B 45 #[.bool p, .slice x y z]) (u : Value) : DgAt (W.setCell ⟨B, 0, none⟩ u) sv ds := by
  refine ⟨?_, h.2⟩
  have hk := (Kept.refl (fun k => k ≠ B) W).setCell (p := ⟨B, 0, none⟩) (by simp) u
  rcases h.1 with h0 | ⟨b, off, c, e, hb, hc⟩
  · exact .inl h0
  · by_cases h0 : ds = []
    · subst h0; exact .inl ⟨rfl, _, _, e⟩
    · have hl : 0 < ds.length := List.length_pos_iff.2 h0
      have hne : b ≠ B := by
        rintro rfl
        have h1 := hc 0 hl
        rw [row_cell hR] at h1
        match off, h1 with
        | 0, h1 => simp at h1
        | 1, h1 => simp at h1
        | o + 2, h1 => simp at h1
      exact .inr ⟨b, off, c, e, Nat.lt_of_lt_of_le hb hk.size, fun j hj => (hk.cell (p := ⟨b, off + j, none⟩) hne).trans (hc j hj)⟩
/-- What the document's Div tells. -/
def divO (c e d f : Int) : Option (Int × Int) := if c.natAbs * 10 ^ 90 % d.natAbs = 0 then tellW (decide (c < 0) != decide (d < 0)) (c.natAbs * 10 ^ 90 / d.natAbs) (e - f - 90) else none
theorem tell_sg (sg : Bool) (Q : Nat) (E : Int) : tell (bval sg (digs Q)) E = tellW sg Q E := by
  unfold tell bval
  rw [dval_digs]
  by_cases h0 : Q = 0
  · subst h0; cases sg <;> simp [tellW_zero]
  · cases sg
    · simp only [Bool.false_eq_true, if_false]
      rw [decide_eq_false (by omega), Int.natAbs_natCast]
    · simp only [if_true]
      rw [decide_eq_true (by omega), Int.natAbs_neg, Int.natAbs_natCast]
set_option maxRecDepth 100000 in
set_option maxHeartbeats 16000000 in
theorem rdiv_ok (c e d f : Int) (hc : I64 c) (hd : I64 d) (w : World) (he1 : -18 ≤ e) (he2 : e ≤ 18) (hf1 : -18 ≤ f) (hf2 : f ≤ 18) (h0 : d ≠ 0) : Calls Tryd.prog 19 #[.agg #[.int .i64 c, .int .i64 e], .agg #[.int .i64 d, .int .i64 f]] w fun r w' => r = .returned (decV (divO c e d f)) ∧ Below w.heap.size w w' := by
  have HC : ∀ W, Hid (Calls Tryd.prog 53 #[.agg #[.int .i64 c, .int .i64 e]] W _) := fun W => num_any c e hc W
  have HD : ∀ W, Hid (Calls Tryd.prog 53 #[.agg #[.int .i64 d, .int .i64 f]] W _) := fun W => num_any d f hd W
  rw [decide_eq_true (show -18 ≤ e ∧ e ≤ 18 from ⟨he1, he2⟩)] at HC
  rw [decide_eq_true (show -18 ≤ f ∧ f ≤ 18 from ⟨hf1, hf2⟩)] at HD
  obtain ⟨A, hA⟩ : ∃ A : Nat, c.natAbs * 10 ^ 90 = A := ⟨_, rfl⟩
  obtain ⟨B, hB2⟩ : ∃ B : Nat, d.natAbs = B := ⟨_, rfl⟩
  have HB0 : Hid (0 < B ∧ B ≤ 9223372036854775808) := by unfold I64 at hd; exact ⟨by omega, by omega⟩
  have HA0 : Hid (A < 10 ^ 110) := by
    show _ < _
    rw [← hA]
    have c20 : (10 : Nat) ^ 20 = 100000000000000000000 := by decide
    have h1 : c.natAbs < 10 ^ 20 := by unfold I64 at hc; omega
    have h2 : (10 : Nat) ^ 110 = 10 ^ 20 * 10 ^ 90 := by rw [← Nat.pow_add]
    rw [h2]
    exact Nat.mul_lt_mul_of_pos_right h1 (Nat.pow_pos (by decide))
  unfold divO
  rw [hA, hB2]
  obtain ⟨rv, hrv⟩ : ∃ rv, decV (if A % B = 0 then tellW (decide (c < 0) != decide (d < 0)) (A / B) (e - f - 90) else none) = rv := ⟨_, rfl⟩
  rw [hrv]
  have HRV : Hid (decV (if A % B = 0 then tellW (decide (c < 0) != decide (d < 0)) (A / B) (e - f - 90) else none) = rv) := hrv
  clear hrv
  have HAc : Hid (c.natAbs * 10 ^ 90 = A) := hA
  have HBc : Hid (d.natAbs = B) := hB2
  clear hA hB2 h0
  go_enter Tryd.func19, Tryd.ntmps19
  go_wp2_with fail
  have r1 := (Row.new1 w (.cells #[.int .i64 c, .int .i64 e] 23) 23 #[.int .i64 d, .int .i64 f]).alloc (.cells #[.int .i64 0, .int .i64 0] 23)
  have r2 := Row.new ((w.alloc (.cells #[.int .i64 c, .int .i64 e] 23)).alloc (.cells #[.int .i64 d, .int .i64 f] 23)) 23 #[.int .i64 0, .int .i64 0]
  have hB := (((Below.refl _ w).alloc (Nat.le_refl _) (.cells #[.int .i64 c, .int .i64 e] 23)).alloc (by simp) (.cells #[.int .i64 d, .int .i64 f] 23)).alloc (by simp; omega) (.cells #[.int .i64 0, .int .i64 0] 23)
  have hWs : w.heap.size + 3 ≤ (((((w.alloc (.cells #[.int .i64 c, .int .i64 e] 23)).alloc (.cells #[.int .i64 d, .int .i64 f] 23)).alloc (.cells #[.int .i64 0, .int .i64 0] 23)))).heap.size := by simp
  simp only [World.size_alloc] at r2
  generalize ((((w.alloc (.cells #[.int .i64 c, .int .i64 e] 23)).alloc (.cells #[.int .i64 d, .int .i64 f] 23)).alloc (.cells #[.int .i64 0, .int .i64 0] 23))) = W at *
  refine Calls.mono (HC W).out ?_
  rintro _ w1 ⟨s1, rfl, hD1, hN1, b1⟩
  clear HC hN1
  obtain ⟨_, a1, c1, rfl, _, _⟩ := id hD1
  obtain ⟨nc, HNC⟩ : ∃ nc, Hid (decide (c < 0) = nc) := ⟨_, rfl⟩
  rw [HNC.out]
  obtain ⟨lc, HLC⟩ : ∃ lc, Hid ((digs c.natAbs).length = lc) := ⟨_, rfl⟩
  rw [HLC.out] at hD1
  rw [HLC.out]
  have q1 := (r1.below b1 r1.lt).alloc (.cells #[.bool nc, .slice a1 lc c1, .int .i64 e] 47)
  obtain ⟨x0, x1⟩ := q1.duo
  go_wp2_with fail
  have r4 := Row.new w1 47 #[.bool nc, .slice a1 lc c1, .int .i64 e]
  have b2 : Below W.heap.size W (w1.alloc (.cells #[.bool nc, .slice a1 lc c1, .int .i64 e] 47)) := b1.alloc b1.size _
  have hD2 := hD1.below ((Below.refl _ w1).alloc (Nat.le_refl _) (.cells #[.bool nc, .slice a1 lc c1, .int .i64 e] 47))
  clear q1 x0 x1 hD1
  generalize w1.alloc (.cells #[.bool nc, .slice a1 lc c1, .int .i64 e] 47) = W2 at *
  generalize w1.heap.size = X at *
  refine Calls.mono (HD W2).out ?_
  rintro _ w2 ⟨s2, rfl, hD3, hN3, b3⟩
  clear HD hN3
  obtain ⟨_, a2, c2, rfl, _, _⟩ := id hD3
  obtain ⟨nd, HND⟩ : ∃ nd, Hid (decide (d < 0) = nd) := ⟨_, rfl⟩
  rw [HND.out]
  obtain ⟨ld, HLD⟩ : ∃ ld, Hid ((digs d.natAbs).length = ld) := ⟨_, rfl⟩
  rw [HLD.out] at hD3
  rw [HLD.out]
  have hld : 0 < ld := by
    rw [← HLD.out]
    apply Nat.pos_of_ne_zero
    intro h
    have h2 := dval_digs d.natAbs
    rw [List.length_eq_zero_iff.1 h, HBc.out] at h2
    have h3 := HB0.out
    simp [dval] at h2
    omega
  have py := Row.new w2 47 #[.bool nd, .slice a2 ld c2, .int .i64 f]
  have b4 : Below W2.heap.size W2 (w2.alloc (.cells #[.bool nd, .slice a2 ld c2, .int .i64 f] 47)) := b3.alloc b3.size _
  have eY := hD3.below ((Below.refl _ w2).alloc (Nat.le_refl _) (.cells #[.bool nd, .slice a2 ld c2, .int .i64 f] 47))
  have eX := hD2.below b4
  have px := r4.below b4 r4.lt
  have hrx := (r2.below b2 r2.lt).below b4 (r2.below b2 r2.lt).lt
  have hBe := (hB.trans (b2.mono (by omega))).trans (b4.mono (Nat.le_trans (by omega) b2.size))
  have hXW : w.heap.size + 1 + 1 < w2.heap.size := Nat.lt_of_lt_of_le (r2.below b2 r2.lt).lt b3.size
  clear r1 r2 hB r4 hD2 hD3 b1 b2 b3 b4
  generalize hW5 : w2.alloc (.cells #[.bool nd, .slice a2 ld c2, .int .i64 f] 47) = wr at *
  generalize hYg : w2.heap.size = Y at *
  obtain ⟨y0, y1, y2⟩ := py.tri
  have hl0 : ((ld : Int) == 0) = false := beq_eq_false_iff_ne.2 (by omega)
  go_upto_region 7 with fail
  clear y0 y1 y2 hl0 hld hW5 hYg
  obtain ⟨sx, hsx⟩ : ∃ sx, decide (c * 10 ^ 90 < 0) = sx := ⟨_, rfl⟩
  have HSX : Hid (decide (c * 10 ^ 90 < 0) = sx) := hsx
  clear hsx
  have HL1 : Hid ((digs c.natAbs).length ≤ 600) := by
    refine Nat.le_trans (digs_len _ 110 ?_) (by decide)
    refine Nat.lt_of_le_of_lt ?_ HA0.out
    rw [← HAc.out]
    exact Nat.le_mul_of_pos_right _ (Nat.pow_pos (by decide))
  have H2 : ∀ V, Below wr.heap.size wr V → Hid (Calls Tryd.prog 58 #[.agg #[.bool nc, .slice a1 lc c1], .int .i64 90] V fun r w' => ∃ a n c', r = .returned (.agg #[.bool sx, .slice a n c']) ∧ DgAt w' (.slice a n c') (digs A) ∧ Below V.heap.size V w') := fun V hV => by
    refine (shift_any c (bv nc (.slice a1 lc c1)) 90 V ⟨_, by rw [HNC.out], eX.below hV⟩ (by omega) HL1.out).mono ?_
    rintro r w' ⟨v, rfl, ⟨s, rfl, hs⟩, hb⟩
    have e1 : (c * 10 ^ 90).natAbs = A := by rw [Int.natAbs_mul, Int.natAbs_pow, ← HAc.out]; rfl
    rw [e1] at hs
    obtain ⟨_, a, c', rfl, _, _⟩ := id hs
    exact ⟨a, _, c', by rw [HSX.out]; rfl, hs, hb⟩
  have H3 : ∀ V a n c', Below wr.heap.size wr V → DgAt V (.slice a n c') (digs A) → Hid (Calls Tryd.prog 57 #[.agg #[.bool sx, .slice a n c'], .agg #[.bool nd, .slice a2 ld c2]] V fun r w' => ∃ aq nq cq ar nr cr, r = .returned (.tuple #[.agg #[.bool false, .slice aq nq cq], .agg #[.bool false, .slice ar nr cr]]) ∧ DgAt w' (.slice aq nq cq) (digs (A / B)) ∧ DgAt w' (.slice ar nr cr) (digs (A % B)) ∧ Below V.heap.size V w') := fun V a n c' hV h => by
    have l1 : (digs A).length ≤ 300 := Nat.le_trans (digs_len _ 110 HA0.out) (by decide)
    have c19 : (10 : Nat) ^ 19 = 10000000000000000000 := by decide
    have hb0 := HB0.out
    have hbc := HBc.out
    have l2 : (digs d.natAbs).length ≤ 300 := Nat.le_trans (digs_len _ 19 (by omega)) (by decide)
    refine (quo_digs sx nd _ _ _ _ V h (eY.below hV) (digs_dg _) (digs_dg _) l1 l2 (by rw [dval_digs]; omega)).mono ?_
    rintro r w' ⟨v1, v2, rfl, ⟨s1, rfl, h1⟩, ⟨s2, rfl, h2⟩, hb⟩
    rw [dval_digs, dval_digs, hbc] at h1 h2 ⊢
    have e1 : (((A : Nat) : Int) / ((B : Nat) : Int)) = ((A / B : Nat) : Int) := (Int.natCast_ediv _ _).symm
    have e2 : (((A : Nat) : Int) % ((B : Nat) : Int)) = ((A % B : Nat) : Int) := (Int.natCast_emod _ _).symm
    rw [e1, Int.natAbs_natCast] at h1
    rw [e2, Int.natAbs_natCast] at h2
    rw [e1, e2, decide_eq_false (Int.not_lt.2 (Int.natCast_nonneg _)), decide_eq_false (Int.not_lt.2 (Int.natCast_nonneg _))]
    obtain ⟨_, a1, c1, rfl, _, _⟩ := id h1
    obtain ⟨_, a2, c2, rfl, _, _⟩ := id h2
    exact ⟨a1, _, c1, a2, _, c2, rfl, h1, h2, hb⟩
  go_cut [10, 11] (fun v6 v7 wx => ∃ (K6 K7 : Nat) (aq : Option Addr) (nq cq : Nat) (ar : Option Addr) (nr cr : Nat), v6 = .pointer (some ⟨K6, 0, none⟩) ∧ v7 = .pointer (some ⟨K7, 0, none⟩) ∧ K6 ≠ K7 ∧ wr.heap.size ≤ K6 ∧ wr.heap.size ≤ K7 ∧ Row wx K6 45 #[.bool false, .slice aq nq cq] ∧ Row wx K7 45 #[.bool false, .slice ar nr cr] ∧ Hid (DgAt wx (.slice aq nq cq) (digs (A / B))) ∧ Hid (DgAt wx (.slice ar nr cr) (digs (A % B))) ∧ Hid (Below wr.heap.size wr wx))
  case first =>
    as_aux_lemma =>
      have hS : Below wr.heap.size wr wr.drew := (Below.refl _ wr).drew
      have trx : ∀ wx, Below wr.heap.size wr wx → wx.cell? ⟨X, 0, none⟩ = some (.bool nc) ∧ wx.cell? ⟨X, 1, none⟩ = some (.slice a1 lc c1) ∧ wx.cell? ⟨X, 2, none⟩ = some (.int .i64 e) := fun wx hx => (px.below hx px.lt).tri
      have tr2 : ∀ wx, Below wr.heap.size wr wx → wx.cell? ⟨Y, 0, none⟩ = some (.bool nd) ∧ wx.cell? ⟨Y, 1, none⟩ = some (.slice a2 ld c2) ∧ wx.cell? ⟨Y, 2, none⟩ = some (.int .i64 f) := fun wx hx => (py.below hx py.lt).tri
      refine wp_region_M (fun wx : World => Below wr.heap.size wr wx) (fun j => decide (j < 13)) 13 rfl (by kernel_rfl) ?_
      refine wpM_held 0 (v := ?_) rfl (by kernel_rfl) (by kernel_rfl) rfl (fun _ _ _ h => h) rfl (by intro wx hx; go_simp <;> rfl) hS ?_
      refine wpM_held 1 (v := .agg #[.bool nc, .slice a1 lc c1]) rfl (by kernel_rfl) (by kernel_rfl) rfl (fun _ _ _ h => h) rfl (by intro wx hx; obtain ⟨x0, x1, x2⟩ := trx wx hx; go_simp <;> rfl) hS ?_
      refine wpM_held 3 (v := ?_) rfl (by kernel_rfl) (by kernel_rfl) rfl (fun _ _ _ h => h) rfl (by intro wx hx; go_simp <;> rfl) hS ?_
      refine wpM_held 4 (v := .agg #[.bool nd, .slice a2 ld c2]) rfl (by kernel_rfl) (by kernel_rfl) rfl (fun _ _ _ h => h) rfl (by intro wx hx; obtain ⟨x0, x1, x2⟩ := tr2 wx hx; go_simp <;> rfl) hS ?_
      refine wpM_three 2 9 10 rfl rfl rfl (by kernel_rfl) rfl rfl rfl ?_ ?_ ?_
      · go_wp2_with fail
        refine Calls.mono (H2 _ hS).out ?_
        rintro _ v1 ⟨a1, n1, c1, rfl, D1, b1⟩
        have S1 : Below wr.heap.size wr v1 := hS.trans (b1.mono hS.size)
        clear b1
        go_wp2_with fail
        refine ⟨fun _ => S1, ?_⟩
        refine wpM_three 5 9 10 rfl rfl rfl (by kernel_rfl) rfl rfl rfl ?_ ?_ ?_
        · go_wp2_with fail
          refine Calls.mono (H3 _ _ _ _ S1 D1).out ?_
          rintro _ v2 ⟨a2, n2, c2, e2, f2, g2, rfl, D2, E2, b2⟩
          have S2 : Below wr.heap.size wr v2 := S1.trans (b2.mono S1.size)
          clear b2
          go_wp2_with fail
          refine ⟨fun _ => S2, ?_⟩
          refine wpM_held 6 (v := .tuple #[.agg #[.bool false, .slice a2 n2 c2], .agg #[.bool false, .slice e2 f2 g2]]) rfl (by kernel_rfl) (by kernel_rfl) rfl (fun _ _ _ h => h) rfl (by intro wx hx; go_simp <;> rfl) S2 ?_
          refine wpM_held 7 (v := .agg #[.bool false, .slice a2 n2 c2]) rfl (by kernel_rfl) (by kernel_rfl) rfl (fun _ _ _ h => h) rfl (by intro wx hx; go_simp <;> rfl) S2 ?_
          refine wpM_held 8 (v := .agg #[.bool false, .slice e2 f2 g2]) rfl (by kernel_rfl) (by kernel_rfl) rfl (fun _ _ _ h => h) rfl (by intro wx hx; go_simp <;> rfl) S2 ?_
          refine wpM_two 9 10 rfl rfl (by kernel_rfl) rfl rfl ?_ ?_
          · go_wp2_with fail
            have R63 := Row.new v2 45 #[.bool false, .slice none 0 0]
            have S3 : Below wr.heap.size wr (v2.alloc (.cells #[.bool false, .slice none 0 0] 45)) := S2.alloc S2.size _
            have L3 : wr.heap.size ≤ v2.heap.size := S2.size
            have D3 := D2.below ((Below.refl _ v2).alloc (Nat.le_refl _) (.cells #[.bool false, .slice none 0 0] 45))
            have E3 := E2.below ((Below.refl _ v2).alloc (Nat.le_refl _) (.cells #[.bool false, .slice none 0 0] 45))
            refine ⟨fun _ => S3, ?_⟩
            clear S2 D2 E2 
            generalize v2.alloc (.cells #[.bool false, .slice none 0 0] 45) = v3 at *
            generalize v2.heap.size = K3 at *
            refine wpM_one 10 rfl (by kernel_rfl) rfl ?_
            go_wp2_with fail
            have R74 := Row.new v3 45 #[.bool false, .slice none 0 0]
            have S4 : Below wr.heap.size wr (v3.alloc (.cells #[.bool false, .slice none 0 0] 45)) := S3.alloc S3.size _
            have L4 : wr.heap.size ≤ v3.heap.size := S3.size
            have N4 := R63.lt
            have R64 := R63.alloc (.cells #[.bool false, .slice none 0 0] 45)
            have D4 := D3.below ((Below.refl _ v3).alloc (Nat.le_refl _) (.cells #[.bool false, .slice none 0 0] 45))
            have E4 := E3.below ((Below.refl _ v3).alloc (Nat.le_refl _) (.cells #[.bool false, .slice none 0 0] 45))
            refine ⟨fun _ => S4, ?_⟩
            clear S3 D3 E3 R63
            generalize v3.alloc (.cells #[.bool false, .slice none 0 0] 45) = v4 at *
            generalize v3.heap.size = K4 at *
            have hne5 : K3 ≠ K4 := by omega
            have P6 := Row.set2 R64 (.bool false) (.slice a2 n2 c2)
            have P7 := (Row.other R74 (K := K3) (by omega) 0 (.bool false)).other (K := K3) (by omega) 1 (.slice a2 n2 c2)
            have Dq := D4.store R64 (.bool false) (.slice a2 n2 c2)
            have Dr := E4.store R64 (.bool false) (.slice a2 n2 c2)
            have Sb := below_set (below_set S4 (B := K3) 0 (.bool false) (by omega)) (B := K3) 1 (.slice a2 n2 c2) (by omega)
            obtain ⟨x0, x1'⟩ := Row.duo R64
            have zf := Row.frozen R64
            refine wpM_one 11 rfl (by kernel_rfl) rfl ?_
            go_wp2_with fail
            refine ⟨fun _ => Sb, ?_⟩
            clear x0 x1' zf R64 R74 D4 E4 S4
            generalize (v4.setCell ⟨K3, 0, none⟩ (.bool false)).setCell ⟨K3, 1, none⟩ (.slice a2 n2 c2) = V9 at *
            have O7 := Row.set2 P7 (.bool false) (.slice e2 f2 g2)
            have O6 := (Row.other P6 (K := K4) (by omega) 0 (.bool false)).other (K := K4) (by omega) 1 (.slice e2 f2 g2)
            have Eq := Dq.store P7 (.bool false) (.slice e2 f2 g2)
            have Er := Dr.store P7 (.bool false) (.slice e2 f2 g2)
            have Sc := below_set (below_set Sb (B := K4) 0 (.bool false) (by omega)) (B := K4) 1 (.slice e2 f2 g2) (by omega)
            obtain ⟨x0, x1'⟩ := Row.duo P7
            have zf := Row.frozen P7
            refine wpM_one 12 rfl (by kernel_rfl) rfl ?_
            go_wp2_with fail
            refine ⟨fun _ => Sc, ?_⟩
            refine wpM_done (by kernel_rfl) ?_
            go_wp2_with fail
            go_meet
            exact ⟨K3, K4, a2, n2, c2, e2, f2, g2, rfl, rfl, hne5, by omega, by omega, O6, O7, Eq, Er, Sc⟩
          · go_wp2_with fail
            have R76 := Row.new v2 45 #[.bool false, .slice none 0 0]
            have S6 : Below wr.heap.size wr (v2.alloc (.cells #[.bool false, .slice none 0 0] 45)) := S2.alloc S2.size _
            have L6 : wr.heap.size ≤ v2.heap.size := S2.size
            have D6 := D2.below ((Below.refl _ v2).alloc (Nat.le_refl _) (.cells #[.bool false, .slice none 0 0] 45))
            have E6 := E2.below ((Below.refl _ v2).alloc (Nat.le_refl _) (.cells #[.bool false, .slice none 0 0] 45))
            refine ⟨fun _ => S6, ?_⟩
            clear S2 D2 E2 
            generalize v2.alloc (.cells #[.bool false, .slice none 0 0] 45) = v6 at *
            generalize v2.heap.size = K6 at *
            refine wpM_one 9 rfl (by kernel_rfl) rfl ?_
            go_wp2_with fail
            have R67 := Row.new v6 45 #[.bool false, .slice none 0 0]
            have S7 : Below wr.heap.size wr (v6.alloc (.cells #[.bool false, .slice none 0 0] 45)) := S6.alloc S6.size _
            have L7 : wr.heap.size ≤ v6.heap.size := S6.size
            have N7 := R76.lt
            have R77 := R76.alloc (.cells #[.bool false, .slice none 0 0] 45)
            have D7 := D6.below ((Below.refl _ v6).alloc (Nat.le_refl _) (.cells #[.bool false, .slice none 0 0] 45))
            have E7 := E6.below ((Below.refl _ v6).alloc (Nat.le_refl _) (.cells #[.bool false, .slice none 0 0] 45))
            refine ⟨fun _ => S7, ?_⟩
            clear S6 D6 E6 R76
            generalize v6.alloc (.cells #[.bool false, .slice none 0 0] 45) = v7 at *
            generalize v6.heap.size = K7 at *
            have hne8 : K7 ≠ K6 := by omega
            have P6 := Row.set2 R67 (.bool false) (.slice a2 n2 c2)
            have P7 := (Row.other R77 (K := K7) (by omega) 0 (.bool false)).other (K := K7) (by omega) 1 (.slice a2 n2 c2)
            have Dq := D7.store R67 (.bool false) (.slice a2 n2 c2)
            have Dr := E7.store R67 (.bool false) (.slice a2 n2 c2)
            have Sb := below_set (below_set S7 (B := K7) 0 (.bool false) (by omega)) (B := K7) 1 (.slice a2 n2 c2) (by omega)
            obtain ⟨x0, x1'⟩ := Row.duo R67
            have zf := Row.frozen R67
            refine wpM_one 11 rfl (by kernel_rfl) rfl ?_
            go_wp2_with fail
            refine ⟨fun _ => Sb, ?_⟩
            clear x0 x1' zf R67 R77 D7 E7 S7
            generalize (v7.setCell ⟨K7, 0, none⟩ (.bool false)).setCell ⟨K7, 1, none⟩ (.slice a2 n2 c2) = V9 at *
            have O7 := Row.set2 P7 (.bool false) (.slice e2 f2 g2)
            have O6 := (Row.other P6 (K := K6) (by omega) 0 (.bool false)).other (K := K6) (by omega) 1 (.slice e2 f2 g2)
            have Eq := Dq.store P7 (.bool false) (.slice e2 f2 g2)
            have Er := Dr.store P7 (.bool false) (.slice e2 f2 g2)
            have Sc := below_set (below_set Sb (B := K6) 0 (.bool false) (by omega)) (B := K6) 1 (.slice e2 f2 g2) (by omega)
            obtain ⟨x0, x1'⟩ := Row.duo P7
            have zf := Row.frozen P7
            refine wpM_one 12 rfl (by kernel_rfl) rfl ?_
            go_wp2_with fail
            refine ⟨fun _ => Sc, ?_⟩
            refine wpM_done (by kernel_rfl) ?_
            go_wp2_with fail
            go_meet
            exact ⟨K7, K6, a2, n2, c2, e2, f2, g2, rfl, rfl, hne8, by omega, by omega, O6, O7, Eq, Er, Sc⟩
        · go_wp2_with fail
          have R69 := Row.new v1 45 #[.bool false, .slice none 0 0]
          have S9 : Below wr.heap.size wr (v1.alloc (.cells #[.bool false, .slice none 0 0] 45)) := S1.alloc S1.size _
          have L9 : wr.heap.size ≤ v1.heap.size := S1.size
          have D9 := D1.below ((Below.refl _ v1).alloc (Nat.le_refl _) (.cells #[.bool false, .slice none 0 0] 45))
          refine ⟨fun _ => S9, ?_⟩
          clear S1 D1 
          generalize v1.alloc (.cells #[.bool false, .slice none 0 0] 45) = v9 at *
          generalize v1.heap.size = K9 at *
          refine wpM_two 5 10 rfl rfl (by kernel_rfl) rfl rfl ?_ ?_
          · go_wp2_with fail
            refine Calls.mono (H3 _ _ _ _ S9 D9).out ?_
            rintro _ v10 ⟨a10, n10, c10, e10, f10, g10, rfl, D10, E10, b10⟩
            have S10 : Below wr.heap.size wr v10 := S9.trans (b10.mono S9.size)
            have R610 := R69.below b10 R69.lt
            clear b10
            go_wp2_with fail
            refine ⟨fun _ => S10, ?_⟩
            refine wpM_held 6 (v := .tuple #[.agg #[.bool false, .slice a10 n10 c10], .agg #[.bool false, .slice e10 f10 g10]]) rfl (by kernel_rfl) (by kernel_rfl) rfl (fun _ _ _ h => h) rfl (by intro wx hx; go_simp <;> rfl) S10 ?_
            refine wpM_held 7 (v := .agg #[.bool false, .slice a10 n10 c10]) rfl (by kernel_rfl) (by kernel_rfl) rfl (fun _ _ _ h => h) rfl (by intro wx hx; go_simp <;> rfl) S10 ?_
            refine wpM_held 8 (v := .agg #[.bool false, .slice e10 f10 g10]) rfl (by kernel_rfl) (by kernel_rfl) rfl (fun _ _ _ h => h) rfl (by intro wx hx; go_simp <;> rfl) S10 ?_
            refine wpM_one 10 rfl (by kernel_rfl) rfl ?_
            go_wp2_with fail
            have R711 := Row.new v10 45 #[.bool false, .slice none 0 0]
            have S11 : Below wr.heap.size wr (v10.alloc (.cells #[.bool false, .slice none 0 0] 45)) := S10.alloc S10.size _
            have L11 : wr.heap.size ≤ v10.heap.size := S10.size
            have N11 := R610.lt
            have R611 := R610.alloc (.cells #[.bool false, .slice none 0 0] 45)
            have D11 := D10.below ((Below.refl _ v10).alloc (Nat.le_refl _) (.cells #[.bool false, .slice none 0 0] 45))
            have E11 := E10.below ((Below.refl _ v10).alloc (Nat.le_refl _) (.cells #[.bool false, .slice none 0 0] 45))
            refine ⟨fun _ => S11, ?_⟩
            clear S10 D10 E10 R610
            generalize v10.alloc (.cells #[.bool false, .slice none 0 0] 45) = v11 at *
            generalize v10.heap.size = K11 at *
            have hne12 : K9 ≠ K11 := by omega
            have P6 := Row.set2 R611 (.bool false) (.slice a10 n10 c10)
            have P7 := (Row.other R711 (K := K9) (by omega) 0 (.bool false)).other (K := K9) (by omega) 1 (.slice a10 n10 c10)
            have Dq := D11.store R611 (.bool false) (.slice a10 n10 c10)
            have Dr := E11.store R611 (.bool false) (.slice a10 n10 c10)
            have Sb := below_set (below_set S11 (B := K9) 0 (.bool false) (by omega)) (B := K9) 1 (.slice a10 n10 c10) (by omega)
            obtain ⟨x0, x1'⟩ := Row.duo R611
            have zf := Row.frozen R611
            refine wpM_one 11 rfl (by kernel_rfl) rfl ?_
            go_wp2_with fail
            refine ⟨fun _ => Sb, ?_⟩
            clear x0 x1' zf R611 R711 D11 E11 S11
            generalize (v11.setCell ⟨K9, 0, none⟩ (.bool false)).setCell ⟨K9, 1, none⟩ (.slice a10 n10 c10) = V9 at *
            have O7 := Row.set2 P7 (.bool false) (.slice e10 f10 g10)
            have O6 := (Row.other P6 (K := K11) (by omega) 0 (.bool false)).other (K := K11) (by omega) 1 (.slice e10 f10 g10)
            have Eq := Dq.store P7 (.bool false) (.slice e10 f10 g10)
            have Er := Dr.store P7 (.bool false) (.slice e10 f10 g10)
            have Sc := below_set (below_set Sb (B := K11) 0 (.bool false) (by omega)) (B := K11) 1 (.slice e10 f10 g10) (by omega)
            obtain ⟨x0, x1'⟩ := Row.duo P7
            have zf := Row.frozen P7
            refine wpM_one 12 rfl (by kernel_rfl) rfl ?_
            go_wp2_with fail
            refine ⟨fun _ => Sc, ?_⟩
            refine wpM_done (by kernel_rfl) ?_
            go_wp2_with fail
            go_meet
            exact ⟨K9, K11, a10, n10, c10, e10, f10, g10, rfl, rfl, hne12, by omega, by omega, O6, O7, Eq, Er, Sc⟩
          · go_wp2_with fail
            have R713 := Row.new v9 45 #[.bool false, .slice none 0 0]
            have S13 : Below wr.heap.size wr (v9.alloc (.cells #[.bool false, .slice none 0 0] 45)) := S9.alloc S9.size _
            have L13 : wr.heap.size ≤ v9.heap.size := S9.size
            have N13 := R69.lt
            have R613 := R69.alloc (.cells #[.bool false, .slice none 0 0] 45)
            have D13 := D9.below ((Below.refl _ v9).alloc (Nat.le_refl _) (.cells #[.bool false, .slice none 0 0] 45))
            refine ⟨fun _ => S13, ?_⟩
            clear S9 D9 R69
            generalize v9.alloc (.cells #[.bool false, .slice none 0 0] 45) = v13 at *
            generalize v9.heap.size = K13 at *
            refine wpM_one 5 rfl (by kernel_rfl) rfl ?_
            go_wp2_with fail
            refine Calls.mono (H3 _ _ _ _ S13 D13).out ?_
            rintro _ v14 ⟨a14, n14, c14, e14, f14, g14, rfl, D14, E14, b14⟩
            have S14 : Below wr.heap.size wr v14 := S13.trans (b14.mono S13.size)
            have R614 := R613.below b14 R613.lt
            have R714 := R713.below b14 R713.lt
            clear b14
            go_wp2_with fail
            refine ⟨fun _ => S14, ?_⟩
            refine wpM_held 6 (v := .tuple #[.agg #[.bool false, .slice a14 n14 c14], .agg #[.bool false, .slice e14 f14 g14]]) rfl (by kernel_rfl) (by kernel_rfl) rfl (fun _ _ _ h => h) rfl (by intro wx hx; go_simp <;> rfl) S14 ?_
            refine wpM_held 7 (v := .agg #[.bool false, .slice a14 n14 c14]) rfl (by kernel_rfl) (by kernel_rfl) rfl (fun _ _ _ h => h) rfl (by intro wx hx; go_simp <;> rfl) S14 ?_
            refine wpM_held 8 (v := .agg #[.bool false, .slice e14 f14 g14]) rfl (by kernel_rfl) (by kernel_rfl) rfl (fun _ _ _ h => h) rfl (by intro wx hx; go_simp <;> rfl) S14 ?_
            have hne15 : K9 ≠ K13 := by omega
            have P6 := Row.set2 R614 (.bool false) (.slice a14 n14 c14)
            have P7 := (Row.other R714 (K := K9) (by omega) 0 (.bool false)).other (K := K9) (by omega) 1 (.slice a14 n14 c14)
            have Dq := D14.store R614 (.bool false) (.slice a14 n14 c14)
            have Dr := E14.store R614 (.bool false) (.slice a14 n14 c14)
            have Sb := below_set (below_set S14 (B := K9) 0 (.bool false) (by omega)) (B := K9) 1 (.slice a14 n14 c14) (by omega)
            obtain ⟨x0, x1'⟩ := Row.duo R614
            have zf := Row.frozen R614
            refine wpM_one 11 rfl (by kernel_rfl) rfl ?_
            go_wp2_with fail
            refine ⟨fun _ => Sb, ?_⟩
            clear x0 x1' zf R614 R714 D14 E14 S14
            generalize (v14.setCell ⟨K9, 0, none⟩ (.bool false)).setCell ⟨K9, 1, none⟩ (.slice a14 n14 c14) = V9 at *
            have O7 := Row.set2 P7 (.bool false) (.slice e14 f14 g14)
            have O6 := (Row.other P6 (K := K13) (by omega) 0 (.bool false)).other (K := K13) (by omega) 1 (.slice e14 f14 g14)
            have Eq := Dq.store P7 (.bool false) (.slice e14 f14 g14)
            have Er := Dr.store P7 (.bool false) (.slice e14 f14 g14)
            have Sc := below_set (below_set Sb (B := K13) 0 (.bool false) (by omega)) (B := K13) 1 (.slice e14 f14 g14) (by omega)
            obtain ⟨x0, x1'⟩ := Row.duo P7
            have zf := Row.frozen P7
            refine wpM_one 12 rfl (by kernel_rfl) rfl ?_
            go_wp2_with fail
            refine ⟨fun _ => Sc, ?_⟩
            refine wpM_done (by kernel_rfl) ?_
            go_wp2_with fail
            go_meet
            exact ⟨K9, K13, a14, n14, c14, e14, f14, g14, rfl, rfl, hne15, by omega, by omega, O6, O7, Eq, Er, Sc⟩
        · go_wp2_with fail
          have R716 := Row.new v1 45 #[.bool false, .slice none 0 0]
          have S16 : Below wr.heap.size wr (v1.alloc (.cells #[.bool false, .slice none 0 0] 45)) := S1.alloc S1.size _
          have L16 : wr.heap.size ≤ v1.heap.size := S1.size
          have D16 := D1.below ((Below.refl _ v1).alloc (Nat.le_refl _) (.cells #[.bool false, .slice none 0 0] 45))
          refine ⟨fun _ => S16, ?_⟩
          clear S1 D1 
          generalize v1.alloc (.cells #[.bool false, .slice none 0 0] 45) = v16 at *
          generalize v1.heap.size = K16 at *
          refine wpM_two 5 9 rfl rfl (by kernel_rfl) rfl rfl ?_ ?_
          · go_wp2_with fail
            refine Calls.mono (H3 _ _ _ _ S16 D16).out ?_
            rintro _ v17 ⟨a17, n17, c17, e17, f17, g17, rfl, D17, E17, b17⟩
            have S17 : Below wr.heap.size wr v17 := S16.trans (b17.mono S16.size)
            have R717 := R716.below b17 R716.lt
            clear b17
            go_wp2_with fail
            refine ⟨fun _ => S17, ?_⟩
            refine wpM_held 6 (v := .tuple #[.agg #[.bool false, .slice a17 n17 c17], .agg #[.bool false, .slice e17 f17 g17]]) rfl (by kernel_rfl) (by kernel_rfl) rfl (fun _ _ _ h => h) rfl (by intro wx hx; go_simp <;> rfl) S17 ?_
            refine wpM_held 7 (v := .agg #[.bool false, .slice a17 n17 c17]) rfl (by kernel_rfl) (by kernel_rfl) rfl (fun _ _ _ h => h) rfl (by intro wx hx; go_simp <;> rfl) S17 ?_
            refine wpM_held 8 (v := .agg #[.bool false, .slice e17 f17 g17]) rfl (by kernel_rfl) (by kernel_rfl) rfl (fun _ _ _ h => h) rfl (by intro wx hx; go_simp <;> rfl) S17 ?_
            refine wpM_one 9 rfl (by kernel_rfl) rfl ?_
            go_wp2_with fail
            have R618 := Row.new v17 45 #[.bool false, .slice none 0 0]
            have S18 : Below wr.heap.size wr (v17.alloc (.cells #[.bool false, .slice none 0 0] 45)) := S17.alloc S17.size _
            have L18 : wr.heap.size ≤ v17.heap.size := S17.size
            have N18 := R717.lt
            have R718 := R717.alloc (.cells #[.bool false, .slice none 0 0] 45)
            have D18 := D17.below ((Below.refl _ v17).alloc (Nat.le_refl _) (.cells #[.bool false, .slice none 0 0] 45))
            have E18 := E17.below ((Below.refl _ v17).alloc (Nat.le_refl _) (.cells #[.bool false, .slice none 0 0] 45))
            refine ⟨fun _ => S18, ?_⟩
            clear S17 D17 E17 R717
            generalize v17.alloc (.cells #[.bool false, .slice none 0 0] 45) = v18 at *
            generalize v17.heap.size = K18 at *
            have hne19 : K18 ≠ K16 := by omega
            have P6 := Row.set2 R618 (.bool false) (.slice a17 n17 c17)
            have P7 := (Row.other R718 (K := K18) (by omega) 0 (.bool false)).other (K := K18) (by omega) 1 (.slice a17 n17 c17)
            have Dq := D18.store R618 (.bool false) (.slice a17 n17 c17)
            have Dr := E18.store R618 (.bool false) (.slice a17 n17 c17)
            have Sb := below_set (below_set S18 (B := K18) 0 (.bool false) (by omega)) (B := K18) 1 (.slice a17 n17 c17) (by omega)
            obtain ⟨x0, x1'⟩ := Row.duo R618
            have zf := Row.frozen R618
            refine wpM_one 11 rfl (by kernel_rfl) rfl ?_
            go_wp2_with fail
            refine ⟨fun _ => Sb, ?_⟩
            clear x0 x1' zf R618 R718 D18 E18 S18
            generalize (v18.setCell ⟨K18, 0, none⟩ (.bool false)).setCell ⟨K18, 1, none⟩ (.slice a17 n17 c17) = V9 at *
            have O7 := Row.set2 P7 (.bool false) (.slice e17 f17 g17)
            have O6 := (Row.other P6 (K := K16) (by omega) 0 (.bool false)).other (K := K16) (by omega) 1 (.slice e17 f17 g17)
            have Eq := Dq.store P7 (.bool false) (.slice e17 f17 g17)
            have Er := Dr.store P7 (.bool false) (.slice e17 f17 g17)
            have Sc := below_set (below_set Sb (B := K16) 0 (.bool false) (by omega)) (B := K16) 1 (.slice e17 f17 g17) (by omega)
            obtain ⟨x0, x1'⟩ := Row.duo P7
            have zf := Row.frozen P7
            refine wpM_one 12 rfl (by kernel_rfl) rfl ?_
            go_wp2_with fail
            refine ⟨fun _ => Sc, ?_⟩
            refine wpM_done (by kernel_rfl) ?_
            go_wp2_with fail
            go_meet
            exact ⟨K18, K16, a17, n17, c17, e17, f17, g17, rfl, rfl, hne19, by omega, by omega, O6, O7, Eq, Er, Sc⟩
          · go_wp2_with fail
            have R620 := Row.new v16 45 #[.bool false, .slice none 0 0]
            have S20 : Below wr.heap.size wr (v16.alloc (.cells #[.bool false, .slice none 0 0] 45)) := S16.alloc S16.size _
            have L20 : wr.heap.size ≤ v16.heap.size := S16.size
            have N20 := R716.lt
            have R720 := R716.alloc (.cells #[.bool false, .slice none 0 0] 45)
            have D20 := D16.below ((Below.refl _ v16).alloc (Nat.le_refl _) (.cells #[.bool false, .slice none 0 0] 45))
            refine ⟨fun _ => S20, ?_⟩
            clear S16 D16 R716
            generalize v16.alloc (.cells #[.bool false, .slice none 0 0] 45) = v20 at *
            generalize v16.heap.size = K20 at *
            refine wpM_one 5 rfl (by kernel_rfl) rfl ?_
            go_wp2_with fail
            refine Calls.mono (H3 _ _ _ _ S20 D20).out ?_
            rintro _ v21 ⟨a21, n21, c21, e21, f21, g21, rfl, D21, E21, b21⟩
            have S21 : Below wr.heap.size wr v21 := S20.trans (b21.mono S20.size)
            have R721 := R720.below b21 R720.lt
            have R621 := R620.below b21 R620.lt
            clear b21
            go_wp2_with fail
            refine ⟨fun _ => S21, ?_⟩
            refine wpM_held 6 (v := .tuple #[.agg #[.bool false, .slice a21 n21 c21], .agg #[.bool false, .slice e21 f21 g21]]) rfl (by kernel_rfl) (by kernel_rfl) rfl (fun _ _ _ h => h) rfl (by intro wx hx; go_simp <;> rfl) S21 ?_
            refine wpM_held 7 (v := .agg #[.bool false, .slice a21 n21 c21]) rfl (by kernel_rfl) (by kernel_rfl) rfl (fun _ _ _ h => h) rfl (by intro wx hx; go_simp <;> rfl) S21 ?_
            refine wpM_held 8 (v := .agg #[.bool false, .slice e21 f21 g21]) rfl (by kernel_rfl) (by kernel_rfl) rfl (fun _ _ _ h => h) rfl (by intro wx hx; go_simp <;> rfl) S21 ?_
            have hne22 : K20 ≠ K16 := by omega
            have P6 := Row.set2 R621 (.bool false) (.slice a21 n21 c21)
            have P7 := (Row.other R721 (K := K20) (by omega) 0 (.bool false)).other (K := K20) (by omega) 1 (.slice a21 n21 c21)
            have Dq := D21.store R621 (.bool false) (.slice a21 n21 c21)
            have Dr := E21.store R621 (.bool false) (.slice a21 n21 c21)
            have Sb := below_set (below_set S21 (B := K20) 0 (.bool false) (by omega)) (B := K20) 1 (.slice a21 n21 c21) (by omega)
            obtain ⟨x0, x1'⟩ := Row.duo R621
            have zf := Row.frozen R621
            refine wpM_one 11 rfl (by kernel_rfl) rfl ?_
            go_wp2_with fail
            refine ⟨fun _ => Sb, ?_⟩
            clear x0 x1' zf R621 R721 D21 E21 S21
            generalize (v21.setCell ⟨K20, 0, none⟩ (.bool false)).setCell ⟨K20, 1, none⟩ (.slice a21 n21 c21) = V9 at *
            have O7 := Row.set2 P7 (.bool false) (.slice e21 f21 g21)
            have O6 := (Row.other P6 (K := K16) (by omega) 0 (.bool false)).other (K := K16) (by omega) 1 (.slice e21 f21 g21)
            have Eq := Dq.store P7 (.bool false) (.slice e21 f21 g21)
            have Er := Dr.store P7 (.bool false) (.slice e21 f21 g21)
            have Sc := below_set (below_set Sb (B := K16) 0 (.bool false) (by omega)) (B := K16) 1 (.slice e21 f21 g21) (by omega)
            obtain ⟨x0, x1'⟩ := Row.duo P7
            have zf := Row.frozen P7
            refine wpM_one 12 rfl (by kernel_rfl) rfl ?_
            go_wp2_with fail
            refine ⟨fun _ => Sc, ?_⟩
            refine wpM_done (by kernel_rfl) ?_
            go_wp2_with fail
            go_meet
            exact ⟨K20, K16, a21, n21, c21, e21, f21, g21, rfl, rfl, hne22, by omega, by omega, O6, O7, Eq, Er, Sc⟩
      · go_wp2_with fail
        have R623 : Row (wr.alloc (.cells #[.bool false, .slice none 0 0] 45)).drew wr.heap.size 45 #[.bool false, .slice none 0 0] := Row.new wr 45 #[.bool false, .slice none 0 0]
        have S23 : Below wr.heap.size wr (wr.alloc (.cells #[.bool false, .slice none 0 0] 45)).drew := ((Below.refl _ wr).alloc (Nat.le_refl _) _).drew
        refine ⟨fun _ => S23, ?_⟩
        generalize (wr.alloc (.cells #[.bool false, .slice none 0 0] 45)).drew = v23 at *
        have L23 : wr.heap.size ≤ wr.heap.size := Nat.le_refl _
        refine wpM_two 2 10 rfl rfl (by kernel_rfl) rfl rfl ?_ ?_
        · go_wp2_with fail
          refine Calls.mono (H2 _ S23).out ?_
          rintro _ v24 ⟨a24, n24, c24, rfl, D24, b24⟩
          have S24 : Below wr.heap.size wr v24 := S23.trans (b24.mono S23.size)
          have R624 := R623.below b24 R623.lt
          clear b24
          go_wp2_with fail
          refine ⟨fun _ => S24, ?_⟩
          refine wpM_two 5 10 rfl rfl (by kernel_rfl) rfl rfl ?_ ?_
          · go_wp2_with fail
            refine Calls.mono (H3 _ _ _ _ S24 D24).out ?_
            rintro _ v25 ⟨a25, n25, c25, e25, f25, g25, rfl, D25, E25, b25⟩
            have S25 : Below wr.heap.size wr v25 := S24.trans (b25.mono S24.size)
            have R625 := R624.below b25 R624.lt
            clear b25
            go_wp2_with fail
            refine ⟨fun _ => S25, ?_⟩
            refine wpM_held 6 (v := .tuple #[.agg #[.bool false, .slice a25 n25 c25], .agg #[.bool false, .slice e25 f25 g25]]) rfl (by kernel_rfl) (by kernel_rfl) rfl (fun _ _ _ h => h) rfl (by intro wx hx; go_simp <;> rfl) S25 ?_
            refine wpM_held 7 (v := .agg #[.bool false, .slice a25 n25 c25]) rfl (by kernel_rfl) (by kernel_rfl) rfl (fun _ _ _ h => h) rfl (by intro wx hx; go_simp <;> rfl) S25 ?_
            refine wpM_held 8 (v := .agg #[.bool false, .slice e25 f25 g25]) rfl (by kernel_rfl) (by kernel_rfl) rfl (fun _ _ _ h => h) rfl (by intro wx hx; go_simp <;> rfl) S25 ?_
            refine wpM_one 10 rfl (by kernel_rfl) rfl ?_
            go_wp2_with fail
            have R726 := Row.new v25 45 #[.bool false, .slice none 0 0]
            have S26 : Below wr.heap.size wr (v25.alloc (.cells #[.bool false, .slice none 0 0] 45)) := S25.alloc S25.size _
            have L26 : wr.heap.size ≤ v25.heap.size := S25.size
            have N26 := R625.lt
            have R626 := R625.alloc (.cells #[.bool false, .slice none 0 0] 45)
            have D26 := D25.below ((Below.refl _ v25).alloc (Nat.le_refl _) (.cells #[.bool false, .slice none 0 0] 45))
            have E26 := E25.below ((Below.refl _ v25).alloc (Nat.le_refl _) (.cells #[.bool false, .slice none 0 0] 45))
            refine ⟨fun _ => S26, ?_⟩
            clear S25 D25 E25 R625
            generalize v25.alloc (.cells #[.bool false, .slice none 0 0] 45) = v26 at *
            generalize v25.heap.size = K26 at *
            have hne27 : wr.heap.size ≠ K26 := by omega
            have P6 := Row.set2 R626 (.bool false) (.slice a25 n25 c25)
            have P7 := (Row.other R726 (K := wr.heap.size) (by omega) 0 (.bool false)).other (K := wr.heap.size) (by omega) 1 (.slice a25 n25 c25)
            have Dq := D26.store R626 (.bool false) (.slice a25 n25 c25)
            have Dr := E26.store R626 (.bool false) (.slice a25 n25 c25)
            have Sb := below_set (below_set S26 (B := wr.heap.size) 0 (.bool false) (by omega)) (B := wr.heap.size) 1 (.slice a25 n25 c25) (by omega)
            obtain ⟨x0, x1'⟩ := Row.duo R626
            have zf := Row.frozen R626
            refine wpM_one 11 rfl (by kernel_rfl) rfl ?_
            go_wp2_with fail
            refine ⟨fun _ => Sb, ?_⟩
            clear x0 x1' zf R626 R726 D26 E26 S26
            generalize (v26.setCell ⟨wr.heap.size, 0, none⟩ (.bool false)).setCell ⟨wr.heap.size, 1, none⟩ (.slice a25 n25 c25) = V9 at *
            have O7 := Row.set2 P7 (.bool false) (.slice e25 f25 g25)
            have O6 := (Row.other P6 (K := K26) (by omega) 0 (.bool false)).other (K := K26) (by omega) 1 (.slice e25 f25 g25)
            have Eq := Dq.store P7 (.bool false) (.slice e25 f25 g25)
            have Er := Dr.store P7 (.bool false) (.slice e25 f25 g25)
            have Sc := below_set (below_set Sb (B := K26) 0 (.bool false) (by omega)) (B := K26) 1 (.slice e25 f25 g25) (by omega)
            obtain ⟨x0, x1'⟩ := Row.duo P7
            have zf := Row.frozen P7
            refine wpM_one 12 rfl (by kernel_rfl) rfl ?_
            go_wp2_with fail
            refine ⟨fun _ => Sc, ?_⟩
            refine wpM_done (by kernel_rfl) ?_
            go_wp2_with fail
            go_meet
            exact ⟨wr.heap.size, K26, a25, n25, c25, e25, f25, g25, rfl, rfl, hne27, by omega, by omega, O6, O7, Eq, Er, Sc⟩
          · go_wp2_with fail
            have R728 := Row.new v24 45 #[.bool false, .slice none 0 0]
            have S28 : Below wr.heap.size wr (v24.alloc (.cells #[.bool false, .slice none 0 0] 45)) := S24.alloc S24.size _
            have L28 : wr.heap.size ≤ v24.heap.size := S24.size
            have N28 := R624.lt
            have R628 := R624.alloc (.cells #[.bool false, .slice none 0 0] 45)
            have D28 := D24.below ((Below.refl _ v24).alloc (Nat.le_refl _) (.cells #[.bool false, .slice none 0 0] 45))
            refine ⟨fun _ => S28, ?_⟩
            clear S24 D24 R624
            generalize v24.alloc (.cells #[.bool false, .slice none 0 0] 45) = v28 at *
            generalize v24.heap.size = K28 at *
            refine wpM_one 5 rfl (by kernel_rfl) rfl ?_
            go_wp2_with fail
            refine Calls.mono (H3 _ _ _ _ S28 D28).out ?_
            rintro _ v29 ⟨a29, n29, c29, e29, f29, g29, rfl, D29, E29, b29⟩
            have S29 : Below wr.heap.size wr v29 := S28.trans (b29.mono S28.size)
            have R629 := R628.below b29 R628.lt
            have R729 := R728.below b29 R728.lt
            clear b29
            go_wp2_with fail
            refine ⟨fun _ => S29, ?_⟩
            refine wpM_held 6 (v := .tuple #[.agg #[.bool false, .slice a29 n29 c29], .agg #[.bool false, .slice e29 f29 g29]]) rfl (by kernel_rfl) (by kernel_rfl) rfl (fun _ _ _ h => h) rfl (by intro wx hx; go_simp <;> rfl) S29 ?_
            refine wpM_held 7 (v := .agg #[.bool false, .slice a29 n29 c29]) rfl (by kernel_rfl) (by kernel_rfl) rfl (fun _ _ _ h => h) rfl (by intro wx hx; go_simp <;> rfl) S29 ?_
            refine wpM_held 8 (v := .agg #[.bool false, .slice e29 f29 g29]) rfl (by kernel_rfl) (by kernel_rfl) rfl (fun _ _ _ h => h) rfl (by intro wx hx; go_simp <;> rfl) S29 ?_
            have hne30 : wr.heap.size ≠ K28 := by omega
            have P6 := Row.set2 R629 (.bool false) (.slice a29 n29 c29)
            have P7 := (Row.other R729 (K := wr.heap.size) (by omega) 0 (.bool false)).other (K := wr.heap.size) (by omega) 1 (.slice a29 n29 c29)
            have Dq := D29.store R629 (.bool false) (.slice a29 n29 c29)
            have Dr := E29.store R629 (.bool false) (.slice a29 n29 c29)
            have Sb := below_set (below_set S29 (B := wr.heap.size) 0 (.bool false) (by omega)) (B := wr.heap.size) 1 (.slice a29 n29 c29) (by omega)
            obtain ⟨x0, x1'⟩ := Row.duo R629
            have zf := Row.frozen R629
            refine wpM_one 11 rfl (by kernel_rfl) rfl ?_
            go_wp2_with fail
            refine ⟨fun _ => Sb, ?_⟩
            clear x0 x1' zf R629 R729 D29 E29 S29
            generalize (v29.setCell ⟨wr.heap.size, 0, none⟩ (.bool false)).setCell ⟨wr.heap.size, 1, none⟩ (.slice a29 n29 c29) = V9 at *
            have O7 := Row.set2 P7 (.bool false) (.slice e29 f29 g29)
            have O6 := (Row.other P6 (K := K28) (by omega) 0 (.bool false)).other (K := K28) (by omega) 1 (.slice e29 f29 g29)
            have Eq := Dq.store P7 (.bool false) (.slice e29 f29 g29)
            have Er := Dr.store P7 (.bool false) (.slice e29 f29 g29)
            have Sc := below_set (below_set Sb (B := K28) 0 (.bool false) (by omega)) (B := K28) 1 (.slice e29 f29 g29) (by omega)
            obtain ⟨x0, x1'⟩ := Row.duo P7
            have zf := Row.frozen P7
            refine wpM_one 12 rfl (by kernel_rfl) rfl ?_
            go_wp2_with fail
            refine ⟨fun _ => Sc, ?_⟩
            refine wpM_done (by kernel_rfl) ?_
            go_wp2_with fail
            go_meet
            exact ⟨wr.heap.size, K28, a29, n29, c29, e29, f29, g29, rfl, rfl, hne30, by omega, by omega, O6, O7, Eq, Er, Sc⟩
        · go_wp2_with fail
          have R731 := Row.new v23 45 #[.bool false, .slice none 0 0]
          have S31 : Below wr.heap.size wr (v23.alloc (.cells #[.bool false, .slice none 0 0] 45)) := S23.alloc S23.size _
          have L31 : wr.heap.size ≤ v23.heap.size := S23.size
          have N31 := R623.lt
          have R631 := R623.alloc (.cells #[.bool false, .slice none 0 0] 45)
          refine ⟨fun _ => S31, ?_⟩
          clear S23  R623
          generalize v23.alloc (.cells #[.bool false, .slice none 0 0] 45) = v31 at *
          generalize v23.heap.size = K31 at *
          refine wpM_one 2 rfl (by kernel_rfl) rfl ?_
          go_wp2_with fail
          refine Calls.mono (H2 _ S31).out ?_
          rintro _ v32 ⟨a32, n32, c32, rfl, D32, b32⟩
          have S32 : Below wr.heap.size wr v32 := S31.trans (b32.mono S31.size)
          have R632 := R631.below b32 R631.lt
          have R732 := R731.below b32 R731.lt
          clear b32
          go_wp2_with fail
          refine ⟨fun _ => S32, ?_⟩
          refine wpM_one 5 rfl (by kernel_rfl) rfl ?_
          go_wp2_with fail
          refine Calls.mono (H3 _ _ _ _ S32 D32).out ?_
          rintro _ v33 ⟨a33, n33, c33, e33, f33, g33, rfl, D33, E33, b33⟩
          have S33 : Below wr.heap.size wr v33 := S32.trans (b33.mono S32.size)
          have R633 := R632.below b33 R632.lt
          have R733 := R732.below b33 R732.lt
          clear b33
          go_wp2_with fail
          refine ⟨fun _ => S33, ?_⟩
          refine wpM_held 6 (v := .tuple #[.agg #[.bool false, .slice a33 n33 c33], .agg #[.bool false, .slice e33 f33 g33]]) rfl (by kernel_rfl) (by kernel_rfl) rfl (fun _ _ _ h => h) rfl (by intro wx hx; go_simp <;> rfl) S33 ?_
          refine wpM_held 7 (v := .agg #[.bool false, .slice a33 n33 c33]) rfl (by kernel_rfl) (by kernel_rfl) rfl (fun _ _ _ h => h) rfl (by intro wx hx; go_simp <;> rfl) S33 ?_
          refine wpM_held 8 (v := .agg #[.bool false, .slice e33 f33 g33]) rfl (by kernel_rfl) (by kernel_rfl) rfl (fun _ _ _ h => h) rfl (by intro wx hx; go_simp <;> rfl) S33 ?_
          have hne34 : wr.heap.size ≠ K31 := by omega
          have P6 := Row.set2 R633 (.bool false) (.slice a33 n33 c33)
          have P7 := (Row.other R733 (K := wr.heap.size) (by omega) 0 (.bool false)).other (K := wr.heap.size) (by omega) 1 (.slice a33 n33 c33)
          have Dq := D33.store R633 (.bool false) (.slice a33 n33 c33)
          have Dr := E33.store R633 (.bool false) (.slice a33 n33 c33)
          have Sb := below_set (below_set S33 (B := wr.heap.size) 0 (.bool false) (by omega)) (B := wr.heap.size) 1 (.slice a33 n33 c33) (by omega)
          obtain ⟨x0, x1'⟩ := Row.duo R633
          have zf := Row.frozen R633
          refine wpM_one 11 rfl (by kernel_rfl) rfl ?_
          go_wp2_with fail
          refine ⟨fun _ => Sb, ?_⟩
          clear x0 x1' zf R633 R733 D33 E33 S33
          generalize (v33.setCell ⟨wr.heap.size, 0, none⟩ (.bool false)).setCell ⟨wr.heap.size, 1, none⟩ (.slice a33 n33 c33) = V9 at *
          have O7 := Row.set2 P7 (.bool false) (.slice e33 f33 g33)
          have O6 := (Row.other P6 (K := K31) (by omega) 0 (.bool false)).other (K := K31) (by omega) 1 (.slice e33 f33 g33)
          have Eq := Dq.store P7 (.bool false) (.slice e33 f33 g33)
          have Er := Dr.store P7 (.bool false) (.slice e33 f33 g33)
          have Sc := below_set (below_set Sb (B := K31) 0 (.bool false) (by omega)) (B := K31) 1 (.slice e33 f33 g33) (by omega)
          obtain ⟨x0, x1'⟩ := Row.duo P7
          have zf := Row.frozen P7
          refine wpM_one 12 rfl (by kernel_rfl) rfl ?_
          go_wp2_with fail
          refine ⟨fun _ => Sc, ?_⟩
          refine wpM_done (by kernel_rfl) ?_
          go_wp2_with fail
          go_meet
          exact ⟨wr.heap.size, K31, a33, n33, c33, e33, f33, g33, rfl, rfl, hne34, by omega, by omega, O6, O7, Eq, Er, Sc⟩
      · go_wp2_with fail
        have R735 : Row (wr.alloc (.cells #[.bool false, .slice none 0 0] 45)).drew wr.heap.size 45 #[.bool false, .slice none 0 0] := Row.new wr 45 #[.bool false, .slice none 0 0]
        have S35 : Below wr.heap.size wr (wr.alloc (.cells #[.bool false, .slice none 0 0] 45)).drew := ((Below.refl _ wr).alloc (Nat.le_refl _) _).drew
        refine ⟨fun _ => S35, ?_⟩
        generalize (wr.alloc (.cells #[.bool false, .slice none 0 0] 45)).drew = v35 at *
        have L35 : wr.heap.size ≤ wr.heap.size := Nat.le_refl _
        refine wpM_two 2 9 rfl rfl (by kernel_rfl) rfl rfl ?_ ?_
        · go_wp2_with fail
          refine Calls.mono (H2 _ S35).out ?_
          rintro _ v36 ⟨a36, n36, c36, rfl, D36, b36⟩
          have S36 : Below wr.heap.size wr v36 := S35.trans (b36.mono S35.size)
          have R736 := R735.below b36 R735.lt
          clear b36
          go_wp2_with fail
          refine ⟨fun _ => S36, ?_⟩
          refine wpM_two 5 9 rfl rfl (by kernel_rfl) rfl rfl ?_ ?_
          · go_wp2_with fail
            refine Calls.mono (H3 _ _ _ _ S36 D36).out ?_
            rintro _ v37 ⟨a37, n37, c37, e37, f37, g37, rfl, D37, E37, b37⟩
            have S37 : Below wr.heap.size wr v37 := S36.trans (b37.mono S36.size)
            have R737 := R736.below b37 R736.lt
            clear b37
            go_wp2_with fail
            refine ⟨fun _ => S37, ?_⟩
            refine wpM_held 6 (v := .tuple #[.agg #[.bool false, .slice a37 n37 c37], .agg #[.bool false, .slice e37 f37 g37]]) rfl (by kernel_rfl) (by kernel_rfl) rfl (fun _ _ _ h => h) rfl (by intro wx hx; go_simp <;> rfl) S37 ?_
            refine wpM_held 7 (v := .agg #[.bool false, .slice a37 n37 c37]) rfl (by kernel_rfl) (by kernel_rfl) rfl (fun _ _ _ h => h) rfl (by intro wx hx; go_simp <;> rfl) S37 ?_
            refine wpM_held 8 (v := .agg #[.bool false, .slice e37 f37 g37]) rfl (by kernel_rfl) (by kernel_rfl) rfl (fun _ _ _ h => h) rfl (by intro wx hx; go_simp <;> rfl) S37 ?_
            refine wpM_one 9 rfl (by kernel_rfl) rfl ?_
            go_wp2_with fail
            have R638 := Row.new v37 45 #[.bool false, .slice none 0 0]
            have S38 : Below wr.heap.size wr (v37.alloc (.cells #[.bool false, .slice none 0 0] 45)) := S37.alloc S37.size _
            have L38 : wr.heap.size ≤ v37.heap.size := S37.size
            have N38 := R737.lt
            have R738 := R737.alloc (.cells #[.bool false, .slice none 0 0] 45)
            have D38 := D37.below ((Below.refl _ v37).alloc (Nat.le_refl _) (.cells #[.bool false, .slice none 0 0] 45))
            have E38 := E37.below ((Below.refl _ v37).alloc (Nat.le_refl _) (.cells #[.bool false, .slice none 0 0] 45))
            refine ⟨fun _ => S38, ?_⟩
            clear S37 D37 E37 R737
            generalize v37.alloc (.cells #[.bool false, .slice none 0 0] 45) = v38 at *
            generalize v37.heap.size = K38 at *
            have hne39 : K38 ≠ wr.heap.size := by omega
            have P6 := Row.set2 R638 (.bool false) (.slice a37 n37 c37)
            have P7 := (Row.other R738 (K := K38) (by omega) 0 (.bool false)).other (K := K38) (by omega) 1 (.slice a37 n37 c37)
            have Dq := D38.store R638 (.bool false) (.slice a37 n37 c37)
            have Dr := E38.store R638 (.bool false) (.slice a37 n37 c37)
            have Sb := below_set (below_set S38 (B := K38) 0 (.bool false) (by omega)) (B := K38) 1 (.slice a37 n37 c37) (by omega)
            obtain ⟨x0, x1'⟩ := Row.duo R638
            have zf := Row.frozen R638
            refine wpM_one 11 rfl (by kernel_rfl) rfl ?_
            go_wp2_with fail
            refine ⟨fun _ => Sb, ?_⟩
            clear x0 x1' zf R638 R738 D38 E38 S38
            generalize (v38.setCell ⟨K38, 0, none⟩ (.bool false)).setCell ⟨K38, 1, none⟩ (.slice a37 n37 c37) = V9 at *
            have O7 := Row.set2 P7 (.bool false) (.slice e37 f37 g37)
            have O6 := (Row.other P6 (K := wr.heap.size) (by omega) 0 (.bool false)).other (K := wr.heap.size) (by omega) 1 (.slice e37 f37 g37)
            have Eq := Dq.store P7 (.bool false) (.slice e37 f37 g37)
            have Er := Dr.store P7 (.bool false) (.slice e37 f37 g37)
            have Sc := below_set (below_set Sb (B := wr.heap.size) 0 (.bool false) (by omega)) (B := wr.heap.size) 1 (.slice e37 f37 g37) (by omega)
            obtain ⟨x0, x1'⟩ := Row.duo P7
            have zf := Row.frozen P7
            refine wpM_one 12 rfl (by kernel_rfl) rfl ?_
            go_wp2_with fail
            refine ⟨fun _ => Sc, ?_⟩
            refine wpM_done (by kernel_rfl) ?_
            go_wp2_with fail
            go_meet
            exact ⟨K38, wr.heap.size, a37, n37, c37, e37, f37, g37, rfl, rfl, hne39, by omega, by omega, O6, O7, Eq, Er, Sc⟩
          · go_wp2_with fail
            have R640 := Row.new v36 45 #[.bool false, .slice none 0 0]
            have S40 : Below wr.heap.size wr (v36.alloc (.cells #[.bool false, .slice none 0 0] 45)) := S36.alloc S36.size _
            have L40 : wr.heap.size ≤ v36.heap.size := S36.size
            have N40 := R736.lt
            have R740 := R736.alloc (.cells #[.bool false, .slice none 0 0] 45)
            have D40 := D36.below ((Below.refl _ v36).alloc (Nat.le_refl _) (.cells #[.bool false, .slice none 0 0] 45))
            refine ⟨fun _ => S40, ?_⟩
            clear S36 D36 R736
            generalize v36.alloc (.cells #[.bool false, .slice none 0 0] 45) = v40 at *
            generalize v36.heap.size = K40 at *
            refine wpM_one 5 rfl (by kernel_rfl) rfl ?_
            go_wp2_with fail
            refine Calls.mono (H3 _ _ _ _ S40 D40).out ?_
            rintro _ v41 ⟨a41, n41, c41, e41, f41, g41, rfl, D41, E41, b41⟩
            have S41 : Below wr.heap.size wr v41 := S40.trans (b41.mono S40.size)
            have R741 := R740.below b41 R740.lt
            have R641 := R640.below b41 R640.lt
            clear b41
            go_wp2_with fail
            refine ⟨fun _ => S41, ?_⟩
            refine wpM_held 6 (v := .tuple #[.agg #[.bool false, .slice a41 n41 c41], .agg #[.bool false, .slice e41 f41 g41]]) rfl (by kernel_rfl) (by kernel_rfl) rfl (fun _ _ _ h => h) rfl (by intro wx hx; go_simp <;> rfl) S41 ?_
            refine wpM_held 7 (v := .agg #[.bool false, .slice a41 n41 c41]) rfl (by kernel_rfl) (by kernel_rfl) rfl (fun _ _ _ h => h) rfl (by intro wx hx; go_simp <;> rfl) S41 ?_
            refine wpM_held 8 (v := .agg #[.bool false, .slice e41 f41 g41]) rfl (by kernel_rfl) (by kernel_rfl) rfl (fun _ _ _ h => h) rfl (by intro wx hx; go_simp <;> rfl) S41 ?_
            have hne42 : K40 ≠ wr.heap.size := by omega
            have P6 := Row.set2 R641 (.bool false) (.slice a41 n41 c41)
            have P7 := (Row.other R741 (K := K40) (by omega) 0 (.bool false)).other (K := K40) (by omega) 1 (.slice a41 n41 c41)
            have Dq := D41.store R641 (.bool false) (.slice a41 n41 c41)
            have Dr := E41.store R641 (.bool false) (.slice a41 n41 c41)
            have Sb := below_set (below_set S41 (B := K40) 0 (.bool false) (by omega)) (B := K40) 1 (.slice a41 n41 c41) (by omega)
            obtain ⟨x0, x1'⟩ := Row.duo R641
            have zf := Row.frozen R641
            refine wpM_one 11 rfl (by kernel_rfl) rfl ?_
            go_wp2_with fail
            refine ⟨fun _ => Sb, ?_⟩
            clear x0 x1' zf R641 R741 D41 E41 S41
            generalize (v41.setCell ⟨K40, 0, none⟩ (.bool false)).setCell ⟨K40, 1, none⟩ (.slice a41 n41 c41) = V9 at *
            have O7 := Row.set2 P7 (.bool false) (.slice e41 f41 g41)
            have O6 := (Row.other P6 (K := wr.heap.size) (by omega) 0 (.bool false)).other (K := wr.heap.size) (by omega) 1 (.slice e41 f41 g41)
            have Eq := Dq.store P7 (.bool false) (.slice e41 f41 g41)
            have Er := Dr.store P7 (.bool false) (.slice e41 f41 g41)
            have Sc := below_set (below_set Sb (B := wr.heap.size) 0 (.bool false) (by omega)) (B := wr.heap.size) 1 (.slice e41 f41 g41) (by omega)
            obtain ⟨x0, x1'⟩ := Row.duo P7
            have zf := Row.frozen P7
            refine wpM_one 12 rfl (by kernel_rfl) rfl ?_
            go_wp2_with fail
            refine ⟨fun _ => Sc, ?_⟩
            refine wpM_done (by kernel_rfl) ?_
            go_wp2_with fail
            go_meet
            exact ⟨K40, wr.heap.size, a41, n41, c41, e41, f41, g41, rfl, rfl, hne42, by omega, by omega, O6, O7, Eq, Er, Sc⟩
        · go_wp2_with fail
          have R643 := Row.new v35 45 #[.bool false, .slice none 0 0]
          have S43 : Below wr.heap.size wr (v35.alloc (.cells #[.bool false, .slice none 0 0] 45)) := S35.alloc S35.size _
          have L43 : wr.heap.size ≤ v35.heap.size := S35.size
          have N43 := R735.lt
          have R743 := R735.alloc (.cells #[.bool false, .slice none 0 0] 45)
          refine ⟨fun _ => S43, ?_⟩
          clear S35  R735
          generalize v35.alloc (.cells #[.bool false, .slice none 0 0] 45) = v43 at *
          generalize v35.heap.size = K43 at *
          refine wpM_one 2 rfl (by kernel_rfl) rfl ?_
          go_wp2_with fail
          refine Calls.mono (H2 _ S43).out ?_
          rintro _ v44 ⟨a44, n44, c44, rfl, D44, b44⟩
          have S44 : Below wr.heap.size wr v44 := S43.trans (b44.mono S43.size)
          have R744 := R743.below b44 R743.lt
          have R644 := R643.below b44 R643.lt
          clear b44
          go_wp2_with fail
          refine ⟨fun _ => S44, ?_⟩
          refine wpM_one 5 rfl (by kernel_rfl) rfl ?_
          go_wp2_with fail
          refine Calls.mono (H3 _ _ _ _ S44 D44).out ?_
          rintro _ v45 ⟨a45, n45, c45, e45, f45, g45, rfl, D45, E45, b45⟩
          have S45 : Below wr.heap.size wr v45 := S44.trans (b45.mono S44.size)
          have R745 := R744.below b45 R744.lt
          have R645 := R644.below b45 R644.lt
          clear b45
          go_wp2_with fail
          refine ⟨fun _ => S45, ?_⟩
          refine wpM_held 6 (v := .tuple #[.agg #[.bool false, .slice a45 n45 c45], .agg #[.bool false, .slice e45 f45 g45]]) rfl (by kernel_rfl) (by kernel_rfl) rfl (fun _ _ _ h => h) rfl (by intro wx hx; go_simp <;> rfl) S45 ?_
          refine wpM_held 7 (v := .agg #[.bool false, .slice a45 n45 c45]) rfl (by kernel_rfl) (by kernel_rfl) rfl (fun _ _ _ h => h) rfl (by intro wx hx; go_simp <;> rfl) S45 ?_
          refine wpM_held 8 (v := .agg #[.bool false, .slice e45 f45 g45]) rfl (by kernel_rfl) (by kernel_rfl) rfl (fun _ _ _ h => h) rfl (by intro wx hx; go_simp <;> rfl) S45 ?_
          have hne46 : K43 ≠ wr.heap.size := by omega
          have P6 := Row.set2 R645 (.bool false) (.slice a45 n45 c45)
          have P7 := (Row.other R745 (K := K43) (by omega) 0 (.bool false)).other (K := K43) (by omega) 1 (.slice a45 n45 c45)
          have Dq := D45.store R645 (.bool false) (.slice a45 n45 c45)
          have Dr := E45.store R645 (.bool false) (.slice a45 n45 c45)
          have Sb := below_set (below_set S45 (B := K43) 0 (.bool false) (by omega)) (B := K43) 1 (.slice a45 n45 c45) (by omega)
          obtain ⟨x0, x1'⟩ := Row.duo R645
          have zf := Row.frozen R645
          refine wpM_one 11 rfl (by kernel_rfl) rfl ?_
          go_wp2_with fail
          refine ⟨fun _ => Sb, ?_⟩
          clear x0 x1' zf R645 R745 D45 E45 S45
          generalize (v45.setCell ⟨K43, 0, none⟩ (.bool false)).setCell ⟨K43, 1, none⟩ (.slice a45 n45 c45) = V9 at *
          have O7 := Row.set2 P7 (.bool false) (.slice e45 f45 g45)
          have O6 := (Row.other P6 (K := wr.heap.size) (by omega) 0 (.bool false)).other (K := wr.heap.size) (by omega) 1 (.slice e45 f45 g45)
          have Eq := Dq.store P7 (.bool false) (.slice e45 f45 g45)
          have Er := Dr.store P7 (.bool false) (.slice e45 f45 g45)
          have Sc := below_set (below_set Sb (B := wr.heap.size) 0 (.bool false) (by omega)) (B := wr.heap.size) 1 (.slice e45 f45 g45) (by omega)
          obtain ⟨x0, x1'⟩ := Row.duo P7
          have zf := Row.frozen P7
          refine wpM_one 12 rfl (by kernel_rfl) rfl ?_
          go_wp2_with fail
          refine ⟨fun _ => Sc, ?_⟩
          refine wpM_done (by kernel_rfl) ?_
          go_wp2_with fail
          go_meet
          exact ⟨K43, wr.heap.size, a45, n45, c45, e45, f45, g45, rfl, rfl, hne46, by omega, by omega, O6, O7, Eq, Er, Sc⟩
  case rest =>
    obtain ⟨K6, K7, aq, nq, cq, ar, nr, cr, rfl, rfl, hne, h6, h7, P6, P7, HQ, HR, HS⟩ := hcut
    have hX6 : X < wr.heap.size := px.lt
    have hY6 : Y < wr.heap.size := py.lt
    have hZ6 : w.heap.size + 1 + 1 < wr.heap.size := hrx.lt
    have HQB : Hid (A / B < 10 ^ 110) := Nat.lt_of_le_of_lt (Nat.div_le_self _ _) HA0.out
    obtain ⟨Q, HQe⟩ : ∃ Q, Hid (A / B = Q) := ⟨_, rfl⟩
    obtain ⟨R, HRe⟩ : ∃ R, Hid (A % B = R) := ⟨_, rfl⟩
    rw [HQe.out] at HQ HQB
    rw [HRe.out] at HR
    have HDV : Hid (rv = decV (if R = 0 then tellW (nc != nd) Q (e - f - 90) else none)) := by show _ = _; rw [← HRV.out, HQe.out, HRe.out, HNC.out, HND.out]
    have xw := px.below HS.out px.lt
    have yw := py.below HS.out py.lt
    have rz := hrx.below HS.out hrx.lt
    have hBw := hBe.trans (HS.out.mono hBe.size)
    obtain ⟨_, a9, c9, hsr, _, _⟩ := id HR.out
    have HNR : Hid (nr = (digs R).length) := by cases hsr; rfl
    clear hsr px py hrx hBe H2 H3 HS eX eY
    obtain ⟨g0, g1⟩ := P7.duo
    by_cases hR : R = 0
    · have hnr : nr = 0 := by rw [HNR.out, hR, digs_zero]; rfl
      subst hnr
      obtain ⟨sq, hsq⟩ : ∃ sq, (!(nc == nd)) = sq := ⟨_, rfl⟩
      have HRES : Hid (rv = decV (tell (bval sq (digs Q)) (e - f - 90))) := by
        show _ = _
        rw [HDV.out, if_pos hR, tell_sg, show (nc != nd) = sq from hsq]
      clear hR HDV HNR HR
      obtain ⟨f0, f1, f2⟩ := xw.tri
      obtain ⟨m0, m1, m2⟩ := yw.tri
      obtain ⟨i0, i1⟩ := P6.duo
      have zf := P6.frozen
      have T6 : Row (wc.setCell ⟨K6, 0, none⟩ (.bool sq)) K6 45 #[.bool sq, .slice aq nq cq] := P6.set 0 _
      have TX := xw.other (K := K6) (by omega) 0 (.bool sq)
      have TY := yw.other (K := K6) (by omega) 0 (.bool sq)
      have TZ := rz.other (K := K6) (by omega) 0 (.bool sq)
      have hB4 := below_set hBw (B := K6) 0 (.bool sq) (by omega)
      have DT : DgAt (wc.setCell ⟨K6, 0, none⟩ (.bool sq)) (.slice aq nq cq) (digs Q) := DgAt.setd HQ.out P6 _
      go_upto_region 11 with fail
      clear f0 f1 f2 m0 m1 m2 i0 i1 zf P6 P7 xw yw rz HQ hBw g0 g1
      generalize wc.setCell ⟨K6, 0, none⟩ (.bool sq) = wj at *
      have lQ : (digs Q).length ≤ 110 := digs_len _ 110 HQB.out
      have HTR : ∀ V, Below wj.heap.size wj V → Hid (Calls Tryd.prog 59 #[.agg #[.bool sq, .slice aq nq cq]] V _) := fun V hV => trim_any sq _ (digs Q) V (DT.below hV) (digs_dg _) (Nat.le_trans lQ (by decide))
      obtain ⟨fin, HFI⟩ : ∃ fin, Hid (bval sq (digs Q) = fin) := ⟨_, rfl⟩
      have HFL : Hid ((digs fin.natAbs).length ≤ 500) := by
        have e1 : fin.natAbs = Q := by
          rw [← HFI.out]; unfold bval; rw [dval_digs]; cases sq <;> simp
        rw [e1]
        exact Nat.le_trans lQ (by decide)
      rw [HFI.out] at HTR HRES
      obtain ⟨p, q, er, hdv⟩ := decV_form (tell fin (e - f - 90))
      rw [hdv] at HRES
      have HTE : ∀ V s, DgAt V s (digs fin.natAbs) → Hid (Calls Tryd.prog 45 #[.agg #[.bool (decide (fin < 0)), s, .int .i64 (e - f - 90)]] V fun r w' => r = .returned (.tuple #[.agg #[.int .i64 p, .int .i64 q], .int .i64 er]) ∧ Below V.heap.size V w') := fun V s h => by
        have := told_any' fin (e - f - 90) _ V ⟨s, rfl, h⟩ (by omega) (by omega) HFL.out
        rw [hdv] at this
        exact this
      clear hdv lQ DT
      have fw1 : IntKind.i64.wrap (e - f) = e - f := IntWalk.i64_in _ ⟨by omega, by omega⟩
      have fw2 : IntKind.i64.wrap (e - f - 90) = e - f - 90 := IntWalk.i64_in _ ⟨by omega, by omega⟩
      have hS : Below wj.heap.size wj wj.drew := (Below.refl _ wj).drew
      have t6 : ∀ wx, Below wj.heap.size wj wx → wx.cell? ⟨K6, 0, none⟩ = some (.bool sq) ∧ wx.cell? ⟨K6, 1, none⟩ = some (.slice aq nq cq) := fun wx hx => (T6.below hx T6.lt).duo
      have trx : ∀ wx, Below wj.heap.size wj wx → wx.cell? ⟨X, 0, none⟩ = some (.bool nc) ∧ wx.cell? ⟨X, 1, none⟩ = some (.slice a1 lc c1) ∧ wx.cell? ⟨X, 2, none⟩ = some (.int .i64 e) := fun wx hx => (TX.below hx TX.lt).tri
      have tr2 : ∀ wx, Below wj.heap.size wj wx → wx.cell? ⟨Y, 0, none⟩ = some (.bool nd) ∧ wx.cell? ⟨Y, 1, none⟩ = some (.slice a2 ld c2) ∧ wx.cell? ⟨Y, 2, none⟩ = some (.int .i64 f) := fun wx hx => (TY.below hx TY.lt).tri
      refine wp_region_M (fun wx : World => Below wj.heap.size wj wx) (fun j => decide (j < 12)) 14 rfl (by kernel_rfl) ?_
      refine wpM_held 0 (v := .agg #[.bool sq, .slice aq nq cq]) rfl (by kernel_rfl) (by kernel_rfl) rfl (fun _ _ _ h => h) rfl (by intro wx hx; obtain ⟨x0, x1⟩ := t6 wx hx; go_simp <;> rfl) hS ?_
      refine wpM_held 2 (v := ?_) rfl (by kernel_rfl) (by kernel_rfl) rfl (fun _ _ _ h => h) rfl (by intro wx hx; go_simp <;> rfl) hS ?_
      refine wpM_held 3 (v := .int .i64 e) rfl (by kernel_rfl) (by kernel_rfl) rfl (fun _ _ _ h => h) rfl (by intro wx hx; obtain ⟨x0, x1, x2⟩ := trx wx hx; go_simp <;> rfl) hS ?_
      refine wpM_held 4 (v := ?_) rfl (by kernel_rfl) (by kernel_rfl) rfl (fun _ _ _ h => h) rfl (by intro wx hx; go_simp <;> rfl) hS ?_
      refine wpM_held 5 (v := .int .i64 f) rfl (by kernel_rfl) (by kernel_rfl) rfl (fun _ _ _ h => h) rfl (by intro wx hx; obtain ⟨x0, x1, x2⟩ := tr2 wx hx; go_simp <;> rfl) hS ?_
      refine wpM_held 6 (v := .int .i64 (e - f)) rfl (by kernel_rfl) (by kernel_rfl) rfl (fun _ _ _ h => h) rfl (by intro wx hx; go_simp <;> first | rfl | exact fw1) hS ?_
      refine wpM_held 7 (v := .int .i64 (e - f - 90)) rfl (by kernel_rfl) (by kernel_rfl) rfl (fun _ _ _ h => h) rfl (by intro wx hx; go_simp <;> first | rfl | exact fw2) hS ?_
      refine wpM_one 1 rfl (by kernel_rfl) rfl ?_
      go_wp2_with fail
      refine Calls.mono (HTR _ hS).out ?_
      rintro _ wb ⟨v2, rfl, hV2, b4⟩
      have hWb : Below wj.heap.size wj wb := hS.trans (b4.mono hS.size)
      clear b4 HTR
      obtain ⟨s2, rfl, hD2⟩ := hV2
      have HTE := HTE wb s2 hD2
      obtain ⟨_, a6, c6, rfl, _, _⟩ := id hD2
      unfold bv
      obtain ⟨nz, HNZ⟩ : ∃ nz, Hid (decide (fin < 0) = nz) := ⟨_, rfl⟩
      obtain ⟨n6, HN6⟩ : ∃ n6 : Nat, Hid ((digs fin.natAbs).length = n6) := ⟨_, rfl⟩
      rw [HNZ.out, HN6.out] at HTE
      rw [HNZ.out, HN6.out]
      clear hD2
      go_wp2_with fail
      refine ⟨fun _ => hWb, ?_⟩
      refine wpM_one 8 rfl (by kernel_rfl) rfl ?_
      go_wp2_with fail
      refine ⟨fun _ => hWb, ?_⟩
      refine wpM_one 9 rfl (by kernel_rfl) rfl ?_
      go_wp2_with fail
      refine Calls.mono HTE.out ?_
      rintro _ wd ⟨rfl, b5⟩
      have hWd : Below wj.heap.size wj wd := hWb.trans (b5.mono hWb.size)
      clear b5 HTE
      go_wp2_with fail
      refine ⟨fun _ => hWd, ?_⟩
      refine wpM_held 10 (v := .agg #[.int .i64 p, .int .i64 q]) rfl (by kernel_rfl) (by kernel_rfl) rfl (fun _ _ _ h => h) rfl (by intro wx hx; go_simp <;> rfl) hWd ?_
      refine wpM_held 11 (v := .int .i64 er) rfl (by kernel_rfl) (by kernel_rfl) rfl (fun _ _ _ h => h) rfl (by intro wx hx; go_simp <;> rfl) hWd ?_
      have pr := TZ.below hWd TZ.lt
      obtain ⟨y0, y1⟩ := pr.duo
      have zf := pr.frozen
      have hZe := Row.set2 pr (.int .i64 p) (.int .i64 q)
      have hBf := hB4.trans (hWd.mono hB4.size)
      have hBg := below_set (below_set hBf (B := w.heap.size + 1 + 1) 0 (.int .i64 p) (by omega)) (B := w.heap.size + 1 + 1) 1 (.int .i64 q) (by omega)
      refine wpM_one 12 rfl (by kernel_rfl) rfl ?_
      go_wp2_with fail
      refine ⟨fun h => by simp at h, ?_⟩
      refine wpM_one 13 rfl (by kernel_rfl) rfl ?_
      go_wp2_with fail
      refine ⟨fun h => by simp at h, ?_⟩
      refine wpM_done (by kernel_rfl) ?_
      go_wp2
      exact bodyPost_ret (ret_two rfl (g := w.heap.size + 1 + 1) rfl rfl (load23 hZe rfl)) rfl ⟨by rw [HRES.out]; rfl, hBg⟩
    · have hnr : (0 : Int) < (nr : Int) := by
        have h1 : 0 < nr := by
          rw [HNR.out]
          apply Nat.pos_of_ne_zero
          intro h
          have h2 := dval_digs R
          rw [List.length_eq_zero_iff.1 h] at h2
          simp [dval] at h2
          omega
        omega
      have hnr2 : decide ((0 : Int) < (nr : Int)) = true := decide_eq_true hnr
      have HRES : Hid (rv = .tuple #[.agg #[.int .i64 0, .int .i64 0], .int .i64 30]) := by
        show _ = _
        rw [HDV.out, if_neg hR]; rfl
      clear HDV hR HNR
      obtain ⟨y0, y1⟩ := rz.duo
      have zf := rz.frozen
      have hZe := Row.set2 rz (.int .i64 0) (.int .i64 0)
      have hBg := below_set (below_set hBw (B := w.heap.size + 1 + 1) 0 (.int .i64 0) (by omega)) (B := w.heap.size + 1 + 1) 1 (.int .i64 0) (by omega)
      go_wp2
      exact bodyPost_ret (ret_two rfl (g := w.heap.size + 1 + 1) rfl rfl (load23 hZe rfl)) rfl ⟨by rw [HRES.out]; rfl, hBg⟩
end Go.Proofs.YtfbhonjndepjbaaDoor
