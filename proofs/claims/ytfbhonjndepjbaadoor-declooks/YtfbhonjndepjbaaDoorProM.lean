import Derived.Test.YtfbhonjndepjbaaDoorRflM
import Derived.Test.YtfbhonjndepjbaaDoorWrdM
import Derived.Test.YtfbhonjndepjbaaDoorRpx
/- Round: the program's way (pure, and its answer for any Dec). -/
namespace Go.Proofs.YtfbhonjndepjbaaDoor

/-- Does half or more go? -/
def upN (n k : Nat) : Nat := if 10 ^ k ≤ n % 10 ^ k + n % 10 ^ k then 1 else 0
/-- What Round answers. -/
def roundV (c e pl : Int) : Value := if (-18 ≤ e ∧ e ≤ 18) ∧ (-18 ≤ pl ∧ pl ≤ 18) then (if 0 < -pl - e then decV (tell (if c < 0 then -((c.natAbs / 10 ^ (-pl - e).toNat + upN c.natAbs (-pl - e).toNat : Nat) : Int) else ((c.natAbs / 10 ^ (-pl - e).toNat + upN c.natAbs (-pl - e).toNat : Nat) : Int)) (-pl)) else decV (tell c e)) else .tuple #[.agg #[.int .i64 0, .int .i64 0], .int .i64 1]
theorem up_digit (n d : Nat) : (n / 10 ^ d + 5) / 10 = n / 10 ^ (d + 1) + upN n (d + 1) := by
  have hp : 0 < 10 ^ d := Nat.pow_pos (by decide)
  unfold upN
  rw [Nat.pow_succ]
  obtain ⟨P, hP⟩ : ∃ P, 10 ^ d = P := ⟨_, rfl⟩
  rw [hP] at hp ⊢
  have h1 := Nat.div_add_mod n P
  have h2 := Nat.mod_lt n hp
  have h3 : n / (P * 10) = n / P / 10 := (Nat.div_div_eq_div_mul n P 10).symm
  have h4 : n % (P * 10) = P * (n / P % 10) + n % P := by
    rw [Nat.mod_mul, Nat.add_comm]
  rw [h3, h4]
  obtain ⟨a, ha⟩ : ∃ a, n / P = a := ⟨_, rfl⟩
  obtain ⟨l, hl⟩ : ∃ l, n % P = l := ⟨_, rfl⟩
  rw [ha, hl]
  rw [hl] at h2
  obtain ⟨r, hr⟩ : ∃ r, a % 10 = r := ⟨_, rfl⟩
  have hr9 : r < 10 := by rw [← hr]; exact Nat.mod_lt _ (by decide)
  rw [hr]
  have hc : (P * 10 ≤ P * r + l + (P * r + l)) ↔ 5 ≤ r := by
    constructor
    · intro h
      rcases Nat.lt_or_ge r 5 with h5 | h5
      · have : P * r ≤ P * 4 := Nat.mul_le_mul_left P (by omega)
        omega
      · exact h5
    · intro h
      have : P * 5 ≤ P * r := Nat.mul_le_mul_left P h
      omega
  by_cases h5 : 5 ≤ r
  · rw [if_pos (hc.2 h5)]; omega
  · rw [if_neg (fun h => h5 (hc.1 h))]; omega
theorem up_shift (n j k : Nat) (h : j ≤ k) : n * 10 ^ j / 10 ^ k = n / 10 ^ (k - j) ∧ upN (n * 10 ^ j) k = upN n (k - j) := by
  have hp : 0 < 10 ^ j := Nat.pow_pos (by decide)
  obtain ⟨d, rfl⟩ : ∃ d, k = d + j := ⟨k - j, by omega⟩
  rw [Nat.add_sub_cancel, Nat.pow_add]
  refine ⟨Nat.mul_div_mul_right _ _ hp, ?_⟩
  unfold upN
  rw [Nat.pow_add, Nat.mul_mod_mul_right, ← Nat.add_mul]
  by_cases h5 : 10 ^ d ≤ n % 10 ^ d + n % 10 ^ d
  · rw [if_pos h5, if_pos (Nat.mul_le_mul_right _ h5)]
  · rw [if_neg h5, if_neg (fun h6 => h5 (Nat.le_of_mul_le_mul_right h6 hp))]
theorem up_none (n j k : Nat) (h : k ≤ j) : n * 10 ^ j / 10 ^ k = n * 10 ^ (j - k) ∧ upN (n * 10 ^ j) k = 0 := by
  have hp : 0 < 10 ^ k := Nat.pow_pos (by decide)
  obtain ⟨d, rfl⟩ : ∃ d, j = d + k := ⟨j - k, by omega⟩
  rw [Nat.add_sub_cancel, Nat.pow_add, ← Nat.mul_assoc]
  refine ⟨Nat.mul_div_cancel _ hp, ?_⟩
  unfold upN
  rw [Nat.mul_mod_left, if_neg (by omega)]
theorem pround_any (c e pl : Int) (hc : I64 c) (w : World) : Calls Tryd.prog 32 #[.agg #[.int .i64 c, .int .i64 e], .int .i64 pl] w fun r w' => r = .returned (roundV c e pl) ∧ Go.RowKit.Below w.heap.size w w' := by
  unfold roundV
  by_cases he : -18 ≤ e ∧ e ≤ 18
  · have hw : within e := he
    by_cases hp : -18 ≤ pl ∧ pl ≤ 18
    · have hwp : within pl := hp
      rw [if_pos ⟨he, hp⟩]
      obtain ⟨j, h1, h2, h3⟩ := dec_low c e hw
      have hab : c.natAbs = (decW c e).n * 10 ^ j := by
        conv => lhs; rw [h1]
        exact shl_abs _ _
      have hsg := sc_sign c e
      by_cases hc0 : c = 0
      · subst hc0
        have hd : decW 0 e = ⟨false, 0, 0⟩ := by simp [decW, shortW, numW]
        have ht : tell 0 e = some (0, 0) := by simp [tell, tellW_zero]
        have hv : decV (tell (if (0 : Int) < 0 then -(((0 : Int).natAbs / 10 ^ (-pl - e).toNat + upN (0 : Int).natAbs (-pl - e).toNat : Nat) : Int) else (((0 : Int).natAbs / 10 ^ (-pl - e).toNat + upN (0 : Int).natAbs (-pl - e).toNat : Nat) : Int)) (-pl)) = decV (some (0, 0)) := by
          have hu : upN (0 : Int).natAbs (-pl - e).toNat = 0 := by
            unfold upN
            rw [if_neg (by have : 0 < 10 ^ (-pl - e).toNat := Nat.pow_pos (by decide); simp)]
          rw [if_neg (by omega), hu]
          simp [tell, tellW_zero]
        have hall : (if 0 < -pl - e then decV (tell (if (0 : Int) < 0 then -(((0 : Int).natAbs / 10 ^ (-pl - e).toNat + upN (0 : Int).natAbs (-pl - e).toNat : Nat) : Int) else (((0 : Int).natAbs / 10 ^ (-pl - e).toNat + upN (0 : Int).natAbs (-pl - e).toNat : Nat) : Int)) (-pl)) else decV (tell 0 e)) = decV (some (0, 0)) := by
          split
          · exact hv
          · rw [ht]
        rw [hall]
        by_cases hy : -pl ≤ (decW 0 e).e
        · have := round_up 0 e pl hc hw hwp hy w
          rw [told_dec 0 e hw, ht] at this
          exact this
        · have := round_down 0 e pl hc hw hwp hy w
          have hr : toldW (some (roundW (decW 0 e) pl)) = some (0, 0) := by
            unfold roundW
            rw [if_neg hy, hd]
            show tellW _ _ _ = _
            simp [tellW_zero]
          rw [hr] at this
          exact this
      · have hye := h2 hc0
        have hn0 : (decW c e).n ≠ 0 := by
          intro h
          rw [h, Nat.zero_mul] at hab
          omega
        have hcn : decide (c < 0) = (decW c e).neg := by
          rw [← hsg]
          congr 1
          apply propext
          have hpj : (0 : Int) < 10 ^ j := Int.pow_pos (by decide)
          constructor
          · intro h
            rcases Int.lt_or_le (sc (decW c e)) 0 with h5 | h5
            · exact h5
            · have := Int.mul_nonneg h5 (Int.le_of_lt hpj)
              omega
          · intro h
            have := Int.mul_neg_of_neg_of_pos h hpj
            omega
        by_cases hy : -pl ≤ (decW c e).e
        · have := round_up c e pl hc hw hwp hy w
          rw [told_dec c e hw] at this
          by_cases hcut : 0 < -pl - e
          · rw [if_pos hcut]
            obtain ⟨u1, u2⟩ := up_none (decW c e).n j (-pl - e).toNat (by omega)
            rw [hab, u1, u2, Nat.add_zero]
            have e1 : (if c < 0 then -(((decW c e).n * 10 ^ (j - (-pl - e).toNat) : Nat) : Int) else (((decW c e).n * 10 ^ (j - (-pl - e).toNat) : Nat) : Int)) = sc (decW c e) * 10 ^ (j - (-pl - e).toNat) := by
              unfold sc
              rw [← hcn]
              by_cases hs : c < 0
              · rw [decide_eq_true hs, if_pos hs, if_pos rfl, Int.natCast_mul, Int.natCast_pow, Int.neg_mul]; rfl
              · rw [decide_eq_false hs, if_neg hs, if_neg (by simp), Int.natCast_mul, Int.natCast_pow]; rfl
            rw [e1]
            have e2 := tell_pow (sc (decW c e) * 10 ^ (j - (-pl - e).toNat)) (-pl) (-pl - e).toNat
            rw [Int.mul_assoc, ← Int.pow_add, show j - (-pl - e).toNat + (-pl - e).toNat = j by omega, ← h1, show -pl - (((-pl - e).toNat : Nat) : Int) = e by omega] at e2
            rw [← e2]
            exact this
          · rw [if_neg hcut]; exact this
        · have := round_down c e pl hc hw hwp hy w
          rw [if_pos (by omega)]
          obtain ⟨u1, u2⟩ := up_shift (decW c e).n j (-pl - e).toNat (by omega)
          rw [hab, u1, u2]
          have e1 : toldW (some (roundW (decW c e) pl)) = tell (if c < 0 then -(((decW c e).n / 10 ^ ((-pl - e).toNat - j) + upN (decW c e).n ((-pl - e).toNat - j) : Nat) : Int) else (((decW c e).n / 10 ^ ((-pl - e).toNat - j) + upN (decW c e).n ((-pl - e).toNat - j) : Nat) : Int)) (-pl) := by
            unfold roundW
            rw [if_neg hy]
            show tellW _ _ _ = _
            obtain ⟨d, hd⟩ : ∃ d, (-pl - e).toNat - j = d + 1 := ⟨(-pl - e).toNat - j - 1, by omega⟩
            rw [hd, show (-pl - 1 - (decW c e).e).toNat = d by omega, up_digit, tellW_tell, ← hcn]
            congr 1
            by_cases hs : c < 0
            · rw [decide_eq_true hs, if_pos hs, if_pos rfl]
            · rw [decide_eq_false hs, if_neg hs, if_neg (by simp)]
          rw [e1] at this
          exact this
    · rw [if_neg (fun h => hp h.2)]
      exact round_bad2 c e pl hc hw hp w
  · rw [if_neg (fun h => he h.1)]
    exact round_bad1 c e pl he w
end Go.Proofs.YtfbhonjndepjbaaDoor
/- The document's Round. -/
namespace Go.Proofs.YtfbhonjndepjbaaDoor
open Go.RowKit

set_option maxRecDepth 100000 in
set_option maxHeartbeats 16000000 in
theorem rround_down (c e pl : Int) (hc : I64 c) (he1 : -18 ≤ e) (he2 : e ≤ 18) (hp1 : -18 ≤ pl) (hp2 : pl ≤ 18) (hcut0 : 0 < -pl - e) (w : World) (up : Nat) (HUP : Hid ((if 10 ^ (-pl - e).toNat ≤ c.natAbs % 10 ^ (-pl - e).toNat + c.natAbs % 10 ^ (-pl - e).toNat then 1 else 0) = up)) : Calls Tryd.prog 33 #[.agg #[.int .i64 c, .int .i64 e], .int .i64 pl] w fun r w' => r = .returned (decV (tell (if c < 0 then -((c.natAbs / 10 ^ (-pl - e).toNat + up : Nat) : Int) else ((c.natAbs / 10 ^ (-pl - e).toNat + up : Nat) : Int)) (-pl))) ∧ Below w.heap.size w w' := by
  have HNU : ∀ V, Hid (Calls Tryd.prog 53 #[.agg #[.int .i64 c, .int .i64 e]] V _) := fun V => num_any c e hc V
  rw [decide_eq_true (show (-18 ≤ e ∧ e ≤ 18) from ⟨he1, he2⟩)] at HNU
  obtain ⟨k, hk⟩ : ∃ k : Nat, (-pl - e).toNat = k := ⟨_, rfl⟩
  rw [hk] at HUP ⊢
  obtain ⟨fin, HFI⟩ : ∃ fin, Hid ((if c < 0 then -((c.natAbs / 10 ^ k + up : Nat) : Int) else ((c.natAbs / 10 ^ k + up : Nat) : Int)) = fin) := ⟨_, rfl⟩
  rw [HFI.out]
  obtain ⟨p, q, er, hdv⟩ := decV_form (tell fin (-pl))
  rw [hdv]
  have HDV : Hid (decV (tell fin (-pl)) = .tuple #[.agg #[.int .i64 p, .int .i64 q], .int .i64 er]) := hdv
  have hek : -pl - e = (k : Int) := by omega
  have hk18 : k ≤ 36 ∧ 1 ≤ k := by omega
  have HC : Hid (I64 c) := hc
  have r0 := Row.new1 w (.cells #[.int .i64 c, .int .i64 e] 23) 23 #[.int .i64 0, .int .i64 0]
  have hB := ((Below.refl _ w).alloc (Nat.le_refl _) (.cells #[.int .i64 c, .int .i64 e] 23)).alloc (by simp) (.cells #[.int .i64 0, .int .i64 0] 23)
  clear hc hdv hk
  go_enter Tryd.func33, Tryd.ntmps33
  go_wp2_with fail
  generalize (w.alloc (.cells #[.int .i64 c, .int .i64 e] 23)).alloc (.cells #[.int .i64 0, .int .i64 0] 23) = W at *
  refine Calls.mono (HNU W).out ?_
  rintro _ w1 ⟨sv, rfl, hD, hN, b1⟩
  obtain ⟨_, a3, c3, rfl, _, _⟩ := id hD
  obtain ⟨sg, HSG⟩ : ∃ sg, Hid (decide (c < 0) = sg) := ⟨_, rfl⟩
  obtain ⟨n3, HN3⟩ : ∃ n3, Hid ((digs c.natAbs).length = n3) := ⟨_, rfl⟩
  rw [HN3.out] at hD
  rw [HSG.out, HN3.out]
  have r1 := (r0.below b1 r0.lt).alloc (.cells #[.bool sg, .slice a3 n3 c3, .int .i64 e] 47)
  have x1 := Row.new w1 47 #[.bool sg, .slice a3 n3 c3, .int .i64 e]
  have hB1 := hB.trans (b1.mono hB.size)
  have hB2 := hB1.alloc hB1.size (.cells #[.bool sg, .slice a3 n3 c3, .int .i64 e] 47)
  have hD2 := hD.below ((Below.refl _ w1).alloc (Nat.le_refl _) (.cells #[.bool sg, .slice a3 n3 c3, .int .i64 e] 47))
  have hXl : w.heap.size + 1 < w1.heap.size := by have := (r0.below b1 r0.lt).lt; omega
  clear r0 hB hD hN b1 HNU hB1
  obtain ⟨f0, f1, f2⟩ := x1.triF
  go_upto_region 7 with fail
  clear f0 f1 f2
  generalize w1.alloc (.cells #[.bool sg, .slice a3 n3 c3, .int .i64 e] 47) = W2 at *
  generalize w1.heap.size = X at *
  have H1 : ∀ V, Hid (Calls Tryd.prog 64 #[.int .i64 1] V fun r w' => ∃ a n c', r = .returned (.agg #[.bool false, .slice a n c']) ∧ DgAt w' (.slice a n c') (digs 1) ∧ Below V.heap.size V w') := fun V => by
    refine (of_any 1 ⟨by decide, by decide⟩ V).mono ?_
    rintro r w' ⟨v, rfl, ⟨s, rfl, hs⟩, hb⟩
    obtain ⟨_, a, c', rfl, _, _⟩ := id hs
    exact ⟨a, _, c', rfl, hs, hb⟩
  have H2 : ∀ V a n c', DgAt V (.slice a n c') (digs 1) → Hid (Calls Tryd.prog 58 #[.agg #[.bool false, .slice a n c'], .int .i64 (k : Int)] V fun r w' => ∃ a n c', r = .returned (.agg #[.bool false, .slice a n c']) ∧ DgAt w' (.slice a n c') (digs (10 ^ k)) ∧ Below V.heap.size V w') := fun V a n c' h => by
    refine (shift_any 1 (bv false (.slice a n c')) k V ⟨_, rfl, h⟩ (by omega) (Nat.le_trans (digs_len _ 1 (by decide)) (by decide))).mono ?_
    rintro r w' ⟨v, rfl, ⟨s, rfl, hs⟩, hb⟩
    have e1 : ((1 : Int) * 10 ^ k).natAbs = 10 ^ k := by rw [Int.one_mul, Int.natAbs_pow]; rfl
    have e2 : decide ((1 : Int) * 10 ^ k < 0) = false := decide_eq_false (by have : (0 : Int) < 10 ^ k := Int.pow_pos (by decide); omega)
    rw [e1] at hs
    obtain ⟨_, a, c', rfl, _, _⟩ := id hs
    exact ⟨a, _, c', by rw [e2]; rfl, hs, hb⟩
  have H3 : ∀ V a n c', Below W2.heap.size W2 V → DgAt V (.slice a n c') (digs (10 ^ k)) → Hid (Calls Tryd.prog 57 #[.agg #[.bool sg, .slice a3 n3 c3], .agg #[.bool false, .slice a n c']] V fun r w' => ∃ aq nq cq ar nr cr, r = .returned (.tuple #[.agg #[.bool false, .slice aq nq cq], .agg #[.bool false, .slice ar nr cr]]) ∧ DgAt w' (.slice aq nq cq) (digs (c.natAbs / 10 ^ k)) ∧ DgAt w' (.slice ar nr cr) (digs (c.natAbs % 10 ^ k)) ∧ Below V.heap.size V w') := fun V a n c' hV h => by
    have hp : (0 : Int) < ((10 ^ k : Nat) : Int) := by have : 0 < 10 ^ k := Nat.pow_pos (by decide); omega
    have l1 : (digs c.natAbs).length ≤ 300 := Nat.le_trans (digs_len _ 19 (by have := HC.out; unfold I64 at this; omega)) (by decide)
    have l2 : (digs (10 ^ k)).length ≤ 300 := Nat.le_trans (digs_len _ 37 (Nat.pow_lt_pow_right (by decide) (by omega))) (by decide)
    refine (quo_digs sg false _ _ _ _ V (hD2.below hV) h (digs_dg _) (digs_dg _) l1 l2 (by rw [dval_digs]; exact hp)).mono ?_
    rintro r w' ⟨v1, v2, rfl, ⟨s1, rfl, h1⟩, ⟨s2, rfl, h2⟩, hb⟩
    rw [dval_digs, dval_digs] at h1 h2 ⊢
    have e1 : (((c.natAbs : Nat) : Int) / ((10 ^ k : Nat) : Int)) = ((c.natAbs / 10 ^ k : Nat) : Int) := (Int.natCast_ediv _ _).symm
    have e2 : (((c.natAbs : Nat) : Int) % ((10 ^ k : Nat) : Int)) = ((c.natAbs % 10 ^ k : Nat) : Int) := (Int.natCast_emod _ _).symm
    rw [e1, Int.natAbs_natCast] at h1
    rw [e2, Int.natAbs_natCast] at h2
    rw [e1, e2, decide_eq_false (Int.not_lt.2 (Int.natCast_nonneg _)), decide_eq_false (Int.not_lt.2 (Int.natCast_nonneg _))]
    obtain ⟨_, a1, c1, rfl, _, _⟩ := id h1
    obtain ⟨_, a2, c2, rfl, _, _⟩ := id h2
    exact ⟨a1, _, c1, a2, _, c2, rfl, h1, h2, hb⟩
  go_cut [9, 10] (fun v6 v7 wx => ∃ (K6 K7 : Nat) (aq : Option Addr) (nq cq : Nat) (ar : Option Addr) (nr cr : Nat), v6 = .pointer (some ⟨K6, 0, none⟩) ∧ v7 = .pointer (some ⟨K7, 0, none⟩) ∧ K6 ≠ K7 ∧ W2.heap.size ≤ K6 ∧ W2.heap.size ≤ K7 ∧ Row wx K6 45 #[.bool false, .slice aq nq cq] ∧ Row wx K7 45 #[.bool false, .slice ar nr cr] ∧ Hid (DgAt wx (.slice aq nq cq) (digs (c.natAbs / 10 ^ k))) ∧ Hid (DgAt wx (.slice ar nr cr) (digs (c.natAbs % 10 ^ k))) ∧ Hid (Below W2.heap.size W2 wx))
  case first =>
    as_aux_lemma =>
      have hS : Below W2.heap.size W2 W2.drew := (Below.refl _ W2).drew
      have tri : ∀ wx, Below W2.heap.size W2 wx → wx.cell? ⟨X, 0, none⟩ = some (.bool sg) ∧ wx.cell? ⟨X, 1, none⟩ = some (.slice a3 n3 c3) ∧ wx.cell? ⟨X, 2, none⟩ = some (.int .i64 e) := fun wx hx => (x1.below hx x1.lt).triF
      refine wp_region_M (fun wx : World => Below W2.heap.size W2 wx) (fun j => decide (j < 13)) 13 rfl (by kernel_rfl) ?_
      refine wpM_held 0 (v := ?_) rfl (by kernel_rfl) (by kernel_rfl) rfl (fun _ _ _ h => h) rfl (by intro wx hx; go_simp <;> rfl) hS ?_
      refine wpM_held 1 (v := .agg #[.bool sg, .slice a3 n3 c3]) rfl (by kernel_rfl) (by kernel_rfl) rfl (fun _ _ _ h => h) rfl (by intro wx hx; obtain ⟨x0, x1, x2⟩ := tri wx hx; go_simp <;> rfl) hS ?_
      refine wpM_held 3 (v := .int .i64 (k : Int)) rfl (by kernel_rfl) (by kernel_rfl) rfl (fun _ _ _ h => h) rfl (by intro wx hx; go_simp <;> rfl) hS ?_
      refine wpM_three 2 9 10 rfl rfl rfl (by kernel_rfl) rfl rfl rfl ?_ ?_ ?_
      · go_wp2_with fail
        refine Calls.mono (H1 _).out ?_
        rintro _ v1 ⟨a1, n1, c1, rfl, D1, b1⟩
        have S1 : Below W2.heap.size W2 v1 := hS.trans (b1.mono hS.size)
        clear b1
        go_wp2_with fail
        refine ⟨fun _ => S1, ?_⟩
        refine wpM_three 4 9 10 rfl rfl rfl (by kernel_rfl) rfl rfl rfl ?_ ?_ ?_
        · go_wp2_with fail
          refine Calls.mono (H2 _ _ _ _ D1).out ?_
          rintro _ v2 ⟨a2, n2, c2, rfl, D2, b2⟩
          have S2 : Below W2.heap.size W2 v2 := S1.trans (b2.mono S1.size)
          clear b2
          go_wp2_with fail
          refine ⟨fun _ => S2, ?_⟩
          refine wpM_three 5 9 10 rfl rfl rfl (by kernel_rfl) rfl rfl rfl ?_ ?_ ?_
          · go_wp2_with fail
            refine Calls.mono (H3 _ _ _ _ S2 D2).out ?_
            rintro _ v3 ⟨a3, n3, c3, e3, f3, g3, rfl, D3, E3, b3⟩
            have S3 : Below W2.heap.size W2 v3 := S2.trans (b3.mono S2.size)
            clear b3
            go_wp2_with fail
            refine ⟨fun _ => S3, ?_⟩
            refine wpM_held 6 (v := .tuple #[.agg #[.bool false, .slice a3 n3 c3], .agg #[.bool false, .slice e3 f3 g3]]) rfl (by kernel_rfl) (by kernel_rfl) rfl (fun _ _ _ h => h) rfl (by intro wx hx; go_simp <;> rfl) S3 ?_
            refine wpM_held 7 (v := .agg #[.bool false, .slice a3 n3 c3]) rfl (by kernel_rfl) (by kernel_rfl) rfl (fun _ _ _ h => h) rfl (by intro wx hx; go_simp <;> rfl) S3 ?_
            refine wpM_held 8 (v := .agg #[.bool false, .slice e3 f3 g3]) rfl (by kernel_rfl) (by kernel_rfl) rfl (fun _ _ _ h => h) rfl (by intro wx hx; go_simp <;> rfl) S3 ?_
            refine wpM_two 9 10 rfl rfl (by kernel_rfl) rfl rfl ?_ ?_
            · go_wp2_with fail
              have R64 := Row.new v3 45 #[.bool false, .slice none 0 0]
              have S4 : Below W2.heap.size W2 (v3.alloc (.cells #[.bool false, .slice none 0 0] 45)) := S3.alloc S3.size _
              have L4 : W2.heap.size ≤ v3.heap.size := S3.size
              have D4 := D3.below ((Below.refl _ v3).alloc (Nat.le_refl _) (.cells #[.bool false, .slice none 0 0] 45))
              have E4 := E3.below ((Below.refl _ v3).alloc (Nat.le_refl _) (.cells #[.bool false, .slice none 0 0] 45))
              refine ⟨fun _ => S4, ?_⟩
              clear S3 D3 E3 
              generalize v3.alloc (.cells #[.bool false, .slice none 0 0] 45) = v4 at *
              generalize v3.heap.size = K4 at *
              refine wpM_one 10 rfl (by kernel_rfl) rfl ?_
              go_wp2_with fail
              have R75 := Row.new v4 45 #[.bool false, .slice none 0 0]
              have S5 : Below W2.heap.size W2 (v4.alloc (.cells #[.bool false, .slice none 0 0] 45)) := S4.alloc S4.size _
              have L5 : W2.heap.size ≤ v4.heap.size := S4.size
              have N5 := R64.lt
              have R65 := R64.alloc (.cells #[.bool false, .slice none 0 0] 45)
              have D5 := D4.below ((Below.refl _ v4).alloc (Nat.le_refl _) (.cells #[.bool false, .slice none 0 0] 45))
              have E5 := E4.below ((Below.refl _ v4).alloc (Nat.le_refl _) (.cells #[.bool false, .slice none 0 0] 45))
              refine ⟨fun _ => S5, ?_⟩
              clear S4 D4 E4 R64
              generalize v4.alloc (.cells #[.bool false, .slice none 0 0] 45) = v5 at *
              generalize v4.heap.size = K5 at *
              have hne6 : K4 ≠ K5 := by omega
              have P6 := Row.set2 R65 (.bool false) (.slice a3 n3 c3)
              have P7 := (Row.other R75 (K := K4) (by omega) 0 (.bool false)).other (K := K4) (by omega) 1 (.slice a3 n3 c3)
              have Dq := D5.store R65 (.bool false) (.slice a3 n3 c3)
              have Dr := E5.store R65 (.bool false) (.slice a3 n3 c3)
              have Sb := below_set (below_set S5 (B := K4) 0 (.bool false) (by omega)) (B := K4) 1 (.slice a3 n3 c3) (by omega)
              obtain ⟨x0, x1'⟩ := Row.duo R65
              have zf := Row.frozen R65
              refine wpM_one 11 rfl (by kernel_rfl) rfl ?_
              go_wp2_with fail
              refine ⟨fun _ => Sb, ?_⟩
              clear x0 x1' zf R65 R75 D5 E5 S5
              generalize (v5.setCell ⟨K4, 0, none⟩ (.bool false)).setCell ⟨K4, 1, none⟩ (.slice a3 n3 c3) = V9 at *
              have O7 := Row.set2 P7 (.bool false) (.slice e3 f3 g3)
              have O6 := (Row.other P6 (K := K5) (by omega) 0 (.bool false)).other (K := K5) (by omega) 1 (.slice e3 f3 g3)
              have Eq := Dq.store P7 (.bool false) (.slice e3 f3 g3)
              have Er := Dr.store P7 (.bool false) (.slice e3 f3 g3)
              have Sc := below_set (below_set Sb (B := K5) 0 (.bool false) (by omega)) (B := K5) 1 (.slice e3 f3 g3) (by omega)
              obtain ⟨x0, x1'⟩ := Row.duo P7
              have zf := Row.frozen P7
              refine wpM_one 12 rfl (by kernel_rfl) rfl ?_
              go_wp2_with fail
              refine ⟨fun _ => Sc, ?_⟩
              refine wpM_done (by kernel_rfl) ?_
              go_wp2_with fail
              go_meet
              exact ⟨K4, K5, a3, n3, c3, e3, f3, g3, rfl, rfl, hne6, by omega, by omega, O6, O7, Eq, Er, Sc⟩
            · go_wp2_with fail
              have R77 := Row.new v3 45 #[.bool false, .slice none 0 0]
              have S7 : Below W2.heap.size W2 (v3.alloc (.cells #[.bool false, .slice none 0 0] 45)) := S3.alloc S3.size _
              have L7 : W2.heap.size ≤ v3.heap.size := S3.size
              have D7 := D3.below ((Below.refl _ v3).alloc (Nat.le_refl _) (.cells #[.bool false, .slice none 0 0] 45))
              have E7 := E3.below ((Below.refl _ v3).alloc (Nat.le_refl _) (.cells #[.bool false, .slice none 0 0] 45))
              refine ⟨fun _ => S7, ?_⟩
              clear S3 D3 E3 
              generalize v3.alloc (.cells #[.bool false, .slice none 0 0] 45) = v7 at *
              generalize v3.heap.size = K7 at *
              refine wpM_one 9 rfl (by kernel_rfl) rfl ?_
              go_wp2_with fail
              have R68 := Row.new v7 45 #[.bool false, .slice none 0 0]
              have S8 : Below W2.heap.size W2 (v7.alloc (.cells #[.bool false, .slice none 0 0] 45)) := S7.alloc S7.size _
              have L8 : W2.heap.size ≤ v7.heap.size := S7.size
              have N8 := R77.lt
              have R78 := R77.alloc (.cells #[.bool false, .slice none 0 0] 45)
              have D8 := D7.below ((Below.refl _ v7).alloc (Nat.le_refl _) (.cells #[.bool false, .slice none 0 0] 45))
              have E8 := E7.below ((Below.refl _ v7).alloc (Nat.le_refl _) (.cells #[.bool false, .slice none 0 0] 45))
              refine ⟨fun _ => S8, ?_⟩
              clear S7 D7 E7 R77
              generalize v7.alloc (.cells #[.bool false, .slice none 0 0] 45) = v8 at *
              generalize v7.heap.size = K8 at *
              have hne9 : K8 ≠ K7 := by omega
              have P6 := Row.set2 R68 (.bool false) (.slice a3 n3 c3)
              have P7 := (Row.other R78 (K := K8) (by omega) 0 (.bool false)).other (K := K8) (by omega) 1 (.slice a3 n3 c3)
              have Dq := D8.store R68 (.bool false) (.slice a3 n3 c3)
              have Dr := E8.store R68 (.bool false) (.slice a3 n3 c3)
              have Sb := below_set (below_set S8 (B := K8) 0 (.bool false) (by omega)) (B := K8) 1 (.slice a3 n3 c3) (by omega)
              obtain ⟨x0, x1'⟩ := Row.duo R68
              have zf := Row.frozen R68
              refine wpM_one 11 rfl (by kernel_rfl) rfl ?_
              go_wp2_with fail
              refine ⟨fun _ => Sb, ?_⟩
              clear x0 x1' zf R68 R78 D8 E8 S8
              generalize (v8.setCell ⟨K8, 0, none⟩ (.bool false)).setCell ⟨K8, 1, none⟩ (.slice a3 n3 c3) = V9 at *
              have O7 := Row.set2 P7 (.bool false) (.slice e3 f3 g3)
              have O6 := (Row.other P6 (K := K7) (by omega) 0 (.bool false)).other (K := K7) (by omega) 1 (.slice e3 f3 g3)
              have Eq := Dq.store P7 (.bool false) (.slice e3 f3 g3)
              have Er := Dr.store P7 (.bool false) (.slice e3 f3 g3)
              have Sc := below_set (below_set Sb (B := K7) 0 (.bool false) (by omega)) (B := K7) 1 (.slice e3 f3 g3) (by omega)
              obtain ⟨x0, x1'⟩ := Row.duo P7
              have zf := Row.frozen P7
              refine wpM_one 12 rfl (by kernel_rfl) rfl ?_
              go_wp2_with fail
              refine ⟨fun _ => Sc, ?_⟩
              refine wpM_done (by kernel_rfl) ?_
              go_wp2_with fail
              go_meet
              exact ⟨K8, K7, a3, n3, c3, e3, f3, g3, rfl, rfl, hne9, by omega, by omega, O6, O7, Eq, Er, Sc⟩
          · go_wp2_with fail
            have R610 := Row.new v2 45 #[.bool false, .slice none 0 0]
            have S10 : Below W2.heap.size W2 (v2.alloc (.cells #[.bool false, .slice none 0 0] 45)) := S2.alloc S2.size _
            have L10 : W2.heap.size ≤ v2.heap.size := S2.size
            have D10 := D2.below ((Below.refl _ v2).alloc (Nat.le_refl _) (.cells #[.bool false, .slice none 0 0] 45))
            refine ⟨fun _ => S10, ?_⟩
            clear S2 D2 
            generalize v2.alloc (.cells #[.bool false, .slice none 0 0] 45) = v10 at *
            generalize v2.heap.size = K10 at *
            refine wpM_two 5 10 rfl rfl (by kernel_rfl) rfl rfl ?_ ?_
            · go_wp2_with fail
              refine Calls.mono (H3 _ _ _ _ S10 D10).out ?_
              rintro _ v11 ⟨a11, n11, c11, e11, f11, g11, rfl, D11, E11, b11⟩
              have S11 : Below W2.heap.size W2 v11 := S10.trans (b11.mono S10.size)
              have R611 := R610.below b11 R610.lt
              clear b11
              go_wp2_with fail
              refine ⟨fun _ => S11, ?_⟩
              refine wpM_held 6 (v := .tuple #[.agg #[.bool false, .slice a11 n11 c11], .agg #[.bool false, .slice e11 f11 g11]]) rfl (by kernel_rfl) (by kernel_rfl) rfl (fun _ _ _ h => h) rfl (by intro wx hx; go_simp <;> rfl) S11 ?_
              refine wpM_held 7 (v := .agg #[.bool false, .slice a11 n11 c11]) rfl (by kernel_rfl) (by kernel_rfl) rfl (fun _ _ _ h => h) rfl (by intro wx hx; go_simp <;> rfl) S11 ?_
              refine wpM_held 8 (v := .agg #[.bool false, .slice e11 f11 g11]) rfl (by kernel_rfl) (by kernel_rfl) rfl (fun _ _ _ h => h) rfl (by intro wx hx; go_simp <;> rfl) S11 ?_
              refine wpM_one 10 rfl (by kernel_rfl) rfl ?_
              go_wp2_with fail
              have R712 := Row.new v11 45 #[.bool false, .slice none 0 0]
              have S12 : Below W2.heap.size W2 (v11.alloc (.cells #[.bool false, .slice none 0 0] 45)) := S11.alloc S11.size _
              have L12 : W2.heap.size ≤ v11.heap.size := S11.size
              have N12 := R611.lt
              have R612 := R611.alloc (.cells #[.bool false, .slice none 0 0] 45)
              have D12 := D11.below ((Below.refl _ v11).alloc (Nat.le_refl _) (.cells #[.bool false, .slice none 0 0] 45))
              have E12 := E11.below ((Below.refl _ v11).alloc (Nat.le_refl _) (.cells #[.bool false, .slice none 0 0] 45))
              refine ⟨fun _ => S12, ?_⟩
              clear S11 D11 E11 R611
              generalize v11.alloc (.cells #[.bool false, .slice none 0 0] 45) = v12 at *
              generalize v11.heap.size = K12 at *
              have hne13 : K10 ≠ K12 := by omega
              have P6 := Row.set2 R612 (.bool false) (.slice a11 n11 c11)
              have P7 := (Row.other R712 (K := K10) (by omega) 0 (.bool false)).other (K := K10) (by omega) 1 (.slice a11 n11 c11)
              have Dq := D12.store R612 (.bool false) (.slice a11 n11 c11)
              have Dr := E12.store R612 (.bool false) (.slice a11 n11 c11)
              have Sb := below_set (below_set S12 (B := K10) 0 (.bool false) (by omega)) (B := K10) 1 (.slice a11 n11 c11) (by omega)
              obtain ⟨x0, x1'⟩ := Row.duo R612
              have zf := Row.frozen R612
              refine wpM_one 11 rfl (by kernel_rfl) rfl ?_
              go_wp2_with fail
              refine ⟨fun _ => Sb, ?_⟩
              clear x0 x1' zf R612 R712 D12 E12 S12
              generalize (v12.setCell ⟨K10, 0, none⟩ (.bool false)).setCell ⟨K10, 1, none⟩ (.slice a11 n11 c11) = V9 at *
              have O7 := Row.set2 P7 (.bool false) (.slice e11 f11 g11)
              have O6 := (Row.other P6 (K := K12) (by omega) 0 (.bool false)).other (K := K12) (by omega) 1 (.slice e11 f11 g11)
              have Eq := Dq.store P7 (.bool false) (.slice e11 f11 g11)
              have Er := Dr.store P7 (.bool false) (.slice e11 f11 g11)
              have Sc := below_set (below_set Sb (B := K12) 0 (.bool false) (by omega)) (B := K12) 1 (.slice e11 f11 g11) (by omega)
              obtain ⟨x0, x1'⟩ := Row.duo P7
              have zf := Row.frozen P7
              refine wpM_one 12 rfl (by kernel_rfl) rfl ?_
              go_wp2_with fail
              refine ⟨fun _ => Sc, ?_⟩
              refine wpM_done (by kernel_rfl) ?_
              go_wp2_with fail
              go_meet
              exact ⟨K10, K12, a11, n11, c11, e11, f11, g11, rfl, rfl, hne13, by omega, by omega, O6, O7, Eq, Er, Sc⟩
            · go_wp2_with fail
              have R714 := Row.new v10 45 #[.bool false, .slice none 0 0]
              have S14 : Below W2.heap.size W2 (v10.alloc (.cells #[.bool false, .slice none 0 0] 45)) := S10.alloc S10.size _
              have L14 : W2.heap.size ≤ v10.heap.size := S10.size
              have N14 := R610.lt
              have R614 := R610.alloc (.cells #[.bool false, .slice none 0 0] 45)
              have D14 := D10.below ((Below.refl _ v10).alloc (Nat.le_refl _) (.cells #[.bool false, .slice none 0 0] 45))
              refine ⟨fun _ => S14, ?_⟩
              clear S10 D10 R610
              generalize v10.alloc (.cells #[.bool false, .slice none 0 0] 45) = v14 at *
              generalize v10.heap.size = K14 at *
              refine wpM_one 5 rfl (by kernel_rfl) rfl ?_
              go_wp2_with fail
              refine Calls.mono (H3 _ _ _ _ S14 D14).out ?_
              rintro _ v15 ⟨a15, n15, c15, e15, f15, g15, rfl, D15, E15, b15⟩
              have S15 : Below W2.heap.size W2 v15 := S14.trans (b15.mono S14.size)
              have R615 := R614.below b15 R614.lt
              have R715 := R714.below b15 R714.lt
              clear b15
              go_wp2_with fail
              refine ⟨fun _ => S15, ?_⟩
              refine wpM_held 6 (v := .tuple #[.agg #[.bool false, .slice a15 n15 c15], .agg #[.bool false, .slice e15 f15 g15]]) rfl (by kernel_rfl) (by kernel_rfl) rfl (fun _ _ _ h => h) rfl (by intro wx hx; go_simp <;> rfl) S15 ?_
              refine wpM_held 7 (v := .agg #[.bool false, .slice a15 n15 c15]) rfl (by kernel_rfl) (by kernel_rfl) rfl (fun _ _ _ h => h) rfl (by intro wx hx; go_simp <;> rfl) S15 ?_
              refine wpM_held 8 (v := .agg #[.bool false, .slice e15 f15 g15]) rfl (by kernel_rfl) (by kernel_rfl) rfl (fun _ _ _ h => h) rfl (by intro wx hx; go_simp <;> rfl) S15 ?_
              have hne16 : K10 ≠ K14 := by omega
              have P6 := Row.set2 R615 (.bool false) (.slice a15 n15 c15)
              have P7 := (Row.other R715 (K := K10) (by omega) 0 (.bool false)).other (K := K10) (by omega) 1 (.slice a15 n15 c15)
              have Dq := D15.store R615 (.bool false) (.slice a15 n15 c15)
              have Dr := E15.store R615 (.bool false) (.slice a15 n15 c15)
              have Sb := below_set (below_set S15 (B := K10) 0 (.bool false) (by omega)) (B := K10) 1 (.slice a15 n15 c15) (by omega)
              obtain ⟨x0, x1'⟩ := Row.duo R615
              have zf := Row.frozen R615
              refine wpM_one 11 rfl (by kernel_rfl) rfl ?_
              go_wp2_with fail
              refine ⟨fun _ => Sb, ?_⟩
              clear x0 x1' zf R615 R715 D15 E15 S15
              generalize (v15.setCell ⟨K10, 0, none⟩ (.bool false)).setCell ⟨K10, 1, none⟩ (.slice a15 n15 c15) = V9 at *
              have O7 := Row.set2 P7 (.bool false) (.slice e15 f15 g15)
              have O6 := (Row.other P6 (K := K14) (by omega) 0 (.bool false)).other (K := K14) (by omega) 1 (.slice e15 f15 g15)
              have Eq := Dq.store P7 (.bool false) (.slice e15 f15 g15)
              have Er := Dr.store P7 (.bool false) (.slice e15 f15 g15)
              have Sc := below_set (below_set Sb (B := K14) 0 (.bool false) (by omega)) (B := K14) 1 (.slice e15 f15 g15) (by omega)
              obtain ⟨x0, x1'⟩ := Row.duo P7
              have zf := Row.frozen P7
              refine wpM_one 12 rfl (by kernel_rfl) rfl ?_
              go_wp2_with fail
              refine ⟨fun _ => Sc, ?_⟩
              refine wpM_done (by kernel_rfl) ?_
              go_wp2_with fail
              go_meet
              exact ⟨K10, K14, a15, n15, c15, e15, f15, g15, rfl, rfl, hne16, by omega, by omega, O6, O7, Eq, Er, Sc⟩
          · go_wp2_with fail
            have R717 := Row.new v2 45 #[.bool false, .slice none 0 0]
            have S17 : Below W2.heap.size W2 (v2.alloc (.cells #[.bool false, .slice none 0 0] 45)) := S2.alloc S2.size _
            have L17 : W2.heap.size ≤ v2.heap.size := S2.size
            have D17 := D2.below ((Below.refl _ v2).alloc (Nat.le_refl _) (.cells #[.bool false, .slice none 0 0] 45))
            refine ⟨fun _ => S17, ?_⟩
            clear S2 D2 
            generalize v2.alloc (.cells #[.bool false, .slice none 0 0] 45) = v17 at *
            generalize v2.heap.size = K17 at *
            refine wpM_two 5 9 rfl rfl (by kernel_rfl) rfl rfl ?_ ?_
            · go_wp2_with fail
              refine Calls.mono (H3 _ _ _ _ S17 D17).out ?_
              rintro _ v18 ⟨a18, n18, c18, e18, f18, g18, rfl, D18, E18, b18⟩
              have S18 : Below W2.heap.size W2 v18 := S17.trans (b18.mono S17.size)
              have R718 := R717.below b18 R717.lt
              clear b18
              go_wp2_with fail
              refine ⟨fun _ => S18, ?_⟩
              refine wpM_held 6 (v := .tuple #[.agg #[.bool false, .slice a18 n18 c18], .agg #[.bool false, .slice e18 f18 g18]]) rfl (by kernel_rfl) (by kernel_rfl) rfl (fun _ _ _ h => h) rfl (by intro wx hx; go_simp <;> rfl) S18 ?_
              refine wpM_held 7 (v := .agg #[.bool false, .slice a18 n18 c18]) rfl (by kernel_rfl) (by kernel_rfl) rfl (fun _ _ _ h => h) rfl (by intro wx hx; go_simp <;> rfl) S18 ?_
              refine wpM_held 8 (v := .agg #[.bool false, .slice e18 f18 g18]) rfl (by kernel_rfl) (by kernel_rfl) rfl (fun _ _ _ h => h) rfl (by intro wx hx; go_simp <;> rfl) S18 ?_
              refine wpM_one 9 rfl (by kernel_rfl) rfl ?_
              go_wp2_with fail
              have R619 := Row.new v18 45 #[.bool false, .slice none 0 0]
              have S19 : Below W2.heap.size W2 (v18.alloc (.cells #[.bool false, .slice none 0 0] 45)) := S18.alloc S18.size _
              have L19 : W2.heap.size ≤ v18.heap.size := S18.size
              have N19 := R718.lt
              have R719 := R718.alloc (.cells #[.bool false, .slice none 0 0] 45)
              have D19 := D18.below ((Below.refl _ v18).alloc (Nat.le_refl _) (.cells #[.bool false, .slice none 0 0] 45))
              have E19 := E18.below ((Below.refl _ v18).alloc (Nat.le_refl _) (.cells #[.bool false, .slice none 0 0] 45))
              refine ⟨fun _ => S19, ?_⟩
              clear S18 D18 E18 R718
              generalize v18.alloc (.cells #[.bool false, .slice none 0 0] 45) = v19 at *
              generalize v18.heap.size = K19 at *
              have hne20 : K19 ≠ K17 := by omega
              have P6 := Row.set2 R619 (.bool false) (.slice a18 n18 c18)
              have P7 := (Row.other R719 (K := K19) (by omega) 0 (.bool false)).other (K := K19) (by omega) 1 (.slice a18 n18 c18)
              have Dq := D19.store R619 (.bool false) (.slice a18 n18 c18)
              have Dr := E19.store R619 (.bool false) (.slice a18 n18 c18)
              have Sb := below_set (below_set S19 (B := K19) 0 (.bool false) (by omega)) (B := K19) 1 (.slice a18 n18 c18) (by omega)
              obtain ⟨x0, x1'⟩ := Row.duo R619
              have zf := Row.frozen R619
              refine wpM_one 11 rfl (by kernel_rfl) rfl ?_
              go_wp2_with fail
              refine ⟨fun _ => Sb, ?_⟩
              clear x0 x1' zf R619 R719 D19 E19 S19
              generalize (v19.setCell ⟨K19, 0, none⟩ (.bool false)).setCell ⟨K19, 1, none⟩ (.slice a18 n18 c18) = V9 at *
              have O7 := Row.set2 P7 (.bool false) (.slice e18 f18 g18)
              have O6 := (Row.other P6 (K := K17) (by omega) 0 (.bool false)).other (K := K17) (by omega) 1 (.slice e18 f18 g18)
              have Eq := Dq.store P7 (.bool false) (.slice e18 f18 g18)
              have Er := Dr.store P7 (.bool false) (.slice e18 f18 g18)
              have Sc := below_set (below_set Sb (B := K17) 0 (.bool false) (by omega)) (B := K17) 1 (.slice e18 f18 g18) (by omega)
              obtain ⟨x0, x1'⟩ := Row.duo P7
              have zf := Row.frozen P7
              refine wpM_one 12 rfl (by kernel_rfl) rfl ?_
              go_wp2_with fail
              refine ⟨fun _ => Sc, ?_⟩
              refine wpM_done (by kernel_rfl) ?_
              go_wp2_with fail
              go_meet
              exact ⟨K19, K17, a18, n18, c18, e18, f18, g18, rfl, rfl, hne20, by omega, by omega, O6, O7, Eq, Er, Sc⟩
            · go_wp2_with fail
              have R621 := Row.new v17 45 #[.bool false, .slice none 0 0]
              have S21 : Below W2.heap.size W2 (v17.alloc (.cells #[.bool false, .slice none 0 0] 45)) := S17.alloc S17.size _
              have L21 : W2.heap.size ≤ v17.heap.size := S17.size
              have N21 := R717.lt
              have R721 := R717.alloc (.cells #[.bool false, .slice none 0 0] 45)
              have D21 := D17.below ((Below.refl _ v17).alloc (Nat.le_refl _) (.cells #[.bool false, .slice none 0 0] 45))
              refine ⟨fun _ => S21, ?_⟩
              clear S17 D17 R717
              generalize v17.alloc (.cells #[.bool false, .slice none 0 0] 45) = v21 at *
              generalize v17.heap.size = K21 at *
              refine wpM_one 5 rfl (by kernel_rfl) rfl ?_
              go_wp2_with fail
              refine Calls.mono (H3 _ _ _ _ S21 D21).out ?_
              rintro _ v22 ⟨a22, n22, c22, e22, f22, g22, rfl, D22, E22, b22⟩
              have S22 : Below W2.heap.size W2 v22 := S21.trans (b22.mono S21.size)
              have R722 := R721.below b22 R721.lt
              have R622 := R621.below b22 R621.lt
              clear b22
              go_wp2_with fail
              refine ⟨fun _ => S22, ?_⟩
              refine wpM_held 6 (v := .tuple #[.agg #[.bool false, .slice a22 n22 c22], .agg #[.bool false, .slice e22 f22 g22]]) rfl (by kernel_rfl) (by kernel_rfl) rfl (fun _ _ _ h => h) rfl (by intro wx hx; go_simp <;> rfl) S22 ?_
              refine wpM_held 7 (v := .agg #[.bool false, .slice a22 n22 c22]) rfl (by kernel_rfl) (by kernel_rfl) rfl (fun _ _ _ h => h) rfl (by intro wx hx; go_simp <;> rfl) S22 ?_
              refine wpM_held 8 (v := .agg #[.bool false, .slice e22 f22 g22]) rfl (by kernel_rfl) (by kernel_rfl) rfl (fun _ _ _ h => h) rfl (by intro wx hx; go_simp <;> rfl) S22 ?_
              have hne23 : K21 ≠ K17 := by omega
              have P6 := Row.set2 R622 (.bool false) (.slice a22 n22 c22)
              have P7 := (Row.other R722 (K := K21) (by omega) 0 (.bool false)).other (K := K21) (by omega) 1 (.slice a22 n22 c22)
              have Dq := D22.store R622 (.bool false) (.slice a22 n22 c22)
              have Dr := E22.store R622 (.bool false) (.slice a22 n22 c22)
              have Sb := below_set (below_set S22 (B := K21) 0 (.bool false) (by omega)) (B := K21) 1 (.slice a22 n22 c22) (by omega)
              obtain ⟨x0, x1'⟩ := Row.duo R622
              have zf := Row.frozen R622
              refine wpM_one 11 rfl (by kernel_rfl) rfl ?_
              go_wp2_with fail
              refine ⟨fun _ => Sb, ?_⟩
              clear x0 x1' zf R622 R722 D22 E22 S22
              generalize (v22.setCell ⟨K21, 0, none⟩ (.bool false)).setCell ⟨K21, 1, none⟩ (.slice a22 n22 c22) = V9 at *
              have O7 := Row.set2 P7 (.bool false) (.slice e22 f22 g22)
              have O6 := (Row.other P6 (K := K17) (by omega) 0 (.bool false)).other (K := K17) (by omega) 1 (.slice e22 f22 g22)
              have Eq := Dq.store P7 (.bool false) (.slice e22 f22 g22)
              have Er := Dr.store P7 (.bool false) (.slice e22 f22 g22)
              have Sc := below_set (below_set Sb (B := K17) 0 (.bool false) (by omega)) (B := K17) 1 (.slice e22 f22 g22) (by omega)
              obtain ⟨x0, x1'⟩ := Row.duo P7
              have zf := Row.frozen P7
              refine wpM_one 12 rfl (by kernel_rfl) rfl ?_
              go_wp2_with fail
              refine ⟨fun _ => Sc, ?_⟩
              refine wpM_done (by kernel_rfl) ?_
              go_wp2_with fail
              go_meet
              exact ⟨K21, K17, a22, n22, c22, e22, f22, g22, rfl, rfl, hne23, by omega, by omega, O6, O7, Eq, Er, Sc⟩
        · go_wp2_with fail
          have R624 := Row.new v1 45 #[.bool false, .slice none 0 0]
          have S24 : Below W2.heap.size W2 (v1.alloc (.cells #[.bool false, .slice none 0 0] 45)) := S1.alloc S1.size _
          have L24 : W2.heap.size ≤ v1.heap.size := S1.size
          have D24 := D1.below ((Below.refl _ v1).alloc (Nat.le_refl _) (.cells #[.bool false, .slice none 0 0] 45))
          refine ⟨fun _ => S24, ?_⟩
          clear S1 D1 
          generalize v1.alloc (.cells #[.bool false, .slice none 0 0] 45) = v24 at *
          generalize v1.heap.size = K24 at *
          refine wpM_two 4 10 rfl rfl (by kernel_rfl) rfl rfl ?_ ?_
          · go_wp2_with fail
            refine Calls.mono (H2 _ _ _ _ D24).out ?_
            rintro _ v25 ⟨a25, n25, c25, rfl, D25, b25⟩
            have S25 : Below W2.heap.size W2 v25 := S24.trans (b25.mono S24.size)
            have R625 := R624.below b25 R624.lt
            clear b25
            go_wp2_with fail
            refine ⟨fun _ => S25, ?_⟩
            refine wpM_two 5 10 rfl rfl (by kernel_rfl) rfl rfl ?_ ?_
            · go_wp2_with fail
              refine Calls.mono (H3 _ _ _ _ S25 D25).out ?_
              rintro _ v26 ⟨a26, n26, c26, e26, f26, g26, rfl, D26, E26, b26⟩
              have S26 : Below W2.heap.size W2 v26 := S25.trans (b26.mono S25.size)
              have R626 := R625.below b26 R625.lt
              clear b26
              go_wp2_with fail
              refine ⟨fun _ => S26, ?_⟩
              refine wpM_held 6 (v := .tuple #[.agg #[.bool false, .slice a26 n26 c26], .agg #[.bool false, .slice e26 f26 g26]]) rfl (by kernel_rfl) (by kernel_rfl) rfl (fun _ _ _ h => h) rfl (by intro wx hx; go_simp <;> rfl) S26 ?_
              refine wpM_held 7 (v := .agg #[.bool false, .slice a26 n26 c26]) rfl (by kernel_rfl) (by kernel_rfl) rfl (fun _ _ _ h => h) rfl (by intro wx hx; go_simp <;> rfl) S26 ?_
              refine wpM_held 8 (v := .agg #[.bool false, .slice e26 f26 g26]) rfl (by kernel_rfl) (by kernel_rfl) rfl (fun _ _ _ h => h) rfl (by intro wx hx; go_simp <;> rfl) S26 ?_
              refine wpM_one 10 rfl (by kernel_rfl) rfl ?_
              go_wp2_with fail
              have R727 := Row.new v26 45 #[.bool false, .slice none 0 0]
              have S27 : Below W2.heap.size W2 (v26.alloc (.cells #[.bool false, .slice none 0 0] 45)) := S26.alloc S26.size _
              have L27 : W2.heap.size ≤ v26.heap.size := S26.size
              have N27 := R626.lt
              have R627 := R626.alloc (.cells #[.bool false, .slice none 0 0] 45)
              have D27 := D26.below ((Below.refl _ v26).alloc (Nat.le_refl _) (.cells #[.bool false, .slice none 0 0] 45))
              have E27 := E26.below ((Below.refl _ v26).alloc (Nat.le_refl _) (.cells #[.bool false, .slice none 0 0] 45))
              refine ⟨fun _ => S27, ?_⟩
              clear S26 D26 E26 R626
              generalize v26.alloc (.cells #[.bool false, .slice none 0 0] 45) = v27 at *
              generalize v26.heap.size = K27 at *
              have hne28 : K24 ≠ K27 := by omega
              have P6 := Row.set2 R627 (.bool false) (.slice a26 n26 c26)
              have P7 := (Row.other R727 (K := K24) (by omega) 0 (.bool false)).other (K := K24) (by omega) 1 (.slice a26 n26 c26)
              have Dq := D27.store R627 (.bool false) (.slice a26 n26 c26)
              have Dr := E27.store R627 (.bool false) (.slice a26 n26 c26)
              have Sb := below_set (below_set S27 (B := K24) 0 (.bool false) (by omega)) (B := K24) 1 (.slice a26 n26 c26) (by omega)
              obtain ⟨x0, x1'⟩ := Row.duo R627
              have zf := Row.frozen R627
              refine wpM_one 11 rfl (by kernel_rfl) rfl ?_
              go_wp2_with fail
              refine ⟨fun _ => Sb, ?_⟩
              clear x0 x1' zf R627 R727 D27 E27 S27
              generalize (v27.setCell ⟨K24, 0, none⟩ (.bool false)).setCell ⟨K24, 1, none⟩ (.slice a26 n26 c26) = V9 at *
              have O7 := Row.set2 P7 (.bool false) (.slice e26 f26 g26)
              have O6 := (Row.other P6 (K := K27) (by omega) 0 (.bool false)).other (K := K27) (by omega) 1 (.slice e26 f26 g26)
              have Eq := Dq.store P7 (.bool false) (.slice e26 f26 g26)
              have Er := Dr.store P7 (.bool false) (.slice e26 f26 g26)
              have Sc := below_set (below_set Sb (B := K27) 0 (.bool false) (by omega)) (B := K27) 1 (.slice e26 f26 g26) (by omega)
              obtain ⟨x0, x1'⟩ := Row.duo P7
              have zf := Row.frozen P7
              refine wpM_one 12 rfl (by kernel_rfl) rfl ?_
              go_wp2_with fail
              refine ⟨fun _ => Sc, ?_⟩
              refine wpM_done (by kernel_rfl) ?_
              go_wp2_with fail
              go_meet
              exact ⟨K24, K27, a26, n26, c26, e26, f26, g26, rfl, rfl, hne28, by omega, by omega, O6, O7, Eq, Er, Sc⟩
            · go_wp2_with fail
              have R729 := Row.new v25 45 #[.bool false, .slice none 0 0]
              have S29 : Below W2.heap.size W2 (v25.alloc (.cells #[.bool false, .slice none 0 0] 45)) := S25.alloc S25.size _
              have L29 : W2.heap.size ≤ v25.heap.size := S25.size
              have N29 := R625.lt
              have R629 := R625.alloc (.cells #[.bool false, .slice none 0 0] 45)
              have D29 := D25.below ((Below.refl _ v25).alloc (Nat.le_refl _) (.cells #[.bool false, .slice none 0 0] 45))
              refine ⟨fun _ => S29, ?_⟩
              clear S25 D25 R625
              generalize v25.alloc (.cells #[.bool false, .slice none 0 0] 45) = v29 at *
              generalize v25.heap.size = K29 at *
              refine wpM_one 5 rfl (by kernel_rfl) rfl ?_
              go_wp2_with fail
              refine Calls.mono (H3 _ _ _ _ S29 D29).out ?_
              rintro _ v30 ⟨a30, n30, c30, e30, f30, g30, rfl, D30, E30, b30⟩
              have S30 : Below W2.heap.size W2 v30 := S29.trans (b30.mono S29.size)
              have R630 := R629.below b30 R629.lt
              have R730 := R729.below b30 R729.lt
              clear b30
              go_wp2_with fail
              refine ⟨fun _ => S30, ?_⟩
              refine wpM_held 6 (v := .tuple #[.agg #[.bool false, .slice a30 n30 c30], .agg #[.bool false, .slice e30 f30 g30]]) rfl (by kernel_rfl) (by kernel_rfl) rfl (fun _ _ _ h => h) rfl (by intro wx hx; go_simp <;> rfl) S30 ?_
              refine wpM_held 7 (v := .agg #[.bool false, .slice a30 n30 c30]) rfl (by kernel_rfl) (by kernel_rfl) rfl (fun _ _ _ h => h) rfl (by intro wx hx; go_simp <;> rfl) S30 ?_
              refine wpM_held 8 (v := .agg #[.bool false, .slice e30 f30 g30]) rfl (by kernel_rfl) (by kernel_rfl) rfl (fun _ _ _ h => h) rfl (by intro wx hx; go_simp <;> rfl) S30 ?_
              have hne31 : K24 ≠ K29 := by omega
              have P6 := Row.set2 R630 (.bool false) (.slice a30 n30 c30)
              have P7 := (Row.other R730 (K := K24) (by omega) 0 (.bool false)).other (K := K24) (by omega) 1 (.slice a30 n30 c30)
              have Dq := D30.store R630 (.bool false) (.slice a30 n30 c30)
              have Dr := E30.store R630 (.bool false) (.slice a30 n30 c30)
              have Sb := below_set (below_set S30 (B := K24) 0 (.bool false) (by omega)) (B := K24) 1 (.slice a30 n30 c30) (by omega)
              obtain ⟨x0, x1'⟩ := Row.duo R630
              have zf := Row.frozen R630
              refine wpM_one 11 rfl (by kernel_rfl) rfl ?_
              go_wp2_with fail
              refine ⟨fun _ => Sb, ?_⟩
              clear x0 x1' zf R630 R730 D30 E30 S30
              generalize (v30.setCell ⟨K24, 0, none⟩ (.bool false)).setCell ⟨K24, 1, none⟩ (.slice a30 n30 c30) = V9 at *
              have O7 := Row.set2 P7 (.bool false) (.slice e30 f30 g30)
              have O6 := (Row.other P6 (K := K29) (by omega) 0 (.bool false)).other (K := K29) (by omega) 1 (.slice e30 f30 g30)
              have Eq := Dq.store P7 (.bool false) (.slice e30 f30 g30)
              have Er := Dr.store P7 (.bool false) (.slice e30 f30 g30)
              have Sc := below_set (below_set Sb (B := K29) 0 (.bool false) (by omega)) (B := K29) 1 (.slice e30 f30 g30) (by omega)
              obtain ⟨x0, x1'⟩ := Row.duo P7
              have zf := Row.frozen P7
              refine wpM_one 12 rfl (by kernel_rfl) rfl ?_
              go_wp2_with fail
              refine ⟨fun _ => Sc, ?_⟩
              refine wpM_done (by kernel_rfl) ?_
              go_wp2_with fail
              go_meet
              exact ⟨K24, K29, a30, n30, c30, e30, f30, g30, rfl, rfl, hne31, by omega, by omega, O6, O7, Eq, Er, Sc⟩
          · go_wp2_with fail
            have R732 := Row.new v24 45 #[.bool false, .slice none 0 0]
            have S32 : Below W2.heap.size W2 (v24.alloc (.cells #[.bool false, .slice none 0 0] 45)) := S24.alloc S24.size _
            have L32 : W2.heap.size ≤ v24.heap.size := S24.size
            have N32 := R624.lt
            have R632 := R624.alloc (.cells #[.bool false, .slice none 0 0] 45)
            have D32 := D24.below ((Below.refl _ v24).alloc (Nat.le_refl _) (.cells #[.bool false, .slice none 0 0] 45))
            refine ⟨fun _ => S32, ?_⟩
            clear S24 D24 R624
            generalize v24.alloc (.cells #[.bool false, .slice none 0 0] 45) = v32 at *
            generalize v24.heap.size = K32 at *
            refine wpM_one 4 rfl (by kernel_rfl) rfl ?_
            go_wp2_with fail
            refine Calls.mono (H2 _ _ _ _ D32).out ?_
            rintro _ v33 ⟨a33, n33, c33, rfl, D33, b33⟩
            have S33 : Below W2.heap.size W2 v33 := S32.trans (b33.mono S32.size)
            have R633 := R632.below b33 R632.lt
            have R733 := R732.below b33 R732.lt
            clear b33
            go_wp2_with fail
            refine ⟨fun _ => S33, ?_⟩
            refine wpM_one 5 rfl (by kernel_rfl) rfl ?_
            go_wp2_with fail
            refine Calls.mono (H3 _ _ _ _ S33 D33).out ?_
            rintro _ v34 ⟨a34, n34, c34, e34, f34, g34, rfl, D34, E34, b34⟩
            have S34 : Below W2.heap.size W2 v34 := S33.trans (b34.mono S33.size)
            have R634 := R633.below b34 R633.lt
            have R734 := R733.below b34 R733.lt
            clear b34
            go_wp2_with fail
            refine ⟨fun _ => S34, ?_⟩
            refine wpM_held 6 (v := .tuple #[.agg #[.bool false, .slice a34 n34 c34], .agg #[.bool false, .slice e34 f34 g34]]) rfl (by kernel_rfl) (by kernel_rfl) rfl (fun _ _ _ h => h) rfl (by intro wx hx; go_simp <;> rfl) S34 ?_
            refine wpM_held 7 (v := .agg #[.bool false, .slice a34 n34 c34]) rfl (by kernel_rfl) (by kernel_rfl) rfl (fun _ _ _ h => h) rfl (by intro wx hx; go_simp <;> rfl) S34 ?_
            refine wpM_held 8 (v := .agg #[.bool false, .slice e34 f34 g34]) rfl (by kernel_rfl) (by kernel_rfl) rfl (fun _ _ _ h => h) rfl (by intro wx hx; go_simp <;> rfl) S34 ?_
            have hne35 : K24 ≠ K32 := by omega
            have P6 := Row.set2 R634 (.bool false) (.slice a34 n34 c34)
            have P7 := (Row.other R734 (K := K24) (by omega) 0 (.bool false)).other (K := K24) (by omega) 1 (.slice a34 n34 c34)
            have Dq := D34.store R634 (.bool false) (.slice a34 n34 c34)
            have Dr := E34.store R634 (.bool false) (.slice a34 n34 c34)
            have Sb := below_set (below_set S34 (B := K24) 0 (.bool false) (by omega)) (B := K24) 1 (.slice a34 n34 c34) (by omega)
            obtain ⟨x0, x1'⟩ := Row.duo R634
            have zf := Row.frozen R634
            refine wpM_one 11 rfl (by kernel_rfl) rfl ?_
            go_wp2_with fail
            refine ⟨fun _ => Sb, ?_⟩
            clear x0 x1' zf R634 R734 D34 E34 S34
            generalize (v34.setCell ⟨K24, 0, none⟩ (.bool false)).setCell ⟨K24, 1, none⟩ (.slice a34 n34 c34) = V9 at *
            have O7 := Row.set2 P7 (.bool false) (.slice e34 f34 g34)
            have O6 := (Row.other P6 (K := K32) (by omega) 0 (.bool false)).other (K := K32) (by omega) 1 (.slice e34 f34 g34)
            have Eq := Dq.store P7 (.bool false) (.slice e34 f34 g34)
            have Er := Dr.store P7 (.bool false) (.slice e34 f34 g34)
            have Sc := below_set (below_set Sb (B := K32) 0 (.bool false) (by omega)) (B := K32) 1 (.slice e34 f34 g34) (by omega)
            obtain ⟨x0, x1'⟩ := Row.duo P7
            have zf := Row.frozen P7
            refine wpM_one 12 rfl (by kernel_rfl) rfl ?_
            go_wp2_with fail
            refine ⟨fun _ => Sc, ?_⟩
            refine wpM_done (by kernel_rfl) ?_
            go_wp2_with fail
            go_meet
            exact ⟨K24, K32, a34, n34, c34, e34, f34, g34, rfl, rfl, hne35, by omega, by omega, O6, O7, Eq, Er, Sc⟩
        · go_wp2_with fail
          have R736 := Row.new v1 45 #[.bool false, .slice none 0 0]
          have S36 : Below W2.heap.size W2 (v1.alloc (.cells #[.bool false, .slice none 0 0] 45)) := S1.alloc S1.size _
          have L36 : W2.heap.size ≤ v1.heap.size := S1.size
          have D36 := D1.below ((Below.refl _ v1).alloc (Nat.le_refl _) (.cells #[.bool false, .slice none 0 0] 45))
          refine ⟨fun _ => S36, ?_⟩
          clear S1 D1 
          generalize v1.alloc (.cells #[.bool false, .slice none 0 0] 45) = v36 at *
          generalize v1.heap.size = K36 at *
          refine wpM_two 4 9 rfl rfl (by kernel_rfl) rfl rfl ?_ ?_
          · go_wp2_with fail
            refine Calls.mono (H2 _ _ _ _ D36).out ?_
            rintro _ v37 ⟨a37, n37, c37, rfl, D37, b37⟩
            have S37 : Below W2.heap.size W2 v37 := S36.trans (b37.mono S36.size)
            have R737 := R736.below b37 R736.lt
            clear b37
            go_wp2_with fail
            refine ⟨fun _ => S37, ?_⟩
            refine wpM_two 5 9 rfl rfl (by kernel_rfl) rfl rfl ?_ ?_
            · go_wp2_with fail
              refine Calls.mono (H3 _ _ _ _ S37 D37).out ?_
              rintro _ v38 ⟨a38, n38, c38, e38, f38, g38, rfl, D38, E38, b38⟩
              have S38 : Below W2.heap.size W2 v38 := S37.trans (b38.mono S37.size)
              have R738 := R737.below b38 R737.lt
              clear b38
              go_wp2_with fail
              refine ⟨fun _ => S38, ?_⟩
              refine wpM_held 6 (v := .tuple #[.agg #[.bool false, .slice a38 n38 c38], .agg #[.bool false, .slice e38 f38 g38]]) rfl (by kernel_rfl) (by kernel_rfl) rfl (fun _ _ _ h => h) rfl (by intro wx hx; go_simp <;> rfl) S38 ?_
              refine wpM_held 7 (v := .agg #[.bool false, .slice a38 n38 c38]) rfl (by kernel_rfl) (by kernel_rfl) rfl (fun _ _ _ h => h) rfl (by intro wx hx; go_simp <;> rfl) S38 ?_
              refine wpM_held 8 (v := .agg #[.bool false, .slice e38 f38 g38]) rfl (by kernel_rfl) (by kernel_rfl) rfl (fun _ _ _ h => h) rfl (by intro wx hx; go_simp <;> rfl) S38 ?_
              refine wpM_one 9 rfl (by kernel_rfl) rfl ?_
              go_wp2_with fail
              have R639 := Row.new v38 45 #[.bool false, .slice none 0 0]
              have S39 : Below W2.heap.size W2 (v38.alloc (.cells #[.bool false, .slice none 0 0] 45)) := S38.alloc S38.size _
              have L39 : W2.heap.size ≤ v38.heap.size := S38.size
              have N39 := R738.lt
              have R739 := R738.alloc (.cells #[.bool false, .slice none 0 0] 45)
              have D39 := D38.below ((Below.refl _ v38).alloc (Nat.le_refl _) (.cells #[.bool false, .slice none 0 0] 45))
              have E39 := E38.below ((Below.refl _ v38).alloc (Nat.le_refl _) (.cells #[.bool false, .slice none 0 0] 45))
              refine ⟨fun _ => S39, ?_⟩
              clear S38 D38 E38 R738
              generalize v38.alloc (.cells #[.bool false, .slice none 0 0] 45) = v39 at *
              generalize v38.heap.size = K39 at *
              have hne40 : K39 ≠ K36 := by omega
              have P6 := Row.set2 R639 (.bool false) (.slice a38 n38 c38)
              have P7 := (Row.other R739 (K := K39) (by omega) 0 (.bool false)).other (K := K39) (by omega) 1 (.slice a38 n38 c38)
              have Dq := D39.store R639 (.bool false) (.slice a38 n38 c38)
              have Dr := E39.store R639 (.bool false) (.slice a38 n38 c38)
              have Sb := below_set (below_set S39 (B := K39) 0 (.bool false) (by omega)) (B := K39) 1 (.slice a38 n38 c38) (by omega)
              obtain ⟨x0, x1'⟩ := Row.duo R639
              have zf := Row.frozen R639
              refine wpM_one 11 rfl (by kernel_rfl) rfl ?_
              go_wp2_with fail
              refine ⟨fun _ => Sb, ?_⟩
              clear x0 x1' zf R639 R739 D39 E39 S39
              generalize (v39.setCell ⟨K39, 0, none⟩ (.bool false)).setCell ⟨K39, 1, none⟩ (.slice a38 n38 c38) = V9 at *
              have O7 := Row.set2 P7 (.bool false) (.slice e38 f38 g38)
              have O6 := (Row.other P6 (K := K36) (by omega) 0 (.bool false)).other (K := K36) (by omega) 1 (.slice e38 f38 g38)
              have Eq := Dq.store P7 (.bool false) (.slice e38 f38 g38)
              have Er := Dr.store P7 (.bool false) (.slice e38 f38 g38)
              have Sc := below_set (below_set Sb (B := K36) 0 (.bool false) (by omega)) (B := K36) 1 (.slice e38 f38 g38) (by omega)
              obtain ⟨x0, x1'⟩ := Row.duo P7
              have zf := Row.frozen P7
              refine wpM_one 12 rfl (by kernel_rfl) rfl ?_
              go_wp2_with fail
              refine ⟨fun _ => Sc, ?_⟩
              refine wpM_done (by kernel_rfl) ?_
              go_wp2_with fail
              go_meet
              exact ⟨K39, K36, a38, n38, c38, e38, f38, g38, rfl, rfl, hne40, by omega, by omega, O6, O7, Eq, Er, Sc⟩
            · go_wp2_with fail
              have R641 := Row.new v37 45 #[.bool false, .slice none 0 0]
              have S41 : Below W2.heap.size W2 (v37.alloc (.cells #[.bool false, .slice none 0 0] 45)) := S37.alloc S37.size _
              have L41 : W2.heap.size ≤ v37.heap.size := S37.size
              have N41 := R737.lt
              have R741 := R737.alloc (.cells #[.bool false, .slice none 0 0] 45)
              have D41 := D37.below ((Below.refl _ v37).alloc (Nat.le_refl _) (.cells #[.bool false, .slice none 0 0] 45))
              refine ⟨fun _ => S41, ?_⟩
              clear S37 D37 R737
              generalize v37.alloc (.cells #[.bool false, .slice none 0 0] 45) = v41 at *
              generalize v37.heap.size = K41 at *
              refine wpM_one 5 rfl (by kernel_rfl) rfl ?_
              go_wp2_with fail
              refine Calls.mono (H3 _ _ _ _ S41 D41).out ?_
              rintro _ v42 ⟨a42, n42, c42, e42, f42, g42, rfl, D42, E42, b42⟩
              have S42 : Below W2.heap.size W2 v42 := S41.trans (b42.mono S41.size)
              have R742 := R741.below b42 R741.lt
              have R642 := R641.below b42 R641.lt
              clear b42
              go_wp2_with fail
              refine ⟨fun _ => S42, ?_⟩
              refine wpM_held 6 (v := .tuple #[.agg #[.bool false, .slice a42 n42 c42], .agg #[.bool false, .slice e42 f42 g42]]) rfl (by kernel_rfl) (by kernel_rfl) rfl (fun _ _ _ h => h) rfl (by intro wx hx; go_simp <;> rfl) S42 ?_
              refine wpM_held 7 (v := .agg #[.bool false, .slice a42 n42 c42]) rfl (by kernel_rfl) (by kernel_rfl) rfl (fun _ _ _ h => h) rfl (by intro wx hx; go_simp <;> rfl) S42 ?_
              refine wpM_held 8 (v := .agg #[.bool false, .slice e42 f42 g42]) rfl (by kernel_rfl) (by kernel_rfl) rfl (fun _ _ _ h => h) rfl (by intro wx hx; go_simp <;> rfl) S42 ?_
              have hne43 : K41 ≠ K36 := by omega
              have P6 := Row.set2 R642 (.bool false) (.slice a42 n42 c42)
              have P7 := (Row.other R742 (K := K41) (by omega) 0 (.bool false)).other (K := K41) (by omega) 1 (.slice a42 n42 c42)
              have Dq := D42.store R642 (.bool false) (.slice a42 n42 c42)
              have Dr := E42.store R642 (.bool false) (.slice a42 n42 c42)
              have Sb := below_set (below_set S42 (B := K41) 0 (.bool false) (by omega)) (B := K41) 1 (.slice a42 n42 c42) (by omega)
              obtain ⟨x0, x1'⟩ := Row.duo R642
              have zf := Row.frozen R642
              refine wpM_one 11 rfl (by kernel_rfl) rfl ?_
              go_wp2_with fail
              refine ⟨fun _ => Sb, ?_⟩
              clear x0 x1' zf R642 R742 D42 E42 S42
              generalize (v42.setCell ⟨K41, 0, none⟩ (.bool false)).setCell ⟨K41, 1, none⟩ (.slice a42 n42 c42) = V9 at *
              have O7 := Row.set2 P7 (.bool false) (.slice e42 f42 g42)
              have O6 := (Row.other P6 (K := K36) (by omega) 0 (.bool false)).other (K := K36) (by omega) 1 (.slice e42 f42 g42)
              have Eq := Dq.store P7 (.bool false) (.slice e42 f42 g42)
              have Er := Dr.store P7 (.bool false) (.slice e42 f42 g42)
              have Sc := below_set (below_set Sb (B := K36) 0 (.bool false) (by omega)) (B := K36) 1 (.slice e42 f42 g42) (by omega)
              obtain ⟨x0, x1'⟩ := Row.duo P7
              have zf := Row.frozen P7
              refine wpM_one 12 rfl (by kernel_rfl) rfl ?_
              go_wp2_with fail
              refine ⟨fun _ => Sc, ?_⟩
              refine wpM_done (by kernel_rfl) ?_
              go_wp2_with fail
              go_meet
              exact ⟨K41, K36, a42, n42, c42, e42, f42, g42, rfl, rfl, hne43, by omega, by omega, O6, O7, Eq, Er, Sc⟩
          · go_wp2_with fail
            have R644 := Row.new v36 45 #[.bool false, .slice none 0 0]
            have S44 : Below W2.heap.size W2 (v36.alloc (.cells #[.bool false, .slice none 0 0] 45)) := S36.alloc S36.size _
            have L44 : W2.heap.size ≤ v36.heap.size := S36.size
            have N44 := R736.lt
            have R744 := R736.alloc (.cells #[.bool false, .slice none 0 0] 45)
            have D44 := D36.below ((Below.refl _ v36).alloc (Nat.le_refl _) (.cells #[.bool false, .slice none 0 0] 45))
            refine ⟨fun _ => S44, ?_⟩
            clear S36 D36 R736
            generalize v36.alloc (.cells #[.bool false, .slice none 0 0] 45) = v44 at *
            generalize v36.heap.size = K44 at *
            refine wpM_one 4 rfl (by kernel_rfl) rfl ?_
            go_wp2_with fail
            refine Calls.mono (H2 _ _ _ _ D44).out ?_
            rintro _ v45 ⟨a45, n45, c45, rfl, D45, b45⟩
            have S45 : Below W2.heap.size W2 v45 := S44.trans (b45.mono S44.size)
            have R745 := R744.below b45 R744.lt
            have R645 := R644.below b45 R644.lt
            clear b45
            go_wp2_with fail
            refine ⟨fun _ => S45, ?_⟩
            refine wpM_one 5 rfl (by kernel_rfl) rfl ?_
            go_wp2_with fail
            refine Calls.mono (H3 _ _ _ _ S45 D45).out ?_
            rintro _ v46 ⟨a46, n46, c46, e46, f46, g46, rfl, D46, E46, b46⟩
            have S46 : Below W2.heap.size W2 v46 := S45.trans (b46.mono S45.size)
            have R746 := R745.below b46 R745.lt
            have R646 := R645.below b46 R645.lt
            clear b46
            go_wp2_with fail
            refine ⟨fun _ => S46, ?_⟩
            refine wpM_held 6 (v := .tuple #[.agg #[.bool false, .slice a46 n46 c46], .agg #[.bool false, .slice e46 f46 g46]]) rfl (by kernel_rfl) (by kernel_rfl) rfl (fun _ _ _ h => h) rfl (by intro wx hx; go_simp <;> rfl) S46 ?_
            refine wpM_held 7 (v := .agg #[.bool false, .slice a46 n46 c46]) rfl (by kernel_rfl) (by kernel_rfl) rfl (fun _ _ _ h => h) rfl (by intro wx hx; go_simp <;> rfl) S46 ?_
            refine wpM_held 8 (v := .agg #[.bool false, .slice e46 f46 g46]) rfl (by kernel_rfl) (by kernel_rfl) rfl (fun _ _ _ h => h) rfl (by intro wx hx; go_simp <;> rfl) S46 ?_
            have hne47 : K44 ≠ K36 := by omega
            have P6 := Row.set2 R646 (.bool false) (.slice a46 n46 c46)
            have P7 := (Row.other R746 (K := K44) (by omega) 0 (.bool false)).other (K := K44) (by omega) 1 (.slice a46 n46 c46)
            have Dq := D46.store R646 (.bool false) (.slice a46 n46 c46)
            have Dr := E46.store R646 (.bool false) (.slice a46 n46 c46)
            have Sb := below_set (below_set S46 (B := K44) 0 (.bool false) (by omega)) (B := K44) 1 (.slice a46 n46 c46) (by omega)
            obtain ⟨x0, x1'⟩ := Row.duo R646
            have zf := Row.frozen R646
            refine wpM_one 11 rfl (by kernel_rfl) rfl ?_
            go_wp2_with fail
            refine ⟨fun _ => Sb, ?_⟩
            clear x0 x1' zf R646 R746 D46 E46 S46
            generalize (v46.setCell ⟨K44, 0, none⟩ (.bool false)).setCell ⟨K44, 1, none⟩ (.slice a46 n46 c46) = V9 at *
            have O7 := Row.set2 P7 (.bool false) (.slice e46 f46 g46)
            have O6 := (Row.other P6 (K := K36) (by omega) 0 (.bool false)).other (K := K36) (by omega) 1 (.slice e46 f46 g46)
            have Eq := Dq.store P7 (.bool false) (.slice e46 f46 g46)
            have Er := Dr.store P7 (.bool false) (.slice e46 f46 g46)
            have Sc := below_set (below_set Sb (B := K36) 0 (.bool false) (by omega)) (B := K36) 1 (.slice e46 f46 g46) (by omega)
            obtain ⟨x0, x1'⟩ := Row.duo P7
            have zf := Row.frozen P7
            refine wpM_one 12 rfl (by kernel_rfl) rfl ?_
            go_wp2_with fail
            refine ⟨fun _ => Sc, ?_⟩
            refine wpM_done (by kernel_rfl) ?_
            go_wp2_with fail
            go_meet
            exact ⟨K44, K36, a46, n46, c46, e46, f46, g46, rfl, rfl, hne47, by omega, by omega, O6, O7, Eq, Er, Sc⟩
      · go_wp2_with fail
        have R648 : Row (W2.alloc (.cells #[.bool false, .slice none 0 0] 45)).drew W2.heap.size 45 #[.bool false, .slice none 0 0] := Row.new W2 45 #[.bool false, .slice none 0 0]
        have S48 : Below W2.heap.size W2 (W2.alloc (.cells #[.bool false, .slice none 0 0] 45)).drew := ((Below.refl _ W2).alloc (Nat.le_refl _) _).drew
        refine ⟨fun _ => S48, ?_⟩
        generalize (W2.alloc (.cells #[.bool false, .slice none 0 0] 45)).drew = v48 at *
        have L48 : W2.heap.size ≤ W2.heap.size := Nat.le_refl _
        refine wpM_two 2 10 rfl rfl (by kernel_rfl) rfl rfl ?_ ?_
        · go_wp2_with fail
          refine Calls.mono (H1 _).out ?_
          rintro _ v49 ⟨a49, n49, c49, rfl, D49, b49⟩
          have S49 : Below W2.heap.size W2 v49 := S48.trans (b49.mono S48.size)
          have R649 := R648.below b49 R648.lt
          clear b49
          go_wp2_with fail
          refine ⟨fun _ => S49, ?_⟩
          refine wpM_two 4 10 rfl rfl (by kernel_rfl) rfl rfl ?_ ?_
          · go_wp2_with fail
            refine Calls.mono (H2 _ _ _ _ D49).out ?_
            rintro _ v50 ⟨a50, n50, c50, rfl, D50, b50⟩
            have S50 : Below W2.heap.size W2 v50 := S49.trans (b50.mono S49.size)
            have R650 := R649.below b50 R649.lt
            clear b50
            go_wp2_with fail
            refine ⟨fun _ => S50, ?_⟩
            refine wpM_two 5 10 rfl rfl (by kernel_rfl) rfl rfl ?_ ?_
            · go_wp2_with fail
              refine Calls.mono (H3 _ _ _ _ S50 D50).out ?_
              rintro _ v51 ⟨a51, n51, c51, e51, f51, g51, rfl, D51, E51, b51⟩
              have S51 : Below W2.heap.size W2 v51 := S50.trans (b51.mono S50.size)
              have R651 := R650.below b51 R650.lt
              clear b51
              go_wp2_with fail
              refine ⟨fun _ => S51, ?_⟩
              refine wpM_held 6 (v := .tuple #[.agg #[.bool false, .slice a51 n51 c51], .agg #[.bool false, .slice e51 f51 g51]]) rfl (by kernel_rfl) (by kernel_rfl) rfl (fun _ _ _ h => h) rfl (by intro wx hx; go_simp <;> rfl) S51 ?_
              refine wpM_held 7 (v := .agg #[.bool false, .slice a51 n51 c51]) rfl (by kernel_rfl) (by kernel_rfl) rfl (fun _ _ _ h => h) rfl (by intro wx hx; go_simp <;> rfl) S51 ?_
              refine wpM_held 8 (v := .agg #[.bool false, .slice e51 f51 g51]) rfl (by kernel_rfl) (by kernel_rfl) rfl (fun _ _ _ h => h) rfl (by intro wx hx; go_simp <;> rfl) S51 ?_
              refine wpM_one 10 rfl (by kernel_rfl) rfl ?_
              go_wp2_with fail
              have R752 := Row.new v51 45 #[.bool false, .slice none 0 0]
              have S52 : Below W2.heap.size W2 (v51.alloc (.cells #[.bool false, .slice none 0 0] 45)) := S51.alloc S51.size _
              have L52 : W2.heap.size ≤ v51.heap.size := S51.size
              have N52 := R651.lt
              have R652 := R651.alloc (.cells #[.bool false, .slice none 0 0] 45)
              have D52 := D51.below ((Below.refl _ v51).alloc (Nat.le_refl _) (.cells #[.bool false, .slice none 0 0] 45))
              have E52 := E51.below ((Below.refl _ v51).alloc (Nat.le_refl _) (.cells #[.bool false, .slice none 0 0] 45))
              refine ⟨fun _ => S52, ?_⟩
              clear S51 D51 E51 R651
              generalize v51.alloc (.cells #[.bool false, .slice none 0 0] 45) = v52 at *
              generalize v51.heap.size = K52 at *
              have hne53 : W2.heap.size ≠ K52 := by omega
              have P6 := Row.set2 R652 (.bool false) (.slice a51 n51 c51)
              have P7 := (Row.other R752 (K := W2.heap.size) (by omega) 0 (.bool false)).other (K := W2.heap.size) (by omega) 1 (.slice a51 n51 c51)
              have Dq := D52.store R652 (.bool false) (.slice a51 n51 c51)
              have Dr := E52.store R652 (.bool false) (.slice a51 n51 c51)
              have Sb := below_set (below_set S52 (B := W2.heap.size) 0 (.bool false) (by omega)) (B := W2.heap.size) 1 (.slice a51 n51 c51) (by omega)
              obtain ⟨x0, x1'⟩ := Row.duo R652
              have zf := Row.frozen R652
              refine wpM_one 11 rfl (by kernel_rfl) rfl ?_
              go_wp2_with fail
              refine ⟨fun _ => Sb, ?_⟩
              clear x0 x1' zf R652 R752 D52 E52 S52
              generalize (v52.setCell ⟨W2.heap.size, 0, none⟩ (.bool false)).setCell ⟨W2.heap.size, 1, none⟩ (.slice a51 n51 c51) = V9 at *
              have O7 := Row.set2 P7 (.bool false) (.slice e51 f51 g51)
              have O6 := (Row.other P6 (K := K52) (by omega) 0 (.bool false)).other (K := K52) (by omega) 1 (.slice e51 f51 g51)
              have Eq := Dq.store P7 (.bool false) (.slice e51 f51 g51)
              have Er := Dr.store P7 (.bool false) (.slice e51 f51 g51)
              have Sc := below_set (below_set Sb (B := K52) 0 (.bool false) (by omega)) (B := K52) 1 (.slice e51 f51 g51) (by omega)
              obtain ⟨x0, x1'⟩ := Row.duo P7
              have zf := Row.frozen P7
              refine wpM_one 12 rfl (by kernel_rfl) rfl ?_
              go_wp2_with fail
              refine ⟨fun _ => Sc, ?_⟩
              refine wpM_done (by kernel_rfl) ?_
              go_wp2_with fail
              go_meet
              exact ⟨W2.heap.size, K52, a51, n51, c51, e51, f51, g51, rfl, rfl, hne53, by omega, by omega, O6, O7, Eq, Er, Sc⟩
            · go_wp2_with fail
              have R754 := Row.new v50 45 #[.bool false, .slice none 0 0]
              have S54 : Below W2.heap.size W2 (v50.alloc (.cells #[.bool false, .slice none 0 0] 45)) := S50.alloc S50.size _
              have L54 : W2.heap.size ≤ v50.heap.size := S50.size
              have N54 := R650.lt
              have R654 := R650.alloc (.cells #[.bool false, .slice none 0 0] 45)
              have D54 := D50.below ((Below.refl _ v50).alloc (Nat.le_refl _) (.cells #[.bool false, .slice none 0 0] 45))
              refine ⟨fun _ => S54, ?_⟩
              clear S50 D50 R650
              generalize v50.alloc (.cells #[.bool false, .slice none 0 0] 45) = v54 at *
              generalize v50.heap.size = K54 at *
              refine wpM_one 5 rfl (by kernel_rfl) rfl ?_
              go_wp2_with fail
              refine Calls.mono (H3 _ _ _ _ S54 D54).out ?_
              rintro _ v55 ⟨a55, n55, c55, e55, f55, g55, rfl, D55, E55, b55⟩
              have S55 : Below W2.heap.size W2 v55 := S54.trans (b55.mono S54.size)
              have R655 := R654.below b55 R654.lt
              have R755 := R754.below b55 R754.lt
              clear b55
              go_wp2_with fail
              refine ⟨fun _ => S55, ?_⟩
              refine wpM_held 6 (v := .tuple #[.agg #[.bool false, .slice a55 n55 c55], .agg #[.bool false, .slice e55 f55 g55]]) rfl (by kernel_rfl) (by kernel_rfl) rfl (fun _ _ _ h => h) rfl (by intro wx hx; go_simp <;> rfl) S55 ?_
              refine wpM_held 7 (v := .agg #[.bool false, .slice a55 n55 c55]) rfl (by kernel_rfl) (by kernel_rfl) rfl (fun _ _ _ h => h) rfl (by intro wx hx; go_simp <;> rfl) S55 ?_
              refine wpM_held 8 (v := .agg #[.bool false, .slice e55 f55 g55]) rfl (by kernel_rfl) (by kernel_rfl) rfl (fun _ _ _ h => h) rfl (by intro wx hx; go_simp <;> rfl) S55 ?_
              have hne56 : W2.heap.size ≠ K54 := by omega
              have P6 := Row.set2 R655 (.bool false) (.slice a55 n55 c55)
              have P7 := (Row.other R755 (K := W2.heap.size) (by omega) 0 (.bool false)).other (K := W2.heap.size) (by omega) 1 (.slice a55 n55 c55)
              have Dq := D55.store R655 (.bool false) (.slice a55 n55 c55)
              have Dr := E55.store R655 (.bool false) (.slice a55 n55 c55)
              have Sb := below_set (below_set S55 (B := W2.heap.size) 0 (.bool false) (by omega)) (B := W2.heap.size) 1 (.slice a55 n55 c55) (by omega)
              obtain ⟨x0, x1'⟩ := Row.duo R655
              have zf := Row.frozen R655
              refine wpM_one 11 rfl (by kernel_rfl) rfl ?_
              go_wp2_with fail
              refine ⟨fun _ => Sb, ?_⟩
              clear x0 x1' zf R655 R755 D55 E55 S55
              generalize (v55.setCell ⟨W2.heap.size, 0, none⟩ (.bool false)).setCell ⟨W2.heap.size, 1, none⟩ (.slice a55 n55 c55) = V9 at *
              have O7 := Row.set2 P7 (.bool false) (.slice e55 f55 g55)
              have O6 := (Row.other P6 (K := K54) (by omega) 0 (.bool false)).other (K := K54) (by omega) 1 (.slice e55 f55 g55)
              have Eq := Dq.store P7 (.bool false) (.slice e55 f55 g55)
              have Er := Dr.store P7 (.bool false) (.slice e55 f55 g55)
              have Sc := below_set (below_set Sb (B := K54) 0 (.bool false) (by omega)) (B := K54) 1 (.slice e55 f55 g55) (by omega)
              obtain ⟨x0, x1'⟩ := Row.duo P7
              have zf := Row.frozen P7
              refine wpM_one 12 rfl (by kernel_rfl) rfl ?_
              go_wp2_with fail
              refine ⟨fun _ => Sc, ?_⟩
              refine wpM_done (by kernel_rfl) ?_
              go_wp2_with fail
              go_meet
              exact ⟨W2.heap.size, K54, a55, n55, c55, e55, f55, g55, rfl, rfl, hne56, by omega, by omega, O6, O7, Eq, Er, Sc⟩
          · go_wp2_with fail
            have R757 := Row.new v49 45 #[.bool false, .slice none 0 0]
            have S57 : Below W2.heap.size W2 (v49.alloc (.cells #[.bool false, .slice none 0 0] 45)) := S49.alloc S49.size _
            have L57 : W2.heap.size ≤ v49.heap.size := S49.size
            have N57 := R649.lt
            have R657 := R649.alloc (.cells #[.bool false, .slice none 0 0] 45)
            have D57 := D49.below ((Below.refl _ v49).alloc (Nat.le_refl _) (.cells #[.bool false, .slice none 0 0] 45))
            refine ⟨fun _ => S57, ?_⟩
            clear S49 D49 R649
            generalize v49.alloc (.cells #[.bool false, .slice none 0 0] 45) = v57 at *
            generalize v49.heap.size = K57 at *
            refine wpM_one 4 rfl (by kernel_rfl) rfl ?_
            go_wp2_with fail
            refine Calls.mono (H2 _ _ _ _ D57).out ?_
            rintro _ v58 ⟨a58, n58, c58, rfl, D58, b58⟩
            have S58 : Below W2.heap.size W2 v58 := S57.trans (b58.mono S57.size)
            have R658 := R657.below b58 R657.lt
            have R758 := R757.below b58 R757.lt
            clear b58
            go_wp2_with fail
            refine ⟨fun _ => S58, ?_⟩
            refine wpM_one 5 rfl (by kernel_rfl) rfl ?_
            go_wp2_with fail
            refine Calls.mono (H3 _ _ _ _ S58 D58).out ?_
            rintro _ v59 ⟨a59, n59, c59, e59, f59, g59, rfl, D59, E59, b59⟩
            have S59 : Below W2.heap.size W2 v59 := S58.trans (b59.mono S58.size)
            have R659 := R658.below b59 R658.lt
            have R759 := R758.below b59 R758.lt
            clear b59
            go_wp2_with fail
            refine ⟨fun _ => S59, ?_⟩
            refine wpM_held 6 (v := .tuple #[.agg #[.bool false, .slice a59 n59 c59], .agg #[.bool false, .slice e59 f59 g59]]) rfl (by kernel_rfl) (by kernel_rfl) rfl (fun _ _ _ h => h) rfl (by intro wx hx; go_simp <;> rfl) S59 ?_
            refine wpM_held 7 (v := .agg #[.bool false, .slice a59 n59 c59]) rfl (by kernel_rfl) (by kernel_rfl) rfl (fun _ _ _ h => h) rfl (by intro wx hx; go_simp <;> rfl) S59 ?_
            refine wpM_held 8 (v := .agg #[.bool false, .slice e59 f59 g59]) rfl (by kernel_rfl) (by kernel_rfl) rfl (fun _ _ _ h => h) rfl (by intro wx hx; go_simp <;> rfl) S59 ?_
            have hne60 : W2.heap.size ≠ K57 := by omega
            have P6 := Row.set2 R659 (.bool false) (.slice a59 n59 c59)
            have P7 := (Row.other R759 (K := W2.heap.size) (by omega) 0 (.bool false)).other (K := W2.heap.size) (by omega) 1 (.slice a59 n59 c59)
            have Dq := D59.store R659 (.bool false) (.slice a59 n59 c59)
            have Dr := E59.store R659 (.bool false) (.slice a59 n59 c59)
            have Sb := below_set (below_set S59 (B := W2.heap.size) 0 (.bool false) (by omega)) (B := W2.heap.size) 1 (.slice a59 n59 c59) (by omega)
            obtain ⟨x0, x1'⟩ := Row.duo R659
            have zf := Row.frozen R659
            refine wpM_one 11 rfl (by kernel_rfl) rfl ?_
            go_wp2_with fail
            refine ⟨fun _ => Sb, ?_⟩
            clear x0 x1' zf R659 R759 D59 E59 S59
            generalize (v59.setCell ⟨W2.heap.size, 0, none⟩ (.bool false)).setCell ⟨W2.heap.size, 1, none⟩ (.slice a59 n59 c59) = V9 at *
            have O7 := Row.set2 P7 (.bool false) (.slice e59 f59 g59)
            have O6 := (Row.other P6 (K := K57) (by omega) 0 (.bool false)).other (K := K57) (by omega) 1 (.slice e59 f59 g59)
            have Eq := Dq.store P7 (.bool false) (.slice e59 f59 g59)
            have Er := Dr.store P7 (.bool false) (.slice e59 f59 g59)
            have Sc := below_set (below_set Sb (B := K57) 0 (.bool false) (by omega)) (B := K57) 1 (.slice e59 f59 g59) (by omega)
            obtain ⟨x0, x1'⟩ := Row.duo P7
            have zf := Row.frozen P7
            refine wpM_one 12 rfl (by kernel_rfl) rfl ?_
            go_wp2_with fail
            refine ⟨fun _ => Sc, ?_⟩
            refine wpM_done (by kernel_rfl) ?_
            go_wp2_with fail
            go_meet
            exact ⟨W2.heap.size, K57, a59, n59, c59, e59, f59, g59, rfl, rfl, hne60, by omega, by omega, O6, O7, Eq, Er, Sc⟩
        · go_wp2_with fail
          have R761 := Row.new v48 45 #[.bool false, .slice none 0 0]
          have S61 : Below W2.heap.size W2 (v48.alloc (.cells #[.bool false, .slice none 0 0] 45)) := S48.alloc S48.size _
          have L61 : W2.heap.size ≤ v48.heap.size := S48.size
          have N61 := R648.lt
          have R661 := R648.alloc (.cells #[.bool false, .slice none 0 0] 45)
          refine ⟨fun _ => S61, ?_⟩
          clear S48  R648
          generalize v48.alloc (.cells #[.bool false, .slice none 0 0] 45) = v61 at *
          generalize v48.heap.size = K61 at *
          refine wpM_one 2 rfl (by kernel_rfl) rfl ?_
          go_wp2_with fail
          refine Calls.mono (H1 _).out ?_
          rintro _ v62 ⟨a62, n62, c62, rfl, D62, b62⟩
          have S62 : Below W2.heap.size W2 v62 := S61.trans (b62.mono S61.size)
          have R662 := R661.below b62 R661.lt
          have R762 := R761.below b62 R761.lt
          clear b62
          go_wp2_with fail
          refine ⟨fun _ => S62, ?_⟩
          refine wpM_one 4 rfl (by kernel_rfl) rfl ?_
          go_wp2_with fail
          refine Calls.mono (H2 _ _ _ _ D62).out ?_
          rintro _ v63 ⟨a63, n63, c63, rfl, D63, b63⟩
          have S63 : Below W2.heap.size W2 v63 := S62.trans (b63.mono S62.size)
          have R663 := R662.below b63 R662.lt
          have R763 := R762.below b63 R762.lt
          clear b63
          go_wp2_with fail
          refine ⟨fun _ => S63, ?_⟩
          refine wpM_one 5 rfl (by kernel_rfl) rfl ?_
          go_wp2_with fail
          refine Calls.mono (H3 _ _ _ _ S63 D63).out ?_
          rintro _ v64 ⟨a64, n64, c64, e64, f64, g64, rfl, D64, E64, b64⟩
          have S64 : Below W2.heap.size W2 v64 := S63.trans (b64.mono S63.size)
          have R664 := R663.below b64 R663.lt
          have R764 := R763.below b64 R763.lt
          clear b64
          go_wp2_with fail
          refine ⟨fun _ => S64, ?_⟩
          refine wpM_held 6 (v := .tuple #[.agg #[.bool false, .slice a64 n64 c64], .agg #[.bool false, .slice e64 f64 g64]]) rfl (by kernel_rfl) (by kernel_rfl) rfl (fun _ _ _ h => h) rfl (by intro wx hx; go_simp <;> rfl) S64 ?_
          refine wpM_held 7 (v := .agg #[.bool false, .slice a64 n64 c64]) rfl (by kernel_rfl) (by kernel_rfl) rfl (fun _ _ _ h => h) rfl (by intro wx hx; go_simp <;> rfl) S64 ?_
          refine wpM_held 8 (v := .agg #[.bool false, .slice e64 f64 g64]) rfl (by kernel_rfl) (by kernel_rfl) rfl (fun _ _ _ h => h) rfl (by intro wx hx; go_simp <;> rfl) S64 ?_
          have hne65 : W2.heap.size ≠ K61 := by omega
          have P6 := Row.set2 R664 (.bool false) (.slice a64 n64 c64)
          have P7 := (Row.other R764 (K := W2.heap.size) (by omega) 0 (.bool false)).other (K := W2.heap.size) (by omega) 1 (.slice a64 n64 c64)
          have Dq := D64.store R664 (.bool false) (.slice a64 n64 c64)
          have Dr := E64.store R664 (.bool false) (.slice a64 n64 c64)
          have Sb := below_set (below_set S64 (B := W2.heap.size) 0 (.bool false) (by omega)) (B := W2.heap.size) 1 (.slice a64 n64 c64) (by omega)
          obtain ⟨x0, x1'⟩ := Row.duo R664
          have zf := Row.frozen R664
          refine wpM_one 11 rfl (by kernel_rfl) rfl ?_
          go_wp2_with fail
          refine ⟨fun _ => Sb, ?_⟩
          clear x0 x1' zf R664 R764 D64 E64 S64
          generalize (v64.setCell ⟨W2.heap.size, 0, none⟩ (.bool false)).setCell ⟨W2.heap.size, 1, none⟩ (.slice a64 n64 c64) = V9 at *
          have O7 := Row.set2 P7 (.bool false) (.slice e64 f64 g64)
          have O6 := (Row.other P6 (K := K61) (by omega) 0 (.bool false)).other (K := K61) (by omega) 1 (.slice e64 f64 g64)
          have Eq := Dq.store P7 (.bool false) (.slice e64 f64 g64)
          have Er := Dr.store P7 (.bool false) (.slice e64 f64 g64)
          have Sc := below_set (below_set Sb (B := K61) 0 (.bool false) (by omega)) (B := K61) 1 (.slice e64 f64 g64) (by omega)
          obtain ⟨x0, x1'⟩ := Row.duo P7
          have zf := Row.frozen P7
          refine wpM_one 12 rfl (by kernel_rfl) rfl ?_
          go_wp2_with fail
          refine ⟨fun _ => Sc, ?_⟩
          refine wpM_done (by kernel_rfl) ?_
          go_wp2_with fail
          go_meet
          exact ⟨W2.heap.size, K61, a64, n64, c64, e64, f64, g64, rfl, rfl, hne65, by omega, by omega, O6, O7, Eq, Er, Sc⟩
      · go_wp2_with fail
        have R766 : Row (W2.alloc (.cells #[.bool false, .slice none 0 0] 45)).drew W2.heap.size 45 #[.bool false, .slice none 0 0] := Row.new W2 45 #[.bool false, .slice none 0 0]
        have S66 : Below W2.heap.size W2 (W2.alloc (.cells #[.bool false, .slice none 0 0] 45)).drew := ((Below.refl _ W2).alloc (Nat.le_refl _) _).drew
        refine ⟨fun _ => S66, ?_⟩
        generalize (W2.alloc (.cells #[.bool false, .slice none 0 0] 45)).drew = v66 at *
        have L66 : W2.heap.size ≤ W2.heap.size := Nat.le_refl _
        refine wpM_two 2 9 rfl rfl (by kernel_rfl) rfl rfl ?_ ?_
        · go_wp2_with fail
          refine Calls.mono (H1 _).out ?_
          rintro _ v67 ⟨a67, n67, c67, rfl, D67, b67⟩
          have S67 : Below W2.heap.size W2 v67 := S66.trans (b67.mono S66.size)
          have R767 := R766.below b67 R766.lt
          clear b67
          go_wp2_with fail
          refine ⟨fun _ => S67, ?_⟩
          refine wpM_two 4 9 rfl rfl (by kernel_rfl) rfl rfl ?_ ?_
          · go_wp2_with fail
            refine Calls.mono (H2 _ _ _ _ D67).out ?_
            rintro _ v68 ⟨a68, n68, c68, rfl, D68, b68⟩
            have S68 : Below W2.heap.size W2 v68 := S67.trans (b68.mono S67.size)
            have R768 := R767.below b68 R767.lt
            clear b68
            go_wp2_with fail
            refine ⟨fun _ => S68, ?_⟩
            refine wpM_two 5 9 rfl rfl (by kernel_rfl) rfl rfl ?_ ?_
            · go_wp2_with fail
              refine Calls.mono (H3 _ _ _ _ S68 D68).out ?_
              rintro _ v69 ⟨a69, n69, c69, e69, f69, g69, rfl, D69, E69, b69⟩
              have S69 : Below W2.heap.size W2 v69 := S68.trans (b69.mono S68.size)
              have R769 := R768.below b69 R768.lt
              clear b69
              go_wp2_with fail
              refine ⟨fun _ => S69, ?_⟩
              refine wpM_held 6 (v := .tuple #[.agg #[.bool false, .slice a69 n69 c69], .agg #[.bool false, .slice e69 f69 g69]]) rfl (by kernel_rfl) (by kernel_rfl) rfl (fun _ _ _ h => h) rfl (by intro wx hx; go_simp <;> rfl) S69 ?_
              refine wpM_held 7 (v := .agg #[.bool false, .slice a69 n69 c69]) rfl (by kernel_rfl) (by kernel_rfl) rfl (fun _ _ _ h => h) rfl (by intro wx hx; go_simp <;> rfl) S69 ?_
              refine wpM_held 8 (v := .agg #[.bool false, .slice e69 f69 g69]) rfl (by kernel_rfl) (by kernel_rfl) rfl (fun _ _ _ h => h) rfl (by intro wx hx; go_simp <;> rfl) S69 ?_
              refine wpM_one 9 rfl (by kernel_rfl) rfl ?_
              go_wp2_with fail
              have R670 := Row.new v69 45 #[.bool false, .slice none 0 0]
              have S70 : Below W2.heap.size W2 (v69.alloc (.cells #[.bool false, .slice none 0 0] 45)) := S69.alloc S69.size _
              have L70 : W2.heap.size ≤ v69.heap.size := S69.size
              have N70 := R769.lt
              have R770 := R769.alloc (.cells #[.bool false, .slice none 0 0] 45)
              have D70 := D69.below ((Below.refl _ v69).alloc (Nat.le_refl _) (.cells #[.bool false, .slice none 0 0] 45))
              have E70 := E69.below ((Below.refl _ v69).alloc (Nat.le_refl _) (.cells #[.bool false, .slice none 0 0] 45))
              refine ⟨fun _ => S70, ?_⟩
              clear S69 D69 E69 R769
              generalize v69.alloc (.cells #[.bool false, .slice none 0 0] 45) = v70 at *
              generalize v69.heap.size = K70 at *
              have hne71 : K70 ≠ W2.heap.size := by omega
              have P6 := Row.set2 R670 (.bool false) (.slice a69 n69 c69)
              have P7 := (Row.other R770 (K := K70) (by omega) 0 (.bool false)).other (K := K70) (by omega) 1 (.slice a69 n69 c69)
              have Dq := D70.store R670 (.bool false) (.slice a69 n69 c69)
              have Dr := E70.store R670 (.bool false) (.slice a69 n69 c69)
              have Sb := below_set (below_set S70 (B := K70) 0 (.bool false) (by omega)) (B := K70) 1 (.slice a69 n69 c69) (by omega)
              obtain ⟨x0, x1'⟩ := Row.duo R670
              have zf := Row.frozen R670
              refine wpM_one 11 rfl (by kernel_rfl) rfl ?_
              go_wp2_with fail
              refine ⟨fun _ => Sb, ?_⟩
              clear x0 x1' zf R670 R770 D70 E70 S70
              generalize (v70.setCell ⟨K70, 0, none⟩ (.bool false)).setCell ⟨K70, 1, none⟩ (.slice a69 n69 c69) = V9 at *
              have O7 := Row.set2 P7 (.bool false) (.slice e69 f69 g69)
              have O6 := (Row.other P6 (K := W2.heap.size) (by omega) 0 (.bool false)).other (K := W2.heap.size) (by omega) 1 (.slice e69 f69 g69)
              have Eq := Dq.store P7 (.bool false) (.slice e69 f69 g69)
              have Er := Dr.store P7 (.bool false) (.slice e69 f69 g69)
              have Sc := below_set (below_set Sb (B := W2.heap.size) 0 (.bool false) (by omega)) (B := W2.heap.size) 1 (.slice e69 f69 g69) (by omega)
              obtain ⟨x0, x1'⟩ := Row.duo P7
              have zf := Row.frozen P7
              refine wpM_one 12 rfl (by kernel_rfl) rfl ?_
              go_wp2_with fail
              refine ⟨fun _ => Sc, ?_⟩
              refine wpM_done (by kernel_rfl) ?_
              go_wp2_with fail
              go_meet
              exact ⟨K70, W2.heap.size, a69, n69, c69, e69, f69, g69, rfl, rfl, hne71, by omega, by omega, O6, O7, Eq, Er, Sc⟩
            · go_wp2_with fail
              have R672 := Row.new v68 45 #[.bool false, .slice none 0 0]
              have S72 : Below W2.heap.size W2 (v68.alloc (.cells #[.bool false, .slice none 0 0] 45)) := S68.alloc S68.size _
              have L72 : W2.heap.size ≤ v68.heap.size := S68.size
              have N72 := R768.lt
              have R772 := R768.alloc (.cells #[.bool false, .slice none 0 0] 45)
              have D72 := D68.below ((Below.refl _ v68).alloc (Nat.le_refl _) (.cells #[.bool false, .slice none 0 0] 45))
              refine ⟨fun _ => S72, ?_⟩
              clear S68 D68 R768
              generalize v68.alloc (.cells #[.bool false, .slice none 0 0] 45) = v72 at *
              generalize v68.heap.size = K72 at *
              refine wpM_one 5 rfl (by kernel_rfl) rfl ?_
              go_wp2_with fail
              refine Calls.mono (H3 _ _ _ _ S72 D72).out ?_
              rintro _ v73 ⟨a73, n73, c73, e73, f73, g73, rfl, D73, E73, b73⟩
              have S73 : Below W2.heap.size W2 v73 := S72.trans (b73.mono S72.size)
              have R773 := R772.below b73 R772.lt
              have R673 := R672.below b73 R672.lt
              clear b73
              go_wp2_with fail
              refine ⟨fun _ => S73, ?_⟩
              refine wpM_held 6 (v := .tuple #[.agg #[.bool false, .slice a73 n73 c73], .agg #[.bool false, .slice e73 f73 g73]]) rfl (by kernel_rfl) (by kernel_rfl) rfl (fun _ _ _ h => h) rfl (by intro wx hx; go_simp <;> rfl) S73 ?_
              refine wpM_held 7 (v := .agg #[.bool false, .slice a73 n73 c73]) rfl (by kernel_rfl) (by kernel_rfl) rfl (fun _ _ _ h => h) rfl (by intro wx hx; go_simp <;> rfl) S73 ?_
              refine wpM_held 8 (v := .agg #[.bool false, .slice e73 f73 g73]) rfl (by kernel_rfl) (by kernel_rfl) rfl (fun _ _ _ h => h) rfl (by intro wx hx; go_simp <;> rfl) S73 ?_
              have hne74 : K72 ≠ W2.heap.size := by omega
              have P6 := Row.set2 R673 (.bool false) (.slice a73 n73 c73)
              have P7 := (Row.other R773 (K := K72) (by omega) 0 (.bool false)).other (K := K72) (by omega) 1 (.slice a73 n73 c73)
              have Dq := D73.store R673 (.bool false) (.slice a73 n73 c73)
              have Dr := E73.store R673 (.bool false) (.slice a73 n73 c73)
              have Sb := below_set (below_set S73 (B := K72) 0 (.bool false) (by omega)) (B := K72) 1 (.slice a73 n73 c73) (by omega)
              obtain ⟨x0, x1'⟩ := Row.duo R673
              have zf := Row.frozen R673
              refine wpM_one 11 rfl (by kernel_rfl) rfl ?_
              go_wp2_with fail
              refine ⟨fun _ => Sb, ?_⟩
              clear x0 x1' zf R673 R773 D73 E73 S73
              generalize (v73.setCell ⟨K72, 0, none⟩ (.bool false)).setCell ⟨K72, 1, none⟩ (.slice a73 n73 c73) = V9 at *
              have O7 := Row.set2 P7 (.bool false) (.slice e73 f73 g73)
              have O6 := (Row.other P6 (K := W2.heap.size) (by omega) 0 (.bool false)).other (K := W2.heap.size) (by omega) 1 (.slice e73 f73 g73)
              have Eq := Dq.store P7 (.bool false) (.slice e73 f73 g73)
              have Er := Dr.store P7 (.bool false) (.slice e73 f73 g73)
              have Sc := below_set (below_set Sb (B := W2.heap.size) 0 (.bool false) (by omega)) (B := W2.heap.size) 1 (.slice e73 f73 g73) (by omega)
              obtain ⟨x0, x1'⟩ := Row.duo P7
              have zf := Row.frozen P7
              refine wpM_one 12 rfl (by kernel_rfl) rfl ?_
              go_wp2_with fail
              refine ⟨fun _ => Sc, ?_⟩
              refine wpM_done (by kernel_rfl) ?_
              go_wp2_with fail
              go_meet
              exact ⟨K72, W2.heap.size, a73, n73, c73, e73, f73, g73, rfl, rfl, hne74, by omega, by omega, O6, O7, Eq, Er, Sc⟩
          · go_wp2_with fail
            have R675 := Row.new v67 45 #[.bool false, .slice none 0 0]
            have S75 : Below W2.heap.size W2 (v67.alloc (.cells #[.bool false, .slice none 0 0] 45)) := S67.alloc S67.size _
            have L75 : W2.heap.size ≤ v67.heap.size := S67.size
            have N75 := R767.lt
            have R775 := R767.alloc (.cells #[.bool false, .slice none 0 0] 45)
            have D75 := D67.below ((Below.refl _ v67).alloc (Nat.le_refl _) (.cells #[.bool false, .slice none 0 0] 45))
            refine ⟨fun _ => S75, ?_⟩
            clear S67 D67 R767
            generalize v67.alloc (.cells #[.bool false, .slice none 0 0] 45) = v75 at *
            generalize v67.heap.size = K75 at *
            refine wpM_one 4 rfl (by kernel_rfl) rfl ?_
            go_wp2_with fail
            refine Calls.mono (H2 _ _ _ _ D75).out ?_
            rintro _ v76 ⟨a76, n76, c76, rfl, D76, b76⟩
            have S76 : Below W2.heap.size W2 v76 := S75.trans (b76.mono S75.size)
            have R776 := R775.below b76 R775.lt
            have R676 := R675.below b76 R675.lt
            clear b76
            go_wp2_with fail
            refine ⟨fun _ => S76, ?_⟩
            refine wpM_one 5 rfl (by kernel_rfl) rfl ?_
            go_wp2_with fail
            refine Calls.mono (H3 _ _ _ _ S76 D76).out ?_
            rintro _ v77 ⟨a77, n77, c77, e77, f77, g77, rfl, D77, E77, b77⟩
            have S77 : Below W2.heap.size W2 v77 := S76.trans (b77.mono S76.size)
            have R777 := R776.below b77 R776.lt
            have R677 := R676.below b77 R676.lt
            clear b77
            go_wp2_with fail
            refine ⟨fun _ => S77, ?_⟩
            refine wpM_held 6 (v := .tuple #[.agg #[.bool false, .slice a77 n77 c77], .agg #[.bool false, .slice e77 f77 g77]]) rfl (by kernel_rfl) (by kernel_rfl) rfl (fun _ _ _ h => h) rfl (by intro wx hx; go_simp <;> rfl) S77 ?_
            refine wpM_held 7 (v := .agg #[.bool false, .slice a77 n77 c77]) rfl (by kernel_rfl) (by kernel_rfl) rfl (fun _ _ _ h => h) rfl (by intro wx hx; go_simp <;> rfl) S77 ?_
            refine wpM_held 8 (v := .agg #[.bool false, .slice e77 f77 g77]) rfl (by kernel_rfl) (by kernel_rfl) rfl (fun _ _ _ h => h) rfl (by intro wx hx; go_simp <;> rfl) S77 ?_
            have hne78 : K75 ≠ W2.heap.size := by omega
            have P6 := Row.set2 R677 (.bool false) (.slice a77 n77 c77)
            have P7 := (Row.other R777 (K := K75) (by omega) 0 (.bool false)).other (K := K75) (by omega) 1 (.slice a77 n77 c77)
            have Dq := D77.store R677 (.bool false) (.slice a77 n77 c77)
            have Dr := E77.store R677 (.bool false) (.slice a77 n77 c77)
            have Sb := below_set (below_set S77 (B := K75) 0 (.bool false) (by omega)) (B := K75) 1 (.slice a77 n77 c77) (by omega)
            obtain ⟨x0, x1'⟩ := Row.duo R677
            have zf := Row.frozen R677
            refine wpM_one 11 rfl (by kernel_rfl) rfl ?_
            go_wp2_with fail
            refine ⟨fun _ => Sb, ?_⟩
            clear x0 x1' zf R677 R777 D77 E77 S77
            generalize (v77.setCell ⟨K75, 0, none⟩ (.bool false)).setCell ⟨K75, 1, none⟩ (.slice a77 n77 c77) = V9 at *
            have O7 := Row.set2 P7 (.bool false) (.slice e77 f77 g77)
            have O6 := (Row.other P6 (K := W2.heap.size) (by omega) 0 (.bool false)).other (K := W2.heap.size) (by omega) 1 (.slice e77 f77 g77)
            have Eq := Dq.store P7 (.bool false) (.slice e77 f77 g77)
            have Er := Dr.store P7 (.bool false) (.slice e77 f77 g77)
            have Sc := below_set (below_set Sb (B := W2.heap.size) 0 (.bool false) (by omega)) (B := W2.heap.size) 1 (.slice e77 f77 g77) (by omega)
            obtain ⟨x0, x1'⟩ := Row.duo P7
            have zf := Row.frozen P7
            refine wpM_one 12 rfl (by kernel_rfl) rfl ?_
            go_wp2_with fail
            refine ⟨fun _ => Sc, ?_⟩
            refine wpM_done (by kernel_rfl) ?_
            go_wp2_with fail
            go_meet
            exact ⟨K75, W2.heap.size, a77, n77, c77, e77, f77, g77, rfl, rfl, hne78, by omega, by omega, O6, O7, Eq, Er, Sc⟩
        · go_wp2_with fail
          have R679 := Row.new v66 45 #[.bool false, .slice none 0 0]
          have S79 : Below W2.heap.size W2 (v66.alloc (.cells #[.bool false, .slice none 0 0] 45)) := S66.alloc S66.size _
          have L79 : W2.heap.size ≤ v66.heap.size := S66.size
          have N79 := R766.lt
          have R779 := R766.alloc (.cells #[.bool false, .slice none 0 0] 45)
          refine ⟨fun _ => S79, ?_⟩
          clear S66  R766
          generalize v66.alloc (.cells #[.bool false, .slice none 0 0] 45) = v79 at *
          generalize v66.heap.size = K79 at *
          refine wpM_one 2 rfl (by kernel_rfl) rfl ?_
          go_wp2_with fail
          refine Calls.mono (H1 _).out ?_
          rintro _ v80 ⟨a80, n80, c80, rfl, D80, b80⟩
          have S80 : Below W2.heap.size W2 v80 := S79.trans (b80.mono S79.size)
          have R780 := R779.below b80 R779.lt
          have R680 := R679.below b80 R679.lt
          clear b80
          go_wp2_with fail
          refine ⟨fun _ => S80, ?_⟩
          refine wpM_one 4 rfl (by kernel_rfl) rfl ?_
          go_wp2_with fail
          refine Calls.mono (H2 _ _ _ _ D80).out ?_
          rintro _ v81 ⟨a81, n81, c81, rfl, D81, b81⟩
          have S81 : Below W2.heap.size W2 v81 := S80.trans (b81.mono S80.size)
          have R781 := R780.below b81 R780.lt
          have R681 := R680.below b81 R680.lt
          clear b81
          go_wp2_with fail
          refine ⟨fun _ => S81, ?_⟩
          refine wpM_one 5 rfl (by kernel_rfl) rfl ?_
          go_wp2_with fail
          refine Calls.mono (H3 _ _ _ _ S81 D81).out ?_
          rintro _ v82 ⟨a82, n82, c82, e82, f82, g82, rfl, D82, E82, b82⟩
          have S82 : Below W2.heap.size W2 v82 := S81.trans (b82.mono S81.size)
          have R782 := R781.below b82 R781.lt
          have R682 := R681.below b82 R681.lt
          clear b82
          go_wp2_with fail
          refine ⟨fun _ => S82, ?_⟩
          refine wpM_held 6 (v := .tuple #[.agg #[.bool false, .slice a82 n82 c82], .agg #[.bool false, .slice e82 f82 g82]]) rfl (by kernel_rfl) (by kernel_rfl) rfl (fun _ _ _ h => h) rfl (by intro wx hx; go_simp <;> rfl) S82 ?_
          refine wpM_held 7 (v := .agg #[.bool false, .slice a82 n82 c82]) rfl (by kernel_rfl) (by kernel_rfl) rfl (fun _ _ _ h => h) rfl (by intro wx hx; go_simp <;> rfl) S82 ?_
          refine wpM_held 8 (v := .agg #[.bool false, .slice e82 f82 g82]) rfl (by kernel_rfl) (by kernel_rfl) rfl (fun _ _ _ h => h) rfl (by intro wx hx; go_simp <;> rfl) S82 ?_
          have hne83 : K79 ≠ W2.heap.size := by omega
          have P6 := Row.set2 R682 (.bool false) (.slice a82 n82 c82)
          have P7 := (Row.other R782 (K := K79) (by omega) 0 (.bool false)).other (K := K79) (by omega) 1 (.slice a82 n82 c82)
          have Dq := D82.store R682 (.bool false) (.slice a82 n82 c82)
          have Dr := E82.store R682 (.bool false) (.slice a82 n82 c82)
          have Sb := below_set (below_set S82 (B := K79) 0 (.bool false) (by omega)) (B := K79) 1 (.slice a82 n82 c82) (by omega)
          obtain ⟨x0, x1'⟩ := Row.duo R682
          have zf := Row.frozen R682
          refine wpM_one 11 rfl (by kernel_rfl) rfl ?_
          go_wp2_with fail
          refine ⟨fun _ => Sb, ?_⟩
          clear x0 x1' zf R682 R782 D82 E82 S82
          generalize (v82.setCell ⟨K79, 0, none⟩ (.bool false)).setCell ⟨K79, 1, none⟩ (.slice a82 n82 c82) = V9 at *
          have O7 := Row.set2 P7 (.bool false) (.slice e82 f82 g82)
          have O6 := (Row.other P6 (K := W2.heap.size) (by omega) 0 (.bool false)).other (K := W2.heap.size) (by omega) 1 (.slice e82 f82 g82)
          have Eq := Dq.store P7 (.bool false) (.slice e82 f82 g82)
          have Er := Dr.store P7 (.bool false) (.slice e82 f82 g82)
          have Sc := below_set (below_set Sb (B := W2.heap.size) 0 (.bool false) (by omega)) (B := W2.heap.size) 1 (.slice e82 f82 g82) (by omega)
          obtain ⟨x0, x1'⟩ := Row.duo P7
          have zf := Row.frozen P7
          refine wpM_one 12 rfl (by kernel_rfl) rfl ?_
          go_wp2_with fail
          refine ⟨fun _ => Sc, ?_⟩
          refine wpM_done (by kernel_rfl) ?_
          go_wp2_with fail
          go_meet
          exact ⟨K79, W2.heap.size, a82, n82, c82, e82, f82, g82, rfl, rfl, hne83, by omega, by omega, O6, O7, Eq, Er, Sc⟩
  case rest =>
    obtain ⟨K6, K7, aq, nq, cq, ar, nr, cr, rfl, rfl, hne, h6, h7, P6, P7, HQ, HR, HS⟩ := hcut
    have hX6 : X < W2.heap.size := x1.lt
    have hW6 : w.heap.size + 1 < W2.heap.size := by omega
    obtain ⟨Q, HQe⟩ : ∃ Q, Hid (c.natAbs / 10 ^ k = Q) := ⟨_, rfl⟩
    obtain ⟨R, HRe⟩ : ∃ R, Hid (c.natAbs % 10 ^ k = R) := ⟨_, rfl⟩
    rw [HQe.out] at HQ HFI
    rw [HRe.out] at HR HUP
    have hQb : Q ≤ 9223372036854775808 := by
      rw [← HQe.out]
      have h5 := HC.out
      unfold I64 at h5
      exact Nat.le_trans (Nat.div_le_self _ _) (by omega)
    have hRb : R ≤ 9223372036854775808 := by
      rw [← HRe.out]
      have h5 := HC.out
      unfold I64 at h5
      exact Nat.le_trans (Nat.mod_le _ _) (by omega)
    have xw := x1.below HS.out hX6
    have rz := r1.below HS.out r1.lt
    have hBw := hB2.trans (HS.out.mono hB2.size)
    have lR : (digs R).length ≤ 19 := digs_len _ 19 (by omega)
    have lQ : (digs Q).length ≤ 19 := digs_len _ 19 (by omega)
    have HPR : Hid (Calls Tryd.prog 46 #[.agg #[.bool false, .slice ar nr cr], .agg #[.bool false, .slice ar nr cr]] wc fun r9 w' => ∃ a n c', r9 = .returned (.agg #[.bool false, .slice a n c']) ∧ DgAt w' (.slice a n c') (digs (R + R)) ∧ Below wc.heap.size wc w') := by
      have hV : BigV wc (R : Int) (.agg #[.bool false, .slice ar nr cr]) := ⟨_, by rw [decide_eq_false (by omega)]; rfl, by rw [Int.natAbs_natCast]; exact HR.out⟩
      refine (plus_any (R : Int) (R : Int) _ _ wc hV hV (by rw [Int.natAbs_natCast]; omega) (by rw [Int.natAbs_natCast]; omega)).mono ?_
      rintro r9 w' ⟨v, rfl, ⟨s, rfl, hs⟩, hb⟩
      rw [show ((R : Int) + (R : Int)).natAbs = R + R by omega] at hs
      obtain ⟨_, a, c', rfl, _, _⟩ := id hs
      exact ⟨a, _, c', by rw [decide_eq_false (by omega)]; rfl, hs, hb⟩
    have H7 : ∀ V a n c' a' n' c'', DgAt V (.slice a n c') (digs (R + R)) → DgAt V (.slice a' n' c'') (digs (10 ^ k)) → Hid (Calls Tryd.prog 70 #[.agg #[.bool false, .slice a n c'], .agg #[.bool false, .slice a' n' c'']] V fun r9 w' => r9 = .returned (.int .i64 (cI ((R + R : Nat) : Int) ((10 ^ k : Nat) : Int))) ∧ Below V.heap.size V w') := fun V a n c' a' n' c'' h1 h2 => by
      have := more_any false false _ _ _ _ V h1 h2 (digs_dg _) (digs_dg _) (Nat.le_trans (digs_len _ 20 (by omega)) (by decide)) (Nat.le_trans (digs_len _ 37 (Nat.pow_lt_pow_right (by decide) (by omega))) (by decide))
      rw [dval_digs, dval_digs] at this
      exact this
    obtain ⟨ci, HCI⟩ : ∃ ci, Hid (cI ((R + R : Nat) : Int) ((10 ^ k : Nat) : Int) = ci) := ⟨_, rfl⟩
    rw [HCI.out] at H7
    obtain ⟨g0, g1⟩ := P7.duo
    go_wp2_with fail
    refine Calls.mono HPR.out ?_
    rintro _ wd ⟨a4, n4, c4, rfl, D4, b4⟩
    clear HPR g0 g1
    go_wp2_with fail
    refine Calls.mono (H1 _).out ?_
    rintro _ we ⟨a5, n5, c5, rfl, D5, b5⟩
    have D4' := D4.below b5
    go_wp2_with fail
    refine Calls.mono (H2 _ _ _ _ D5).out ?_
    rintro _ wf ⟨a6, n6, c6, rfl, D6, b6⟩
    have D4'' := D4'.below b6
    go_wp2_with fail
    refine Calls.mono (H7 _ _ _ _ _ _ _ D4'' D6).out ?_
    rintro _ wg ⟨rfl, b7⟩
    have bA : Below wc.heap.size wc wg := ((b4.trans (b5.mono b4.size)).trans (b6.mono (Nat.le_trans b4.size b5.size))).trans (b7.mono (Nat.le_trans (Nat.le_trans b4.size b5.size) b6.size))
    have Q6 := P6.below bA P6.lt
    have QX := xw.below bA xw.lt
    have QZ := rz.below bA rz.lt
    have DQ := HQ.out.below bA
    have hB3 := hBw.trans (bA.mono hBw.size)
    clear b4 b5 b6 b7 bA D4 D4' D4'' D5 D6 H1 H2 H3 H7 P6 P7 xw rz HQ HR HS hBw x1 r1
    have hci : 0 ≤ ci ↔ 10 ^ k ≤ R + R := by
      rw [← HCI.out]
      unfold cI
      have : (((10 ^ k : Nat) : Int) < ((R + R : Nat) : Int)) ↔ 10 ^ k < R + R := Int.ofNat_lt
      have h2 : (((R + R : Nat) : Int) < ((10 ^ k : Nat) : Int)) ↔ R + R < 10 ^ k := Int.ofNat_lt
      by_cases h3 : 10 ^ k < R + R
      · rw [if_pos (this.2 h3)]; constructor <;> intro _ <;> omega
      · rw [if_neg (fun h => h3 (this.1 h))]
        by_cases h4 : R + R < 10 ^ k
        · rw [if_pos (h2.2 h4)]; constructor <;> intro _ <;> omega
        · rw [if_neg (fun h => h4 (h2.1 h))]; constructor <;> intro _ <;> omega
    have HCB : Hid (0 ≤ ci ↔ 10 ^ k ≤ R + R) := hci
    clear hci
    go_upto_if 54 with fail
    go_cut [] (fun wx => ∃ (ap : Option Addr) (np cp : Nat), Row wx K6 45 #[.bool false, .slice ap np cp] ∧ Row wx X 47 #[.bool sg, .slice a3 n3 c3, .int .i64 e] ∧ Row wx (w.heap.size + 1) 23 #[.int .i64 0, .int .i64 0] ∧ Hid (DgAt wx (.slice ap np cp) (digs (Q + up))) ∧ Below w.heap.size w wx)
    case first =>
      by_cases hge : 10 ^ k ≤ R + R
      · have hc0 : 0 ≤ ci := HCB.out.2 hge
        have hup : up = 1 := by have h5 := HUP.out; rw [if_pos hge] at h5; exact h5.symm
        subst hup
        clear hge
        have hS : Below wg.heap.size wg wg.drew := (Below.refl _ wg).drew
        have HOF : ∀ V, Hid (Calls Tryd.prog 64 #[.int .i64 1] V _) := fun V => of_any 1 ⟨by decide, by decide⟩ V
        go_upto_region 9 with fail
        refine wp_region_M (fun wx : World => Below wg.heap.size wg wx) (fun j => decide (j < 3)) 4 rfl (by kernel_rfl) ?_
        refine wpM_held 0 (v := .agg #[.bool false, .slice aq nq cq]) rfl (by kernel_rfl) (by kernel_rfl) rfl (fun _ _ _ h => h) rfl (by intro wx hx; obtain ⟨x0, x1⟩ := (Q6.below hx Q6.lt).duo; go_simp <;> rfl) hS ?_
        refine wpM_one 1 rfl (by kernel_rfl) rfl ?_
        go_wp2_with fail
        refine Calls.mono (HOF _).out ?_
        rintro _ wh ⟨v6, rfl, hV6, b6⟩
        have hSh : Below wg.heap.size wg wh := hS.trans (b6.mono hS.size)
        have hVq : BigV wh (Q : Int) (.agg #[.bool false, .slice aq nq cq]) := ⟨_, by rw [decide_eq_false (by omega)]; rfl, by rw [Int.natAbs_natCast]; exact DQ.below hSh⟩
        have HPL : Hid (Calls Tryd.prog 46 #[.agg #[.bool false, .slice aq nq cq], v6] wh _) := plus_any (Q : Int) 1 _ v6 wh hVq hV6 (by rw [Int.natAbs_natCast]; omega) (Nat.le_trans (digs_len _ 1 (by decide)) (by decide))
        obtain ⟨s6, rfl, hD6⟩ := hV6
        obtain ⟨_, a6, c6, rfl, _, _⟩ := id hD6
        clear b6 HOF hS hD6 hVq
        unfold bv at HPL ⊢
        obtain ⟨n6, HN6⟩ : ∃ n6 : Nat, Hid ((digs (1 : Int).natAbs).length = n6) := ⟨_, rfl⟩
        obtain ⟨m6, HM6⟩ : ∃ m6, Hid (decide ((1 : Int) < 0) = m6) := ⟨_, rfl⟩
        rw [HM6.out, HN6.out] at HPL ⊢
        go_wp2_with fail
        refine ⟨fun _ => hSh, ?_⟩
        refine wpM_one 2 rfl (by kernel_rfl) rfl ?_
        go_wp2_with fail
        refine Calls.mono HPL.out ?_
        rintro _ wi ⟨v7, rfl, hV7, b7⟩
        have hSi : Below wg.heap.size wg wi := hSh.trans (b7.mono hSh.size)
        obtain ⟨s7, rfl, hD7⟩ := hV7
        rw [show ((Q : Int) + 1).natAbs = Q + 1 by omega] at hD7
        obtain ⟨_, a7, c7, rfl, _, _⟩ := id hD7
        clear b7 HPL hSh
        unfold bv
        rw [decide_eq_false (show ¬ ((Q : Int) + 1 < 0) by omega)]
        obtain ⟨n7, HN7⟩ : ∃ n7 : Nat, Hid ((digs (Q + 1)).length = n7) := ⟨_, rfl⟩
        rw [HN7.out] at hD7 ⊢
        have V6 := Q6.below hSi Q6.lt
        have VX := QX.below hSi QX.lt
        have VZ := QZ.below hSi QZ.lt
        have hB6 := hB3.trans (hSi.mono hB3.size)
        obtain ⟨g2, g3⟩ := V6.duo
        have zf := V6.frozen
        have X6 := Row.set2 V6 (.bool false) (.slice a7 n7 c7)
        have XX := (VX.other (K := K6) (by omega) 0 (.bool false)).other (K := K6) (by omega) 1 (.slice a7 n7 c7)
        have XZ := (VZ.other (K := K6) (by omega) 0 (.bool false)).other (K := K6) (by omega) 1 (.slice a7 n7 c7)
        have D7 := hD7.store V6 (.bool false) (.slice a7 n7 c7)
        have hB7 := below_set (below_set hB6 (B := K6) 0 (.bool false) (by omega)) (B := K6) 1 (.slice a7 n7 c7) (by omega)
        go_wp2_with fail
        refine ⟨fun _ => hSi, ?_⟩
        refine wpM_one 3 rfl (by kernel_rfl) rfl ?_
        go_wp2_with fail
        refine ⟨fun h => by simp at h, ?_⟩
        refine wpM_done (by kernel_rfl) ?_
        go_wp2_with fail
        go_meet
        exact ⟨a7, n7, c7, X6, XX, XZ, D7, hB7⟩
      · have hc0 : ci < 0 := by
          rcases Int.lt_or_le ci 0 with h | h
          · exact h
          · exact absurd (HCB.out.1 h) hge
        have hup : up = 0 := by have h5 := HUP.out; rw [if_neg hge] at h5; exact h5.symm
        subst hup
        clear hge
        go_wp2_with fail
        go_meet
        exact ⟨aq, nq, cq, Q6, QX, QZ, DQ, hB3⟩
    case rest =>
      clear Q6 QX QZ DQ hB3
      obtain ⟨ap, np, cp, P6, PX, PZ, HD, hB3⟩ := hcut
      have hupb : up ≤ 1 := by rw [← HUP.out]; split <;> omega
      obtain ⟨f0, f1, f2⟩ := PX.triF
      obtain ⟨g0, g1⟩ := P6.duo
      have zf := P6.frozen
      have T6 : Row (wc.setCell ⟨K6, 0, none⟩ (.bool sg)) K6 45 #[.bool sg, .slice ap np cp] := P6.set 0 _
      have TZ := PZ.other (K := K6) (by omega) 0 (.bool sg)
      have hB4 := below_set hB3 (B := K6) 0 (.bool sg) (by omega)
      have DT : DgAt (wc.setCell ⟨K6, 0, none⟩ (.bool sg)) (.slice ap np cp) (digs (Q + up)) := DgAt.set0 HD.out P6 _
      have HTR : Hid (Calls Tryd.prog 59 #[.agg #[.bool sg, .slice ap np cp]] (wc.setCell ⟨K6, 0, none⟩ (.bool sg)) _) := trim_any sg _ (digs (Q + up)) _ DT (digs_dg _) (Nat.le_trans (digs_len _ 20 (by omega)) (by decide))
      have e1 : bval sg (digs (Q + up)) = fin := by
        rw [← HFI.out, ← HSG.out]
        unfold bval
        rw [dval_digs]
        by_cases hc : c < 0
        · rw [decide_eq_true hc, if_pos rfl, if_pos hc]
        · rw [decide_eq_false hc, if_neg (by simp), if_neg hc]
      rw [e1] at HTR
      have hfl : (digs fin.natAbs).length ≤ 500 := by
        refine Nat.le_trans (digs_len _ 20 ?_) (by decide)
        rw [← HFI.out]
        split <;> omega
      have HFL : Hid ((digs fin.natAbs).length ≤ 500) := hfl
      clear e1 hfl DT
      go_upto_region 11 with fail
      clear f0 f1 f2 g0 g1 zf P6 PX PZ HD hB3
      generalize wc.setCell ⟨K6, 0, none⟩ (.bool sg) = wj at *
      obtain ⟨g0, g1⟩ := T6.duo
      go_wp2_with fail
      refine Calls.mono HTR.out ?_
      rintro _ wk ⟨v8, rfl, hV8, b8⟩
      obtain ⟨s8, rfl, hD8⟩ := hV8
      obtain ⟨_, a8, c8, rfl, _, _⟩ := id hD8
      have HTE : Hid (Calls Tryd.prog 45 #[.agg #[.bool (decide (fin < 0)), .slice a8 (digs fin.natAbs).length c8, .int .i64 (-pl)]] wk _) := told_any' fin (-pl) _ _ ⟨_, rfl, hD8⟩ (by omega) (by omega) HFL.out
      rw [HDV.out] at HTE
      obtain ⟨sf, HSF⟩ : ∃ sf, Hid (decide (fin < 0) = sf) := ⟨_, rfl⟩
      obtain ⟨n8, HN8⟩ : ∃ n8 : Nat, Hid ((digs fin.natAbs).length = n8) := ⟨_, rfl⟩
      unfold bv
      rw [HSF.out, HN8.out] at HTE ⊢
      have UZ := TZ.below b8 TZ.lt
      have hB5 := hB4.trans (b8.mono hB4.size)
      clear b8 HTR hD8 T6 TZ hB4 g0 g1
      go_wp2_with fail
      refine Calls.mono HTE.out ?_
      rintro _ wl ⟨rfl, b9⟩
      have hZ4 := UZ.below b9 UZ.lt
      have hB9 := hB5.trans (b9.mono hB5.size)
      clear HTE b9
      obtain ⟨z0, z1⟩ := hZ4.duo
      have zf := hZ4.frozen
      have hZe := Row.set2 hZ4 (.int .i64 p) (.int .i64 q)
      have hBe := below_set (below_set hB9 (B := w.heap.size + 1) 0 (.int .i64 p) (by omega)) (B := w.heap.size + 1) 1 (.int .i64 q) (by omega)
      go_wp2
      exact bodyPost_ret (ret_two rfl (g := w.heap.size + 1) rfl rfl (load23 hZe rfl)) rfl ⟨rfl, hBe⟩
end Go.Proofs.YtfbhonjndepjbaaDoor
/- The document's Round: where it refuses, and where nothing goes. -/
namespace Go.Proofs.YtfbhonjndepjbaaDoor
open Go.RowKit

set_option maxRecDepth 100000 in
set_option maxHeartbeats 4000000 in
theorem rround_bad1 (c e pl : Int) (hc : I64 c) (he : ¬ within e) (w : World) : Calls Tryd.prog 33 #[.agg #[.int .i64 c, .int .i64 e], .int .i64 pl] w fun r w' => r = .returned (.tuple #[.agg #[.int .i64 0, .int .i64 0], .int .i64 1]) ∧ Below w.heap.size w w' := by
  have HNU : ∀ V, Hid (Calls Tryd.prog 53 #[.agg #[.int .i64 c, .int .i64 e]] V _) := fun V => num_any c e hc V
  rw [decide_eq_false (show ¬ (-18 ≤ e ∧ e ≤ 18) from he)] at HNU
  have r0 := Row.new1 w (.cells #[.int .i64 c, .int .i64 e] 23) 23 #[.int .i64 0, .int .i64 0]
  have hB := ((Below.refl _ w).alloc (Nat.le_refl _) (.cells #[.int .i64 c, .int .i64 e] 23)).alloc (by simp) (.cells #[.int .i64 0, .int .i64 0] 23)
  clear hc he
  go_enter Tryd.func33, Tryd.ntmps33
  go_wp2_with fail
  generalize (w.alloc (.cells #[.int .i64 c, .int .i64 e] 23)).alloc (.cells #[.int .i64 0, .int .i64 0] 23) = W at *
  refine Calls.mono (HNU W).out ?_
  rintro _ w1 ⟨sv, rfl, hD, hN, b1⟩
  obtain ⟨_, a3, c3, rfl, _, _⟩ := id hD
  obtain ⟨sg, hsg⟩ : ∃ sg, decide (c < 0) = sg := ⟨_, rfl⟩
  obtain ⟨n3, hn3⟩ : ∃ n3, (digs c.natAbs).length = n3 := ⟨_, rfl⟩
  rw [hsg, hn3]
  have r1 := (r0.below b1 r0.lt).alloc (.cells #[.bool sg, .slice a3 n3 c3, .int .i64 e] 47)
  have hB1 := hB.trans (b1.mono hB.size)
  have hB2 := hB1.alloc hB1.size (.cells #[.bool sg, .slice a3 n3 c3, .int .i64 e] 47)
  clear r0 hB hD hN b1 HNU hB1 hsg hn3
  obtain ⟨d0, d1⟩ := r1.duo
  have zf := r1.frozen
  have hZe := Row.set2 r1 (.int .i64 0) (.int .i64 0)
  have hBe := below_set (below_set hB2 (B := w.heap.size + 1) 0 (.int .i64 0) (by omega)) (B := w.heap.size + 1) 1 (.int .i64 0) (by omega)
  go_wp2
  exact bodyPost_ret (ret_two rfl (g := w.heap.size + 1) rfl rfl (load23 hZe rfl)) rfl ⟨rfl, hBe⟩
set_option maxRecDepth 100000 in
set_option maxHeartbeats 4000000 in
theorem rround_bad2 (c e pl : Int) (hc : I64 c) (he : within e) (hp : ¬ within pl) (w : World) : Calls Tryd.prog 33 #[.agg #[.int .i64 c, .int .i64 e], .int .i64 pl] w fun r w' => r = .returned (.tuple #[.agg #[.int .i64 0, .int .i64 0], .int .i64 1]) ∧ Below w.heap.size w w' := by
  have HNU : ∀ V, Hid (Calls Tryd.prog 53 #[.agg #[.int .i64 c, .int .i64 e]] V _) := fun V => num_any c e hc V
  rw [decide_eq_true (show (-18 ≤ e ∧ e ≤ 18) from he)] at HNU
  have r0 := Row.new1 w (.cells #[.int .i64 c, .int .i64 e] 23) 23 #[.int .i64 0, .int .i64 0]
  have hB := ((Below.refl _ w).alloc (Nat.le_refl _) (.cells #[.int .i64 c, .int .i64 e] 23)).alloc (by simp) (.cells #[.int .i64 0, .int .i64 0] 23)
  have hcase : decide (pl < -18) = true ∨ (decide (pl < -18) = false ∧ decide (18 < pl) = true) := by
    by_cases h : pl < -18
    · exact .inl (decide_eq_true h)
    · exact .inr ⟨decide_eq_false h, decide_eq_true (by unfold within at hp; omega)⟩
  clear hc he hp
  go_enter Tryd.func33, Tryd.ntmps33
  go_wp2_with fail
  generalize (w.alloc (.cells #[.int .i64 c, .int .i64 e] 23)).alloc (.cells #[.int .i64 0, .int .i64 0] 23) = W at *
  refine Calls.mono (HNU W).out ?_
  rintro _ w1 ⟨sv, rfl, hD, hN, b1⟩
  obtain ⟨_, a3, c3, rfl, _, _⟩ := id hD
  obtain ⟨sg, hsg⟩ : ∃ sg, decide (c < 0) = sg := ⟨_, rfl⟩
  obtain ⟨n3, hn3⟩ : ∃ n3, (digs c.natAbs).length = n3 := ⟨_, rfl⟩
  rw [hsg, hn3]
  have r1 := (r0.below b1 r0.lt).alloc (.cells #[.bool sg, .slice a3 n3 c3, .int .i64 e] 47)
  have hB1 := hB.trans (b1.mono hB.size)
  have hB2 := hB1.alloc hB1.size (.cells #[.bool sg, .slice a3 n3 c3, .int .i64 e] 47)
  clear r0 hB hD hN b1 HNU hB1 hsg hn3
  obtain ⟨d0, d1⟩ := r1.duo
  have zf := r1.frozen
  have hZe := Row.set2 r1 (.int .i64 0) (.int .i64 0)
  have hBe := below_set (below_set hB2 (B := w.heap.size + 1) 0 (.int .i64 0) (by omega)) (B := w.heap.size + 1) 1 (.int .i64 0) (by omega)
  rcases hcase with g1 | ⟨g1, g2⟩
  all_goals
    go_wp2
    exact bodyPost_ret (ret_two rfl (g := w.heap.size + 1) rfl rfl (load23 hZe rfl)) rfl ⟨rfl, hBe⟩
set_option maxRecDepth 100000 in
set_option maxHeartbeats 4000000 in
theorem rround_up (c e pl : Int) (hc : I64 c) (he1 : -18 ≤ e) (he2 : e ≤ 18) (hp1 : -18 ≤ pl) (hp2 : pl ≤ 18) (hcut : -pl - e ≤ 0) (w : World) : Calls Tryd.prog 33 #[.agg #[.int .i64 c, .int .i64 e], .int .i64 pl] w fun r w' => r = .returned (decV (tell c e)) ∧ Below w.heap.size w w' := by
  have HNU : ∀ V, Hid (Calls Tryd.prog 53 #[.agg #[.int .i64 c, .int .i64 e]] V _) := fun V => num_any c e hc V
  rw [decide_eq_true (show (-18 ≤ e ∧ e ≤ 18) from ⟨he1, he2⟩)] at HNU
  have HL : Hid ((digs c.natAbs).length ≤ 500) := Nat.le_trans (digs_len _ 19 (by unfold I64 at hc; omega)) (by decide)
  obtain ⟨p, q, er, hdv⟩ := decV_form (tell c e)
  rw [hdv]
  have HDV : Hid (decV (tell c e) = .tuple #[.agg #[.int .i64 p, .int .i64 q], .int .i64 er]) := hdv
  have r0 := Row.new1 w (.cells #[.int .i64 c, .int .i64 e] 23) 23 #[.int .i64 0, .int .i64 0]
  have hB := ((Below.refl _ w).alloc (Nat.le_refl _) (.cells #[.int .i64 c, .int .i64 e] 23)).alloc (by simp) (.cells #[.int .i64 0, .int .i64 0] 23)
  clear hc hdv
  go_enter Tryd.func33, Tryd.ntmps33
  go_wp2_with fail
  generalize (w.alloc (.cells #[.int .i64 c, .int .i64 e] 23)).alloc (.cells #[.int .i64 0, .int .i64 0] 23) = W at *
  refine Calls.mono (HNU W).out ?_
  rintro _ w1 ⟨sv, rfl, hD, hN, b1⟩
  obtain ⟨_, a3, c3, rfl, _, _⟩ := id hD
  obtain ⟨sg, HSG⟩ : ∃ sg, Hid (decide (c < 0) = sg) := ⟨_, rfl⟩
  obtain ⟨n3, HN3⟩ : ∃ n3, Hid ((digs c.natAbs).length = n3) := ⟨_, rfl⟩
  have r1 := (r0.below b1 r0.lt).alloc (.cells #[.bool sg, .slice a3 n3 c3, .int .i64 e] 47)
  have hB1 := hB.trans (b1.mono hB.size)
  have hB2 := hB1.alloc hB1.size (.cells #[.bool sg, .slice a3 n3 c3, .int .i64 e] 47)
  have hD2 := hD.below ((Below.refl _ w1).alloc (Nat.le_refl _) (.cells #[.bool sg, .slice a3 n3 c3, .int .i64 e] 47))
  have HTE : Hid (Calls Tryd.prog 45 #[.agg #[.bool (decide (c < 0)), .slice a3 (digs c.natAbs).length c3, .int .i64 e]] _ _) := told_any' c e _ _ ⟨_, rfl, hD2⟩ (by omega) (by omega) HL.out
  rw [HDV.out, HSG.out, HN3.out] at HTE
  rw [HSG.out, HN3.out]
  have x1 := Row.new w1 47 #[.bool sg, .slice a3 n3 c3, .int .i64 e]
  clear r0 hB hD hN b1 HNU hB1 hD2
  go_wp2_with fail
  generalize w1.alloc (.cells #[.bool sg, .slice a3 n3 c3, .int .i64 e] 47) = W2 at *
  refine Calls.mono HTE.out ?_
  rintro _ w4 ⟨rfl, b4⟩
  have hZ4 := r1.below b4 r1.lt
  have hB4 := hB2.trans (b4.mono hB2.size)
  clear HTE b4 r1 hB2 x1
  obtain ⟨z0, z1⟩ := hZ4.duo
  have zf := hZ4.frozen
  have hZe := Row.set2 hZ4 (.int .i64 p) (.int .i64 q)
  have hBe := below_set (below_set hB4 (B := w.heap.size + 1) 0 (.int .i64 p) (by omega)) (B := w.heap.size + 1) 1 (.int .i64 q) (by omega)
  go_wp2
  exact bodyPost_ret (ret_two rfl (g := w.heap.size + 1) rfl rfl (load23 hZe rfl)) rfl ⟨rfl, hBe⟩
end Go.Proofs.YtfbhonjndepjbaaDoor
