import Derived.Test.YtfbhonjndepjbaaDoorRpl
/- fits: is a whole number the C of a Dec? -/
namespace Go.Proofs.YtfbhonjndepjbaaDoor
open Go.RowKit

def fitsB (z : Int) : Bool := decide (-9223372036854775808 ≤ z) && decide (z ≤ 9223372036854775807)
theorem one_rowD (w w1 : World) (o1 : Array Value) (t1 : TypeId) (h : Below ((w.alloc (.cells o1 t1)).heap.size) (w.alloc (.cells o1 t1)) w1) :
    Row w1 w.heap.size t1 o1 ∧ Below w.heap.size w w1 :=
  ⟨(Row.new w t1 o1).below h (by simp), ((Below.refl _ w).alloc (Nat.le_refl _) _).trans (h.mono (by simp))⟩
theorem digs_big : (digs 9223372036854775808).length ≤ 800 := Nat.le_trans (digs_len _ 19 (by decide)) (by decide)
set_option maxRecDepth 100000 in
set_option maxHeartbeats 1000000 in
theorem fits_any (z : Int) (v : Value) (w : World) (hV : BigV w z v) (hz : (digs z.natAbs).length ≤ 800) :
    Calls Tryd.prog 79 #[v] w fun r w' => r = .returned (.bool (fitsB z)) ∧ Below w.heap.size w w' := by
  obtain ⟨sa, rfl, hA⟩ := hV
  obtain ⟨fb, HFB⟩ : ∃ fb, Hid (fitsB z = fb) := ⟨_, rfl⟩
  rw [HFB.out]
  have HO : ∀ W, Hid (Calls Tryd.prog 64 #[.int .i64 (-9223372036854775808)] W _) := fun W => of_any (-9223372036854775808) ⟨by decide, by decide⟩ W
  obtain ⟨na, hna⟩ : ∃ na, decide (z < 0) = na := ⟨_, rfl⟩
  have HNA : Hid (decide (z < 0) = na) := hna
  have HMO : ∀ W sb, Below w.heap.size w W → DgAt W sb (digs 9223372036854775808) → Hid (Calls Tryd.prog 70 #[bv na sa, bv na sb] W fun r w' => r = .returned (.int .i64 (cI (z.natAbs : Int) 9223372036854775808)) ∧ Below W.heap.size W w') := fun W sb h hb => by
    have := more_any na na sa sb _ _ W (hA.below h) hb (digs_dg _) (digs_dg _) (by omega) (by have := digs_big; omega)
    rw [dval_digs, dval_digs] at this
    exact this
  rw [hna]
  clear hna
  obtain ⟨_, a1, c1, rfl, _, _⟩ := id hA
  clear hA
  generalize (digs z.natAbs).length = la at *
  unfold bv at *
  go_enter Tryd.func79, Tryd.ntmps79
  go_wp2_with fail
  refine Calls.mono (HO _).out ?_
  rintro _ w1 ⟨v1, rfl, hV1, b1⟩
  obtain ⟨sb, rfl, hB⟩ := hV1
  obtain ⟨r1, hB1⟩ := one_rowD w w1 _ _ b1
  rw [show (-9223372036854775808 : Int).natAbs = 9223372036854775808 from rfl] at hB
  obtain ⟨_, a2, c2, rfl, _, _⟩ := id hB
  obtain ⟨lb, hlb⟩ : ∃ lb, (digs 9223372036854775808).length = lb := ⟨_, rfl⟩
  rw [hlb] at hB
  rw [hlb]
  rw [show decide ((-9223372036854775808 : Int) < 0) = true from rfl]
  unfold bv
  clear b1 HO hlb
  obtain ⟨d0, d1⟩ := r1.duo
  have hz1 := r1.lt
  have hal : ∀ o, Below w1.heap.size w1 (w1.alloc o) := fun o => (Below.refl _ w1).alloc (Nat.le_refl _) o
  have HM := HMO (w1.alloc (.cells #[.bool na, .slice a2 lb c2] 45)) _ (hB1.trans ((hal _).mono hB1.size)) (hB.below (hal _))
  have hB2 := hB1.trans ((hal (.cells #[.bool na, .slice a2 lb c2] 45)).mono hB1.size)
  have r2 := r1.below (hal (.cells #[.bool na, .slice a2 lb c2] 45)) hz1
  clear hB hal HMO hB1 r1
  go_wp2_with fail
  refine Calls.mono HM.out ?_
  rintro _ w2 ⟨rfl, b2⟩
  have r3 := r2.below b2 r2.lt
  have hB3 := hB2.trans (b2.mono (by have := hB2.size; simp at this ⊢; omega))
  clear b2 HM r2 hB2 d0 d1
  obtain ⟨d0, d1⟩ := r3.duo
  have hz3 := r3.lt
  rcases Int.lt_trichotomy (z.natAbs : Int) 9223372036854775808 with h | h | h
  · have hc : cI (z.natAbs : Int) 9223372036854775808 = -1 := by unfold cI; rw [if_neg (by omega), if_pos h]
    have HF : Hid (fb = true) := by
      show _ = _
      rw [← HFB.out]; unfold fitsB; rw [decide_eq_true (by omega), decide_eq_true (by omega)]; rfl
    rw [hc]
    clear hc h
    go_wp2
    go_ret
    exact ⟨by rw [HF.out]; rfl, hB3⟩
  · have hc : cI (z.natAbs : Int) 9223372036854775808 = 0 := by unfold cI; rw [if_neg (by omega), if_neg (by omega)]
    have HF : Hid (fb = na) := by
      show _ = _
      rw [← HFB.out, ← HNA.out]; unfold fitsB
      by_cases hz0 : z < 0
      · rw [decide_eq_true (by omega), decide_eq_true (by omega), decide_eq_true hz0]; rfl
      · rw [decide_eq_true (show (-9223372036854775808 : Int) ≤ z by omega), decide_eq_false (show ¬ z ≤ 9223372036854775807 by omega), decide_eq_false hz0]; rfl
    rw [hc]
    clear hc h
    go_wp2
    go_ret
    exact ⟨by rw [HF.out]; rfl, hB3⟩
  · have hc : cI (z.natAbs : Int) 9223372036854775808 = 1 := by unfold cI; rw [if_pos (by omega)]
    have HF : Hid (fb = false) := by
      show _ = _
      rw [← HFB.out]; unfold fitsB
      by_cases hz0 : z < 0
      · rw [decide_eq_false (show ¬ (-9223372036854775808 : Int) ≤ z by omega)]; rfl
      · rw [decide_eq_false (show ¬ z ≤ 9223372036854775807 by omega), Bool.and_false]
    rw [hc]
    clear hc h
    go_wp2
    go_ret
    exact ⟨by rw [HF.out]; rfl, hB3⟩
end Go.Proofs.YtfbhonjndepjbaaDoor
/- Pure: how a number that ends on no nought is told. -/
namespace Go.Proofs.YtfbhonjndepjbaaDoor

theorem fits_iff (z : Int) : (fitsB z = true) ↔ z.natAbs ≤ 9223372036854775807 + (decide (z < 0)).toNat := by
  unfold fitsB
  by_cases h : z < 0
  · rw [decide_eq_true h]; simp; omega
  · rw [decide_eq_false h]; simp; omega
theorem tell_low (y f : Int) (hy : y.natAbs % 10 ≠ 0) (hf : f ≤ 18) : tell y f = if fitsB y = true ∧ -18 ≤ f then some (y, f) else none := by
  unfold tell tellW
  rw [if_neg (by omega), strip_fix _ _ (.inl hy)]
  have hr : raise (y.natAbs, f) = (y.natAbs, f) := by unfold raise; rw [if_neg (by simp only; omega)]
  rw [hr]
  simp only
  have hval : (if decide (y < 0) = true then -(y.natAbs : Int) else (y.natAbs : Int)) = y := by
    by_cases h0 : y < 0
    · rw [decide_eq_true h0, if_pos rfl]; omega
    · rw [decide_eq_false h0, if_neg (by simp)]; omega
  rw [hval]
  by_cases h : y.natAbs ≤ 9223372036854775807 + (decide (y < 0)).toNat ∧ -18 ≤ f
  · rw [if_pos h, if_pos ⟨(fits_iff y).2 h.1, h.2⟩]
  · rw [if_neg h, if_neg (fun hc => h ⟨(fits_iff y).1 hc.1, hc.2⟩)]
theorem tell_high (y f : Int) (hy : y.natAbs % 10 ≠ 0) (hf : 18 < f) : tell y f = if fitsB (y * 10 ^ (f - 18).toNat) = true then some (y * 10 ^ (f - 18).toNat, 18) else none := by
  have hp : (0 : Int) < 10 ^ (f - 18).toNat := Int.pow_pos (by omega)
  have hna : (y * 10 ^ (f - 18).toNat).natAbs = y.natAbs * 10 ^ (f - 18).toNat := by rw [Int.natAbs_mul, Int.natAbs_pow]; rfl
  have hsg : (y * 10 ^ (f - 18).toNat < 0) ↔ y < 0 := by
    constructor
    · intro h
      apply Int.lt_of_not_ge
      intro hc
      have := Int.mul_nonneg hc (Int.le_of_lt hp)
      omega
    · intro h; exact Int.mul_neg_of_neg_of_pos h hp
  have hd : decide (y * 10 ^ (f - 18).toNat < 0) = decide (y < 0) := by simp only [hsg]
  unfold tell tellW
  rw [if_neg (by omega), strip_fix _ _ (.inl hy)]
  have hr : raise (y.natAbs, f) = (y.natAbs * 10 ^ (f - 18).toNat, 18) := by unfold raise; rw [if_pos (by simpa using hf)]
  rw [hr]
  simp only
  have hfi := fits_iff (y * 10 ^ (f - 18).toNat)
  rw [hna, hd] at hfi
  by_cases h : y.natAbs * 10 ^ (f - 18).toNat ≤ 9223372036854775807 + (decide (y < 0)).toNat
  · rw [if_pos ⟨h, by decide⟩, if_pos (hfi.2 h)]
    congr 2
    by_cases h0 : y < 0
    · rw [decide_eq_true h0, if_pos rfl, ← hna]
      have := hsg.2 h0
      omega
    · rw [decide_eq_false h0, if_neg (by simp), ← hna]
      have : ¬ y * 10 ^ (f - 18).toNat < 0 := fun hc => h0 (hsg.1 hc)
      omega
  · rw [if_neg (fun hc => h hc.1), if_neg (fun hc => h (hfi.1 hc))]
theorem digs_ge (n k : Nat) (h : k + 1 ≤ (digs n).length) : 10 ^ k ≤ n := by
  apply Nat.le_of_not_lt
  intro hc
  have := digs_len n k hc
  omega
/-- A number whose digits are many can't be told. -/
theorem tell_many (y f : Int) (k : Nat) (hy : y.natAbs % 10 ≠ 0) (hk : 18 + (k : Int) < f) (hl : 30 ≤ (digs (y * 10 ^ k).natAbs).length) : tell y f = none := by
  rw [tell_high y f hy (by omega), if_neg]
  intro hc
  have h1 := (fits_iff _).1 hc
  have h2 := digs_ge _ 29 hl
  rw [Int.natAbs_mul, Int.natAbs_pow] at h1 h2
  have h3 : 10 ^ k ≤ 10 ^ (f - 18).toNat := Nat.pow_le_pow_right (by decide) (by omega)
  have h4 := Nat.mul_le_mul_left y.natAbs h3
  have h5 : (decide (y * 10 ^ (f - 18).toNat < 0)).toNat ≤ 1 := Bool.toNat_le _
  rw [show (10 : Int).natAbs = 10 from rfl] at h1 h2
  have : (10 : Nat) ^ 29 = 100000000000000000000000000000 := by decide
  omega
theorem tell_far (y f : Int) (hy : y ≠ 0) (hf : 60 < f) : tell y f = none := by
  obtain ⟨k, h1, h2, h3, h4, h5⟩ := strip_spec y.natAbs f (by omega)
  have h6 : k = 0 := by omega
  subst h6
  unfold tell tellW
  rw [if_neg (by omega), if_neg]
  rintro ⟨ha, -⟩
  have hs : strip y.natAbs f = (y.natAbs, f) := strip_fix _ _ (.inr (by omega))
  rw [hs] at ha
  unfold raise at ha
  rw [if_pos (by simp only; omega)] at ha
  simp only at ha
  have hp : 10 ^ 40 ≤ 10 ^ (f - 18).toNat := Nat.pow_le_pow_right (by decide) (by omega)
  have h7 : 1 * 10 ^ 40 ≤ y.natAbs * 10 ^ (f - 18).toNat := Nat.mul_le_mul (by omega) hp
  have h8 : (decide (y < 0)).toNat ≤ 1 := Bool.toNat_le _
  have : (10 : Nat) ^ 40 = 10000000000000000000000000000000000000000 := by decide
  omega
#print axioms tell_many
end Go.Proofs.YtfbhonjndepjbaaDoor
