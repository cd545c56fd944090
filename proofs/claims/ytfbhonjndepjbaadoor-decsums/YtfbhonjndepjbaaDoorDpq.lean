import Derived.Test.YtfbhonjndepjbaaDoorWqo
/- Quotients that are there are found. -/
namespace Go.Proofs.YtfbhonjndepjbaaDoor

theorem quot_found (Z : Nat) (E : Int) (hZ : Z ≤ 9223372036854775808) : ∀ (b n : Nat) (e : Int) (s t : Nat), 1 ≤ b → b < 18446744073709551616 → Nat.Coprime n b → n * 10 ^ s = Z * b * 10 ^ t → e - s = E - t →
    ∃ m f, quotL b n e = some (m, f) ∧ ∃ s' t' : Nat, m * 10 ^ s' = Z * 10 ^ t' ∧ f - s' = E - t' := by
  intro b
  induction b using Nat.strongRecOn with
  | ind b ih =>
    intro n e s t hb1 hb2 hc hv he
    by_cases h1 : b ≤ 1
    · obtain rfl : b = 1 := by omega
      refine ⟨n, e, by rw [quotL.eq_def, if_pos h1], s, t, by rw [hv, Nat.mul_one], he⟩
    · -- n is small, and b divides a power of ten
      have hst : t < s := by
        apply Nat.lt_of_not_le
        intro hle
        have hp := ten_pos s
        have h2 : n = Z * b * 10 ^ (t - s) := by
          apply Nat.eq_of_mul_eq_mul_right hp
          rw [hv, Nat.mul_assoc (Z * b), ← Nat.pow_add]
          congr 2; omega
        have h3 : b ∣ n := ⟨Z * 10 ^ (t - s), by rw [h2, Nat.mul_comm Z b, Nat.mul_assoc]⟩
        have h4 : Nat.gcd n b = b := Nat.gcd_eq_right h3
        have h5 : Nat.gcd n b = 1 := hc
        omega
      have hv2 : n * 10 ^ (s - t) = Z * b := by
        have hp := ten_pos t
        apply Nat.eq_of_mul_eq_mul_right hp
        rw [← hv, Nat.mul_assoc, ← Nat.pow_add]
        congr 2; omega
      have hn : n * 10 ≤ Z * b := by
        rw [← hv2]
        apply Nat.mul_le_mul_left
        have := Nat.pow_le_pow_right (n := 10) (i := 1) (j := s - t) (by omega) (by omega)
        simpa using this
      have hZb : Z * b ≤ 9223372036854775808 * 18446744073709551616 := Nat.mul_le_mul hZ (by omega)
      have hbd : b ∣ 10 ^ (s - t) := by
        have : b ∣ n * 10 ^ (s - t) := ⟨Z, by rw [hv2, Nat.mul_comm]⟩
        exact Nat.Coprime.dvd_of_dvd_mul_left (Nat.Coprime.symm hc) this
      by_cases h10 : b % 10 = 0
      · obtain ⟨b1, rfl⟩ : ∃ b1, b = 10 * b1 := ⟨b / 10, by omega⟩
        have hc1 : Nat.Coprime n b1 := Nat.Coprime.coprime_dvd_right ⟨10, by rw [Nat.mul_comm]⟩ hc
        obtain ⟨m, f, q1, s', t', q2, q3⟩ := ih b1 (by omega) n (e - 1) s (t + 1) (by omega) (by omega) hc1 (by rw [hv, Nat.pow_succ]; simp [Nat.mul_comm, Nat.mul_assoc]) (by omega)
        refine ⟨m, f, ?_, s', t', q2, q3⟩
        rw [quotL.eq_def, if_neg h1, if_pos h10, show 10 * b1 / 10 = b1 by omega, q1]
      · by_cases h2 : b % 2 = 0
        · obtain ⟨b1, rfl⟩ : ∃ b1, b = 2 * b1 := ⟨b / 2, by omega⟩
          have hc1 : Nat.Coprime n b1 := Nat.Coprime.coprime_dvd_right ⟨2, by rw [Nat.mul_comm]⟩ hc
          have h5 : Nat.Coprime 5 b1 := by
            have : Nat.gcd 5 b1 ∣ 5 := Nat.gcd_dvd_left _ _
            have hle : Nat.gcd 5 b1 ≤ 5 := Nat.le_of_dvd (by omega) this
            have hd : Nat.gcd 5 b1 ∣ b1 := Nat.gcd_dvd_right _ _
            generalize hgg : Nat.gcd 5 b1 = g at *
            have : g = 0 ∨ g = 1 ∨ g = 2 ∨ g = 3 ∨ g = 4 ∨ g = 5 := by omega
            rcases this with rfl | rfl | rfl | rfl | rfl | rfl
            · omega
            · exact hgg
            · omega
            · omega
            · omega
            · obtain ⟨k, hk⟩ := hd; omega
          have hfit : n * 5 < M128 := by unfold M128; omega
          obtain ⟨m, f, q1, s', t', q2, q3⟩ := ih b1 (by omega) (n * 5) (e - 1) s (t + 1) (by omega) (by omega) (Nat.Coprime.mul_left hc1 h5) (by
            rw [Nat.pow_succ, show n * 5 * 10 ^ s = n * 10 ^ s * 5 by rw [Nat.mul_assoc, Nat.mul_comm 5, ← Nat.mul_assoc], hv]
            rw [show Z * (2 * b1) * 10 ^ t * 5 = Z * b1 * (10 ^ t * 10) by
              rw [Nat.mul_assoc, Nat.mul_assoc, Nat.mul_assoc, Nat.mul_assoc, Nat.mul_left_comm 2, Nat.mul_left_comm 2]]) (by omega)
          refine ⟨m, f, ?_, s', t', q2, q3⟩
          rw [quotL.eq_def, if_neg h1, if_neg h10, if_pos h2, if_pos hfit, show 2 * b1 / 2 = b1 by omega, q1]
        · by_cases h5 : b % 5 = 0
          · obtain ⟨b1, rfl⟩ : ∃ b1, b = 5 * b1 := ⟨b / 5, by omega⟩
            have hc1 : Nat.Coprime n b1 := Nat.Coprime.coprime_dvd_right ⟨5, by rw [Nat.mul_comm]⟩ hc
            have h22 : Nat.Coprime 2 b1 := by
              have hle : Nat.gcd 2 b1 ≤ 2 := Nat.le_of_dvd (by omega) (Nat.gcd_dvd_left _ _)
              have hd : Nat.gcd 2 b1 ∣ b1 := Nat.gcd_dvd_right _ _
              have hp : 0 < Nat.gcd 2 b1 := Nat.gcd_pos_of_pos_left _ (by omega)
              generalize hgg : Nat.gcd 2 b1 = g at *
              have : g = 1 ∨ g = 2 := by omega
              rcases this with rfl | rfl
              · exact hgg
              · obtain ⟨k, hk⟩ := hd; omega
            have hfit : n * 2 < M128 := by unfold M128; omega
            obtain ⟨m, f, q1, s', t', q2, q3⟩ := ih b1 (by omega) (n * 2) (e - 1) s (t + 1) (by omega) (by omega) (Nat.Coprime.mul_left hc1 h22) (by
              rw [Nat.pow_succ, show n * 2 * 10 ^ s = n * 10 ^ s * 2 by rw [Nat.mul_assoc, Nat.mul_comm 2, ← Nat.mul_assoc], hv]
              rw [show Z * (5 * b1) * 10 ^ t * 2 = Z * b1 * (10 ^ t * 10) by
                rw [Nat.mul_assoc, Nat.mul_assoc, Nat.mul_assoc, Nat.mul_assoc, Nat.mul_left_comm 5, Nat.mul_left_comm 5]]) (by omega)
            refine ⟨m, f, ?_, s', t', q2, q3⟩
            rw [quotL.eq_def, if_neg h1, if_neg h10, if_neg h2, if_pos h5, if_pos hfit, show 5 * b1 / 5 = b1 by omega, q1]
          · exfalso
            have hc10 : Nat.Coprime b 10 := by
              have hd : Nat.gcd b 10 ∣ 10 := Nat.gcd_dvd_right _ _
              have hdb : Nat.gcd b 10 ∣ b := Nat.gcd_dvd_left _ _
              have hle : Nat.gcd b 10 ≤ 10 := Nat.le_of_dvd (by omega) hd
              generalize hgg : Nat.gcd b 10 = g at *
              obtain ⟨k, hk⟩ := hdb
              have : g = 0 ∨ g = 1 ∨ g = 2 ∨ g = 3 ∨ g = 4 ∨ g = 5 ∨ g = 6 ∨ g = 7 ∨ g = 8 ∨ g = 9 ∨ g = 10 := by omega
              rcases this with rfl | rfl | rfl | rfl | rfl | rfl | rfl | rfl | rfl | rfl | rfl
              · omega
              · exact hgg
              all_goals omega
            have hcp : Nat.Coprime b (10 ^ (s - t)) := Nat.Coprime.pow_right _ hc10
            have hg : Nat.gcd b (10 ^ (s - t)) = b := Nat.gcd_eq_left hbd
            have hg1 : Nat.gcd b (10 ^ (s - t)) = 1 := hcp
            omega
theorem natAbs_sc_mul (x y z : Wd) (u v : Nat) (h : sc x * 10 ^ u = sc z * sc y * 10 ^ v) : x.n * 10 ^ u = z.n * y.n * 10 ^ v := by
  have := congrArg Int.natAbs h
  rw [Int.natAbs_mul, Int.natAbs_mul, Int.natAbs_mul, Int.natAbs_pow, Int.natAbs_pow, sc_abs, sc_abs, sc_abs] at this
  exact this
/-- A product that is parted is told as the other factor. -/
theorem told_quot (x y z : Wd) (hy : y.n < 18446744073709551616) (hy0 : y.n ≠ 0) (hz : z.n ≤ 9223372036854775808) (u v : Nat) (h : sc x * 10 ^ u = sc z * sc y * 10 ^ v) (he : x.e - u = z.e + y.e - v) :
    toldW (quotW x y) = tell (sc z) z.e := by
  have hn := natAbs_sc_mul x y z u v h
  have hg0 : 0 < Nat.gcd x.n y.n := Nat.gcd_pos_of_pos_right _ (by omega)
  obtain ⟨X, hX⟩ := Nat.gcd_dvd_left x.n y.n
  obtain ⟨Y, hY⟩ := Nat.gcd_dvd_right x.n y.n
  have hXd : x.n / Nat.gcd x.n y.n = X := by
    apply Nat.div_eq_of_eq_mul_right hg0 hX
  have hYd : y.n / Nat.gcd x.n y.n = Y := by
    apply Nat.div_eq_of_eq_mul_right hg0 hY
  have hcop : Nat.Coprime X Y := by
    have := Nat.coprime_div_gcd_div_gcd (m := x.n) (n := y.n) hg0
    rw [hXd, hYd] at this
    exact this
  have hY1 : 1 ≤ Y := by
    rcases Nat.eq_zero_or_pos Y with h0 | h0
    · rw [h0, Nat.mul_zero] at hY; omega
    · exact h0
  have hYle : Y ≤ y.n := by rw [← hYd]; exact Nat.div_le_self _ _
  have hv : X * 10 ^ u = z.n * Y * 10 ^ v := by
    apply Nat.eq_of_mul_eq_mul_left hg0
    have e1 : Nat.gcd x.n y.n * (z.n * Y * 10 ^ v) = z.n * (Nat.gcd x.n y.n * Y) * 10 ^ v := by
      generalize Nat.gcd x.n y.n = g
      simp [Nat.mul_comm, Nat.mul_left_comm, Nat.mul_assoc]
    rw [e1, ← hY, ← Nat.mul_assoc, ← hX, hn]
  obtain ⟨m, f, q1, s', t', q2, q3⟩ := quot_found z.n z.e hz Y X (x.e - y.e) u v hY1 (by omega) hcop hv (by omega)
  unfold quotW
  rw [hXd, hYd, q1]
  show tellW (x.neg != y.neg) m f = _
  rw [← tell_sc ⟨x.neg != y.neg, m, f⟩]
  refine tell_same (m := min f z.e) (Int.min_le_right _ _) (Int.min_le_left _ _) ?_
  have key : sc ⟨x.neg != y.neg, m, f⟩ * 10 ^ s' = sc z * 10 ^ t' := by
    by_cases hz0 : z.n = 0
    · have hm0 : m = 0 := by
        rw [hz0, Nat.zero_mul] at q2
        rcases Nat.mul_eq_zero.1 q2 with h0 | h0
        · exact h0
        · have := ten_pos s'; omega
      rw [(sc_neg0 ⟨x.neg != y.neg, m, f⟩).2 hm0, (sc_neg0 z).2 hz0]; simp
    · have hsgn : (x.neg != y.neg) = z.neg := by
        have hxn : x.n ≠ 0 := by
          intro h0
          rw [h0, Nat.zero_mul] at hn
          have hh := hn.symm
          rcases Nat.mul_eq_zero.1 hh with h1 | h1
          · rcases Nat.mul_eq_zero.1 h1 with h2 | h2
            · exact hz0 h2
            · exact hy0 h2
          · have := ten_pos v; omega
        have hp1 := pow_pos' u
        have hp2 := pow_pos' v
        have hsg := congrArg Int.sign h
        rw [Int.sign_mul, Int.sign_mul, Int.sign_mul, Int.sign_eq_one_of_pos hp1, Int.sign_eq_one_of_pos hp2, Int.mul_one, Int.mul_one] at hsg
        have e1 : ∀ w : Wd, w.n ≠ 0 → (sc w).sign = if w.neg then -1 else 1 := by
          intro w hw
          unfold sc
          cases w.neg
          · simp only [Bool.false_eq_true, if_false]; exact Int.sign_eq_one_of_pos (by omega)
          · simp only [if_true]; exact Int.sign_eq_neg_one_of_neg (by omega)
        rw [e1 x hxn, e1 y hy0, e1 z hz0] at hsg
        cases hx : x.neg <;> cases hyy : y.neg <;> cases hzz : z.neg <;> rw [hx, hyy, hzz] at hsg <;> first | rfl | (exfalso; revert hsg; decide)
      rw [hsgn]
      have q2' : ((m * 10 ^ s' : Nat) : Int) = ((z.n * 10 ^ t' : Nat) : Int) := by rw [q2]
      rw [Int.natCast_mul, Int.natCast_mul, Int.natCast_pow, Int.natCast_pow] at q2'
      unfold sc
      simp only
      cases z.neg
      · simpa using q2'
      · simp only [if_true, Int.neg_mul]
        have : (m : Int) * 10 ^ s' = (z.n : Int) * 10 ^ t' := by simpa using q2'
        rw [this]
  -- both in the same units
  unfold V
  have hp := pow_ne (s' + t')
  generalize hd : min f z.e = d
  have hdf : d ≤ f := by omega
  have hdz : d ≤ z.e := by omega
  have a1 : sc ⟨x.neg != y.neg, m, f⟩ * 10 ^ (f - d).toNat * 10 ^ (s' + t') = sc ⟨x.neg != y.neg, m, f⟩ * 10 ^ s' * 10 ^ ((f - d).toNat + t') := by
    rw [Int.mul_assoc, Int.mul_assoc, ← Int.pow_add, ← Int.pow_add]; congr 2; omega
  have a2 : sc z * 10 ^ (z.e - d).toNat * 10 ^ (s' + t') = sc z * 10 ^ t' * 10 ^ ((z.e - d).toNat + s') := by
    rw [Int.mul_assoc, Int.mul_assoc, ← Int.pow_add, ← Int.pow_add]; congr 2; omega
  apply Int.eq_of_mul_eq_mul_right hp
  rw [a1, a2, key]
  congr 2
  omega
#print axioms told_quot
end Go.Proofs.YtfbhonjndepjbaaDoor
