import Derived.Test.YtfbhonjndepjbaaDoorWprM
import Derived.Test.YtfbhonjndepjbaaDoorWleM
import Derived.Test.YtfbhonjndepjbaaDoorWop
/- alive: the chapter's examples. -/
namespace Go.Proofs.YtfbhonjndepjbaaDoor
open Go.RowKit

theorem dec_fix (c e : Int) (h0 : c ≠ 0) (h : c.natAbs % 10 ≠ 0 ∨ 18 ≤ e) : decW c e = ⟨decide (c < 0), c.natAbs, e⟩ := by
  unfold decW shortW numW
  rw [if_neg (by simp; omega), strip_fix c.natAbs e h]
theorem tellW_fix (neg : Bool) (n : Nat) (e : Int) (h0 : n ≠ 0) (h : n % 10 ≠ 0 ∨ e = 18) (hb : n ≤ 9223372036854775807) (h1 : -18 ≤ e) (h2 : e ≤ 18) : tellW neg n e = some (if neg then -(n : Int) else n, e) := by
  unfold tellW
  rw [if_neg h0, strip_fix n e (by omega)]
  have hr : raise (n, e) = (n, e) := by unfold raise; rw [if_neg (by simp only; omega)]
  rw [hr, if_pos ⟨by simp only; omega, h1⟩]
theorem al_make (w : World) : Calls Tryd.prog 24 #[.int .i64 120, .int .i64 0] w fun r w' => r = .returned (.tuple #[.agg #[.int .i64 12, .int .i64 1], .int .i64 0]) ∧ Below w.heap.size w w' := by
  have h := make_any 120 0 ⟨by decide, by decide⟩ ⟨by decide, by decide⟩ w
  have e1 : tell 120 0 = some (12, 1) := by
    have := tell_pow 12 1 1
    simp only [show (12 : Int) * 10 ^ 1 = 120 by decide, show (1 : Int) - ((1 : Nat) : Int) = 0 by decide] at this
    rw [this]
    exact tellW_fix false 12 1 (by decide) (by decide) (by decide) (by decide) (by decide)
  rw [e1] at h
  exact h
theorem two_ok (e e2 : Int) (o : Option Wd) (h : within e) (h2 : within e2) : twoV e e2 o = decV (toldW o) := by unfold twoV; rw [if_pos ⟨h, h2⟩]
theorem w0 : within 0 := ⟨by decide, by decide⟩
theorem w1' : within (-1) := ⟨by decide, by decide⟩
theorem al_add (w : World) : Calls Tryd.prog 9 #[.agg #[.int .i64 1, .int .i64 (-1)], .agg #[.int .i64 2, .int .i64 (-1)]] w fun r w' => r = .returned (.tuple #[.agg #[.int .i64 3, .int .i64 (-1)], .int .i64 0]) ∧ Below w.heap.size w w' := by
  have h := add_any 1 (-1) 2 (-1) ⟨by decide, by decide⟩ ⟨by decide, by decide⟩ w
  rw [two_ok _ _ _ w1' w1', dec_fix 1 (-1) (by decide) (by decide), dec_fix 2 (-1) (by decide) (by decide)] at h
  rw [show toldW (sumW ⟨decide ((1 : Int) < 0), (1 : Int).natAbs, -1⟩ ⟨decide ((2 : Int) < 0), (2 : Int).natAbs, -1⟩) = some (3, -1) from tellW_fix false 3 (-1) (by decide) (by decide) (by decide) (by decide) (by decide)] at h
  exact h
theorem al_div4 (w : World) : Calls Tryd.prog 18 #[.agg #[.int .i64 1, .int .i64 0], .agg #[.int .i64 4, .int .i64 0]] w fun r w' => r = .returned (.tuple #[.agg #[.int .i64 25, .int .i64 (-2)], .int .i64 0]) ∧ Below w.heap.size w w' := by
  have h := div_any 1 0 4 0 ⟨by decide, by decide⟩ ⟨by decide, by decide⟩ (by decide) w
  have hq : quotW ⟨decide ((1 : Int) < 0), (1 : Int).natAbs, 0⟩ ⟨decide ((4 : Int) < 0), (4 : Int).natAbs, 0⟩ = some ⟨false, 25, -2⟩ := by
    show (quotL 4 1 0).map _ = _
    rw [quotL.eq_def 4, if_neg (by decide), if_neg (by decide), if_pos (by decide), if_pos (by decide)]
    show (quotL 2 5 (-1)).map _ = _
    rw [quotL.eq_def 2, if_neg (by decide), if_neg (by decide), if_pos (by decide), if_pos (by decide)]
    show (quotL 1 25 (-2)).map _ = _
    rw [quotL.eq_def 1, if_pos (by decide)]
    rfl
  rw [two_ok _ _ _ w0 w0, dec_fix 1 0 (by decide) (by decide), dec_fix 4 0 (by decide) (by decide), hq] at h
  rw [show toldW (some ⟨false, 25, -2⟩) = some (25, -2) from tellW_fix false 25 (-2) (by decide) (by decide) (by decide) (by decide) (by decide)] at h
  exact h
theorem al_div3 (w : World) : Calls Tryd.prog 18 #[.agg #[.int .i64 1, .int .i64 0], .agg #[.int .i64 3, .int .i64 0]] w fun r w' => r = .returned (.tuple #[.agg #[.int .i64 0, .int .i64 0], .int .i64 30]) ∧ Below w.heap.size w w' := by
  have h := div_any 1 0 3 0 ⟨by decide, by decide⟩ ⟨by decide, by decide⟩ (by decide) w
  have hq : quotW ⟨decide ((1 : Int) < 0), (1 : Int).natAbs, 0⟩ ⟨decide ((3 : Int) < 0), (3 : Int).natAbs, 0⟩ = none := by
    show (quotL 3 1 0).map _ = _
    rw [quotL.eq_def 3, if_neg (by decide), if_neg (by decide), if_neg (by decide), if_neg (by decide)]
    rfl
  rw [two_ok _ _ _ w0 w0, dec_fix 1 0 (by decide) (by decide), dec_fix 3 0 (by decide) (by decide), hq] at h
  exact h
theorem al_div0 (w : World) : Calls Tryd.prog 18 #[.agg #[.int .i64 1, .int .i64 0], .agg #[.int .i64 0, .int .i64 0]] w fun r w' => r = .returned (.tuple #[.agg #[.int .i64 0, .int .i64 0], .int .i64 31]) ∧ Below w.heap.size w w' :=
  div_zero 1 0 0 ⟨by decide, by decide⟩ w0 w0 w
theorem al_mod (w : World) : Calls Tryd.prog 20 #[.agg #[.int .i64 (-7), .int .i64 0], .agg #[.int .i64 3, .int .i64 0]] w fun r w' => r = .returned (.tuple #[.agg #[.int .i64 2, .int .i64 0], .int .i64 0]) ∧ Below w.heap.size w w' := mod_ex w
theorem al_print (w : World) : Calls Tryd.prog 40 #[.agg #[.int .i64 5, .int .i64 (-3)]] w fun e w' => e = .returned (.string ⟨#[48, 46, 48, 48, 53]⟩) ∧ Below w.heap.size w w' := print5 w
set_option maxRecDepth 100000 in
set_option maxHeartbeats 1000000 in
theorem alive_any (w : World) : Calls Tryd.prog 17 #[] w fun r w' => r = .returned (.bool true) ∧ Below w.heap.size w w' := by
  go_enter Tryd.func17, Tryd.ntmps17
  go_wp2_with fail
  refine (al_make _).mono ?_
  rintro _ w1 ⟨rfl, hB⟩
  have r1 := Row.new w1 23 #[.int .i64 12, .int .i64 1]
  have hB := hB.alloc hB.size (.cells #[.int .i64 12, .int .i64 1] 23)
  go_wp2_with fail
  refine (al_add _).mono ?_
  rintro _ w2 ⟨rfl, hn⟩
  have r1 := r1.below hn r1.lt
  have hB := hB.trans (hn.mono hB.size)
  clear hn
  have r1 := r1.alloc (.cells #[.int .i64 3, .int .i64 (-1)] 23)
  have r2 := Row.new w2 23 #[.int .i64 3, .int .i64 (-1)]
  have hB := hB.alloc hB.size (.cells #[.int .i64 3, .int .i64 (-1)] 23)
  go_wp2_with fail
  refine (al_div4 _).mono ?_
  rintro _ w3 ⟨rfl, hn⟩
  have r1 := r1.below hn r1.lt
  have r2 := r2.below hn r2.lt
  have hB := hB.trans (hn.mono hB.size)
  clear hn
  have r1 := r1.alloc (.cells #[.int .i64 25, .int .i64 (-2)] 23)
  have r2 := r2.alloc (.cells #[.int .i64 25, .int .i64 (-2)] 23)
  have r3 := Row.new w3 23 #[.int .i64 25, .int .i64 (-2)]
  have hB := hB.alloc hB.size (.cells #[.int .i64 25, .int .i64 (-2)] 23)
  go_wp2_with fail
  refine (al_div3 _).mono ?_
  rintro _ w4 ⟨rfl, hn⟩
  have r1 := r1.below hn r1.lt
  have r2 := r2.below hn r2.lt
  have r3 := r3.below hn r3.lt
  have hB := hB.trans (hn.mono hB.size)
  clear hn
  have r1 := r1.alloc (.cells #[.int .i64 0, .int .i64 0] 23)
  have r2 := r2.alloc (.cells #[.int .i64 0, .int .i64 0] 23)
  have r3 := r3.alloc (.cells #[.int .i64 0, .int .i64 0] 23)
  have r4 := Row.new w4 23 #[.int .i64 0, .int .i64 0]
  have hB := hB.alloc hB.size (.cells #[.int .i64 0, .int .i64 0] 23)
  go_wp2_with fail
  refine (al_div0 _).mono ?_
  rintro _ w5 ⟨rfl, hn⟩
  have r1 := r1.below hn r1.lt
  have r2 := r2.below hn r2.lt
  have r3 := r3.below hn r3.lt
  have r4 := r4.below hn r4.lt
  have hB := hB.trans (hn.mono hB.size)
  clear hn
  have r1 := r1.alloc (.cells #[.int .i64 0, .int .i64 0] 23)
  have r2 := r2.alloc (.cells #[.int .i64 0, .int .i64 0] 23)
  have r3 := r3.alloc (.cells #[.int .i64 0, .int .i64 0] 23)
  have r4 := r4.alloc (.cells #[.int .i64 0, .int .i64 0] 23)
  have r5 := Row.new w5 23 #[.int .i64 0, .int .i64 0]
  have hB := hB.alloc hB.size (.cells #[.int .i64 0, .int .i64 0] 23)
  go_wp2_with fail
  refine (al_mod _).mono ?_
  rintro _ w6 ⟨rfl, hn⟩
  have r1 := r1.below hn r1.lt
  have r2 := r2.below hn r2.lt
  have r3 := r3.below hn r3.lt
  have r4 := r4.below hn r4.lt
  have r5 := r5.below hn r5.lt
  have hB := hB.trans (hn.mono hB.size)
  clear hn
  have r1 := r1.alloc (.cells #[.int .i64 2, .int .i64 0] 23)
  have r2 := r2.alloc (.cells #[.int .i64 2, .int .i64 0] 23)
  have r3 := r3.alloc (.cells #[.int .i64 2, .int .i64 0] 23)
  have r4 := r4.alloc (.cells #[.int .i64 2, .int .i64 0] 23)
  have r5 := r5.alloc (.cells #[.int .i64 2, .int .i64 0] 23)
  have r6 := Row.new w6 23 #[.int .i64 2, .int .i64 0]
  have hB := hB.alloc hB.size (.cells #[.int .i64 2, .int .i64 0] 23)
  obtain ⟨x0, x1⟩ := r1.duo
  obtain ⟨y0, y1⟩ := r2.duo
  obtain ⟨z0, z1⟩ := r3.duo
  obtain ⟨u0, u1⟩ := r6.duo
  go_wp2_with fail
  refine (al_print _).mono ?_
  rintro _ w7 ⟨rfl, h7⟩
  go_wp2
  go_ret
  exact ⟨rfl, hB.trans (h7.mono hB.size)⟩
end Go.Proofs.YtfbhonjndepjbaaDoor
/- Right, of any Dec. -/
namespace Go.Proofs.YtfbhonjndepjbaaDoor
open Go.RowKit

/-- A Dec is right. -/
def rightB (p q : Int) : Bool := if p = 0 then decide (q = 0) else decide (-18 ≤ q ∧ q ≤ 18) && (decide (p % 10 ≠ 0) || decide (q = 18))
theorem tmod_dec (p : Int) : decide (p % 10 ≠ 0) = (Int.tmod p 10 != 0) := by
  have h : p % 10 = 0 ↔ Int.tmod p 10 = 0 := ⟨fun h => Int.tmod_eq_zero_of_dvd (Int.dvd_of_emod_eq_zero h), fun h => Int.emod_eq_zero_of_dvd (Int.dvd_of_tmod_eq_zero h)⟩
  by_cases h1 : Int.tmod p 10 = 0
  · rw [decide_eq_false (by simpa using h.2 h1), h1]; rfl
  · rw [decide_eq_true (show p % 10 ≠ 0 from fun e => h1 (h.1 e))]; simp [h1]
theorem tmod_wrap (p : Int) : wrap64 (Int.tmod p 10) = Int.tmod p 10 := by
  have e1 := Int.natAbs_tmod p 10
  have e2 : (Int.tmod p 10).natAbs < 10 := by rw [e1]; exact Nat.mod_lt _ (by decide)
  unfold wrap64; omega
set_option maxRecDepth 100000 in
set_option maxHeartbeats 400000 in
theorem right_any (p q : Int) (hp : I64 p) (w : World) : Calls Tryd.prog 26 #[.agg #[.int .i64 p, .int .i64 q]] w fun r w' => r = .returned (.bool (rightB p q)) ∧ Below w.heap.size w w' := by
  have hb0 : ∀ o, Below w.heap.size w (w.alloc o) := fun o => (Below.refl _ w).alloc (Nat.le_refl _) _
  have hp1 := hp.1
  have hp2 := hp.2
  unfold rightB
  by_cases h0 : p = 0
  · subst h0
    rw [if_pos rfl]
    clear hp hp1 hp2
    by_cases hq : q = 0
    · subst hq
      go_enter Tryd.func26, Tryd.ntmps26
      go_wp2
      go_ret
      exact ⟨rfl, hb0 _⟩
    · have hq2 : (q == 0) = false := by simpa using hq
      rw [decide_eq_false hq]
      go_enter Tryd.func26, Tryd.ntmps26
      go_wp2
      go_ret
      exact ⟨by first | rfl | simp [hq2], hb0 _⟩
  · rw [if_neg h0, tmod_dec]
    have HI : ∀ b, decide (-18 ≤ q ∧ q ≤ 18) = b → Hid (decide (-18 ≤ q ∧ q ≤ 18) = b) := fun _ h => h
    have ht := tmod_wrap p
    clear hp
    cases hw : decide (-18 ≤ q ∧ q ≤ 18) with
    | false =>
      have HI := HI _ hw
      clear hw
      go_enter Tryd.func26, Tryd.ntmps26
      go_wp2_with (go_at_call 65; refine (within_any _ _).mono ?_; rintro _ w10 ⟨rfl, hw10⟩; rw [hw10, HI.out]; clear hw10 w10)
      go_ret
      exact ⟨rfl, hb0 _⟩
    | true =>
      have HI := HI _ hw
      clear hw
      by_cases h1 : Int.tmod p 10 = 0
      · by_cases h2 : q = 18
        · subst h2
          rw [h1]
          go_enter Tryd.func26, Tryd.ntmps26
          go_wp2_with (go_at_call 65; refine (within_any _ _).mono ?_; rintro _ w10 ⟨rfl, hw10⟩; rw [hw10, HI.out]; clear hw10 w10)
          go_ret
          exact ⟨by first | rfl | simp, hb0 _⟩
        · have h3 : (q == 18) = false := by simpa using h2
          rw [h1, decide_eq_false h2]
          go_enter Tryd.func26, Tryd.ntmps26
          go_wp2_with (go_at_call 65; refine (within_any _ _).mono ?_; rintro _ w10 ⟨rfl, hw10⟩; rw [hw10, HI.out]; clear hw10 w10)
          go_ret
          exact ⟨by first | rfl | simp [h3], hb0 _⟩
      · have h3 : (Int.tmod p 10 != 0) = true := by simpa using h1
        have h4 : (wrap64 (Int.tmod p 10) != 0) = true := by rw [ht]; exact h3
        rw [h3]
        go_enter Tryd.func26, Tryd.ntmps26
        go_wp2_with (go_at_call 65; refine (within_any _ _).mono ?_; rintro _ w10 ⟨rfl, hw10⟩; rw [hw10, HI.out]; clear hw10 w10)
        go_ret
        exact ⟨by first | rfl | simp, hb0 _⟩
end Go.Proofs.YtfbhonjndepjbaaDoor
/- Quotients that are there are found. -/
namespace Go.Proofs.YtfbhonjndepjbaaDoor

theorem quot_found (Z : Nat) (E : Int) (hZ : Z ≤ 9223372036854775808) : ∀ (b n : Nat) (e : Int) (s t : Nat), 1 ≤ b → b < 18446744073709551616 → Nat.Coprime n b → n * 10 ^ s = Z * b * 10 ^ t → e - s = E - t →
    ∃ m f, quotL b n e = some (m, f) ∧ ∃ s' t' : Nat, m * 10 ^ s' = Z * 10 ^ t' ∧ f - s' = E - t' := by
  intro b
  induction b using Nat.strongRecOn with
  | ind b ih =>
    intro n e s t hb1 hb2 hc hv he
    by_cases h1 : b ≤ 1
    · obtain rfl : b = 1 := by omega
      refine ⟨n, e, by rw [quotL.eq_def, if_pos h1], s, t, by rw [hv, Nat.mul_one], he⟩
    · -- n is small, and b divides a power of ten
      have hst : t < s := by
        apply Nat.lt_of_not_le
        intro hle
        have hp := ten_pos s
        have h2 : n = Z * b * 10 ^ (t - s) := by
          apply Nat.eq_of_mul_eq_mul_right hp
          rw [hv, Nat.mul_assoc (Z * b), ← Nat.pow_add]
          congr 2; omega
        have h3 : b ∣ n := ⟨Z * 10 ^ (t - s), by rw [h2, Nat.mul_comm Z b, Nat.mul_assoc]⟩
        have h4 : Nat.gcd n b = b := Nat.gcd_eq_right h3
        have h5 : Nat.gcd n b = 1 := hc
        omega
      have hv2 : n * 10 ^ (s - t) = Z * b := by
        have hp := ten_pos t
        apply Nat.eq_of_mul_eq_mul_right hp
        rw [← hv, Nat.mul_assoc, ← Nat.pow_add]
        congr 2; omega
      have hn : n * 10 ≤ Z * b := by
        rw [← hv2]
        apply Nat.mul_le_mul_left
        have := Nat.pow_le_pow_right (n := 10) (i := 1) (j := s - t) (by omega) (by omega)
        simpa using this
      have hZb : Z * b ≤ 9223372036854775808 * 18446744073709551616 := Nat.mul_le_mul hZ (by omega)
      have hbd : b ∣ 10 ^ (s - t) := by
        have : b ∣ n * 10 ^ (s - t) := ⟨Z, by rw [hv2, Nat.mul_comm]⟩
        exact Nat.Coprime.dvd_of_dvd_mul_left (Nat.Coprime.symm hc) this
      by_cases h10 : b % 10 = 0
      · obtain ⟨b1, rfl⟩ : ∃ b1, b = 10 * b1 := ⟨b / 10, by omega⟩
        have hc1 : Nat.Coprime n b1 := Nat.Coprime.coprime_dvd_right ⟨10, by rw [Nat.mul_comm]⟩ hc
        obtain ⟨m, f, q1, s', t', q2, q3⟩ := ih b1 (by omega) n (e - 1) s (t + 1) (by omega) (by omega) hc1 (by rw [hv, Nat.pow_succ]; simp [Nat.mul_comm, Nat.mul_assoc]) (by omega)
        refine ⟨m, f, ?_, s', t', q2, q3⟩
        rw [quotL.eq_def, if_neg h1, if_pos h10, show 10 * b1 / 10 = b1 by omega, q1]
      · by_cases h2 : b % 2 = 0
        · obtain ⟨b1, rfl⟩ : ∃ b1, b = 2 * b1 := ⟨b / 2, by omega⟩
          have hc1 : Nat.Coprime n b1 := Nat.Coprime.coprime_dvd_right ⟨2, by rw [Nat.mul_comm]⟩ hc
          have h5 : Nat.Coprime 5 b1 := by
            have : Nat.gcd 5 b1 ∣ 5 := Nat.gcd_dvd_left _ _
            have hle : Nat.gcd 5 b1 ≤ 5 := Nat.le_of_dvd (by omega) this
            have hd : Nat.gcd 5 b1 ∣ b1 := Nat.gcd_dvd_right _ _
            generalize hgg : Nat.gcd 5 b1 = g at *
            have : g = 0 ∨ g = 1 ∨ g = 2 ∨ g = 3 ∨ g = 4 ∨ g = 5 := by omega
            rcases this with rfl | rfl | rfl | rfl | rfl | rfl
            · omega
            · exact hgg
            · omega
            · omega
            · omega
            · obtain ⟨k, hk⟩ := hd; omega
          have hfit : n * 5 < M128 := by unfold M128; omega
          obtain ⟨m, f, q1, s', t', q2, q3⟩ := ih b1 (by omega) (n * 5) (e - 1) s (t + 1) (by omega) (by omega) (Nat.Coprime.mul_left hc1 h5) (by
            rw [Nat.pow_succ, show n * 5 * 10 ^ s = n * 10 ^ s * 5 by rw [Nat.mul_assoc, Nat.mul_comm 5, ← Nat.mul_assoc], hv]
            rw [show Z * (2 * b1) * 10 ^ t * 5 = Z * b1 * (10 ^ t * 10) by
              rw [Nat.mul_assoc, Nat.mul_assoc, Nat.mul_assoc, Nat.mul_assoc, Nat.mul_left_comm 2, Nat.mul_left_comm 2]]) (by omega)
          refine ⟨m, f, ?_, s', t', q2, q3⟩
          rw [quotL.eq_def, if_neg h1, if_neg h10, if_pos h2, if_pos hfit, show 2 * b1 / 2 = b1 by omega, q1]
        · by_cases h5 : b % 5 = 0
          · obtain ⟨b1, rfl⟩ : ∃ b1, b = 5 * b1 := ⟨b / 5, by omega⟩
            have hc1 : Nat.Coprime n b1 := Nat.Coprime.coprime_dvd_right ⟨5, by rw [Nat.mul_comm]⟩ hc
            have h22 : Nat.Coprime 2 b1 := by
              have hle : Nat.gcd 2 b1 ≤ 2 := Nat.le_of_dvd (by omega) (Nat.gcd_dvd_left _ _)
              have hd : Nat.gcd 2 b1 ∣ b1 := Nat.gcd_dvd_right _ _
              have hp : 0 < Nat.gcd 2 b1 := Nat.gcd_pos_of_pos_left _ (by omega)
              generalize hgg : Nat.gcd 2 b1 = g at *
              have : g = 1 ∨ g = 2 := by omega
              rcases this with rfl | rfl
              · exact hgg
              · obtain ⟨k, hk⟩ := hd; omega
            have hfit : n * 2 < M128 := by unfold M128; omega
            obtain ⟨m, f, q1, s', t', q2, q3⟩ := ih b1 (by omega) (n * 2) (e - 1) s (t + 1) (by omega) (by omega) (Nat.Coprime.mul_left hc1 h22) (by
              rw [Nat.pow_succ, show n * 2 * 10 ^ s = n * 10 ^ s * 2 by rw [Nat.mul_assoc, Nat.mul_comm 2, ← Nat.mul_assoc], hv]
              rw [show Z * (5 * b1) * 10 ^ t * 2 = Z * b1 * (10 ^ t * 10) by
                rw [Nat.mul_assoc, Nat.mul_assoc, Nat.mul_assoc, Nat.mul_assoc, Nat.mul_left_comm 5, Nat.mul_left_comm 5]]) (by omega)
            refine ⟨m, f, ?_, s', t', q2, q3⟩
            rw [quotL.eq_def, if_neg h1, if_neg h10, if_neg h2, if_pos h5, if_pos hfit, show 5 * b1 / 5 = b1 by omega, q1]
          · exfalso
            have hc10 : Nat.Coprime b 10 := by
              have hd : Nat.gcd b 10 ∣ 10 := Nat.gcd_dvd_right _ _
              have hdb : Nat.gcd b 10 ∣ b := Nat.gcd_dvd_left _ _
              have hle : Nat.gcd b 10 ≤ 10 := Nat.le_of_dvd (by omega) hd
              generalize hgg : Nat.gcd b 10 = g at *
              obtain ⟨k, hk⟩ := hdb
              have : g = 0 ∨ g = 1 ∨ g = 2 ∨ g = 3 ∨ g = 4 ∨ g = 5 ∨ g = 6 ∨ g = 7 ∨ g = 8 ∨ g = 9 ∨ g = 10 := by omega
              rcases this with rfl | rfl | rfl | rfl | rfl | rfl | rfl | rfl | rfl | rfl | rfl
              · omega
              · exact hgg
              all_goals omega
            have hcp : Nat.Coprime b (10 ^ (s - t)) := Nat.Coprime.pow_right _ hc10
            have hg : Nat.gcd b (10 ^ (s - t)) = b := Nat.gcd_eq_left hbd
            have hg1 : Nat.gcd b (10 ^ (s - t)) = 1 := hcp
            omega
theorem natAbs_sc_mul (x y z : Wd) (u v : Nat) (h : sc x * 10 ^ u = sc z * sc y * 10 ^ v) : x.n * 10 ^ u = z.n * y.n * 10 ^ v := by
  have := congrArg Int.natAbs h
  rw [Int.natAbs_mul, Int.natAbs_mul, Int.natAbs_mul, Int.natAbs_pow, Int.natAbs_pow, sc_abs, sc_abs, sc_abs] at this
  exact this
/-- A product that is parted is told as the other factor. -/
theorem told_quot (x y z : Wd) (hy : y.n < 18446744073709551616) (hy0 : y.n ≠ 0) (hz : z.n ≤ 9223372036854775808) (u v : Nat) (h : sc x * 10 ^ u = sc z * sc y * 10 ^ v) (he : x.e - u = z.e + y.e - v) :
    toldW (quotW x y) = tell (sc z) z.e := by
  have hn := natAbs_sc_mul x y z u v h
  have hg0 : 0 < Nat.gcd x.n y.n := Nat.gcd_pos_of_pos_right _ (by omega)
  obtain ⟨X, hX⟩ := Nat.gcd_dvd_left x.n y.n
  obtain ⟨Y, hY⟩ := Nat.gcd_dvd_right x.n y.n
  have hXd : x.n / Nat.gcd x.n y.n = X := by
    apply Nat.div_eq_of_eq_mul_right hg0 hX
  have hYd : y.n / Nat.gcd x.n y.n = Y := by
    apply Nat.div_eq_of_eq_mul_right hg0 hY
  have hcop : Nat.Coprime X Y := by
    have := Nat.coprime_div_gcd_div_gcd (m := x.n) (n := y.n) hg0
    rw [hXd, hYd] at this
    exact this
  have hY1 : 1 ≤ Y := by
    rcases Nat.eq_zero_or_pos Y with h0 | h0
    · rw [h0, Nat.mul_zero] at hY; omega
    · exact h0
  have hYle : Y ≤ y.n := by rw [← hYd]; exact Nat.div_le_self _ _
  have hv : X * 10 ^ u = z.n * Y * 10 ^ v := by
    apply Nat.eq_of_mul_eq_mul_left hg0
    have e1 : Nat.gcd x.n y.n * (z.n * Y * 10 ^ v) = z.n * (Nat.gcd x.n y.n * Y) * 10 ^ v := by
      generalize Nat.gcd x.n y.n = g
      simp [Nat.mul_comm, Nat.mul_left_comm, Nat.mul_assoc]
    rw [e1, ← hY, ← Nat.mul_assoc, ← hX, hn]
  obtain ⟨m, f, q1, s', t', q2, q3⟩ := quot_found z.n z.e hz Y X (x.e - y.e) u v hY1 (by omega) hcop hv (by omega)
  unfold quotW
  rw [hXd, hYd, q1]
  show tellW (x.neg != y.neg) m f = _
  rw [← tell_sc ⟨x.neg != y.neg, m, f⟩]
  refine tell_same (m := min f z.e) (Int.min_le_right _ _) (Int.min_le_left _ _) ?_
  have key : sc ⟨x.neg != y.neg, m, f⟩ * 10 ^ s' = sc z * 10 ^ t' := by
    by_cases hz0 : z.n = 0
    · have hm0 : m = 0 := by
        rw [hz0, Nat.zero_mul] at q2
        rcases Nat.mul_eq_zero.1 q2 with h0 | h0
        · exact h0
        · have := ten_pos s'; omega
      rw [(sc_neg0 ⟨x.neg != y.neg, m, f⟩).2 hm0, (sc_neg0 z).2 hz0]; simp
    · have hsgn : (x.neg != y.neg) = z.neg := by
        have hxn : x.n ≠ 0 := by
          intro h0
          rw [h0, Nat.zero_mul] at hn
          have hh := hn.symm
          rcases Nat.mul_eq_zero.1 hh with h1 | h1
          · rcases Nat.mul_eq_zero.1 h1 with h2 | h2
            · exact hz0 h2
            · exact hy0 h2
          · have := ten_pos v; omega
        have hp1 := pow_pos' u
        have hp2 := pow_pos' v
        have hsg := congrArg Int.sign h
        rw [Int.sign_mul, Int.sign_mul, Int.sign_mul, Int.sign_eq_one_of_pos hp1, Int.sign_eq_one_of_pos hp2, Int.mul_one, Int.mul_one] at hsg
        have e1 : ∀ w : Wd, w.n ≠ 0 → (sc w).sign = if w.neg then -1 else 1 := by
          intro w hw
          unfold sc
          cases w.neg
          · simp only [Bool.false_eq_true, if_false]; exact Int.sign_eq_one_of_pos (by omega)
          · simp only [if_true]; exact Int.sign_eq_neg_one_of_neg (by omega)
        rw [e1 x hxn, e1 y hy0, e1 z hz0] at hsg
        cases hx : x.neg <;> cases hyy : y.neg <;> cases hzz : z.neg <;> rw [hx, hyy, hzz] at hsg <;> first | rfl | (exfalso; revert hsg; decide)
      rw [hsgn]
      have q2' : ((m * 10 ^ s' : Nat) : Int) = ((z.n * 10 ^ t' : Nat) : Int) := by rw [q2]
      rw [Int.natCast_mul, Int.natCast_mul, Int.natCast_pow, Int.natCast_pow] at q2'
      unfold sc
      simp only
      cases z.neg
      · simpa using q2'
      · simp only [if_true, Int.neg_mul]
        have : (m : Int) * 10 ^ s' = (z.n : Int) * 10 ^ t' := by simpa using q2'
        rw [this]
  -- both in the same units
  unfold V
  have hp := pow_ne (s' + t')
  generalize hd : min f z.e = d
  have hdf : d ≤ f := by omega
  have hdz : d ≤ z.e := by omega
  have a1 : sc ⟨x.neg != y.neg, m, f⟩ * 10 ^ (f - d).toNat * 10 ^ (s' + t') = sc ⟨x.neg != y.neg, m, f⟩ * 10 ^ s' * 10 ^ ((f - d).toNat + t') := by
    rw [Int.mul_assoc, Int.mul_assoc, ← Int.pow_add, ← Int.pow_add]; congr 2; omega
  have a2 : sc z * 10 ^ (z.e - d).toNat * 10 ^ (s' + t') = sc z * 10 ^ t' * 10 ^ ((z.e - d).toNat + s') := by
    rw [Int.mul_assoc, Int.mul_assoc, ← Int.pow_add, ← Int.pow_add]; congr 2; omega
  apply Int.eq_of_mul_eq_mul_right hp
  rw [a1, a2, key]
  congr 2
  omega
#print axioms told_quot
end Go.Proofs.YtfbhonjndepjbaaDoor
/- size, Cmp. -/
namespace Go.Proofs.YtfbhonjndepjbaaDoor
open Go.RowKit

set_option maxRecDepth 100000 in
set_option maxHeartbeats 800000 in
theorem size_f1 (an bn : Bool) (ah al bh bl : Nat) (ae be : Int) (hla : ∀ w, Calls Tryd.prog 71 #[wv an ah al ae, .int .i64 be] w fun r w' => r = .returned (.tuple #[.agg #[.bool false, .int .u64 0, .int .u64 0, .int .i64 0], .bool false]) ∧ Below w.heap.size w w') (w : World) :
    Calls Tryd.prog 68 #[wv an ah al ae, wv bn bh bl be] w fun r w' => r = .returned (.int .i64 1) ∧ Below w.heap.size w w' := by
  unfold wv at *
  go_enter Tryd.func68, Tryd.ntmps68
  go_wp2_with fail
  refine (hla _).mono ?_
  rintro _ w1 ⟨rfl, h1⟩
  obtain ⟨hA, hC, hB⟩ := two_rows w w1 _ _ _ _ h1
  obtain ⟨a0, a1, a2, a3⟩ := hA.four
  obtain ⟨b0, b1, b2, b3⟩ := hC.four
  have z1 := hA.frozen; have z2 := hC.frozen
  clear h1 hla
  have hA := hA.set4 (.bool false) (.int .u64 0) (.int .u64 0) (.int .i64 0)
  have hC := hC.off4 (B' := w.heap.size) (by omega) (.bool false) (.int .u64 0) (.int .u64 0) (.int .i64 0)
  have hB := below_set4 hB (B' := w.heap.size) (by omega) (.bool false) (.int .u64 0) (.int .u64 0) (.int .i64 0)
  go_wp2
  go_ret
  exact ⟨rfl, hB⟩
set_option maxRecDepth 100000 in
set_option maxHeartbeats 800000 in
theorem size_f2 (an bn : Bool) (ah al bh bl : Nat) (ae be : Int) (sn : Bool) (sh sl : Nat) (se : Int) (hla : ∀ w, Calls Tryd.prog 71 #[wv an ah al ae, .int .i64 be] w fun r w' => r = .returned (.tuple #[wv sn sh sl se, .bool true]) ∧ Below w.heap.size w w') (hlb : ∀ w, Calls Tryd.prog 71 #[wv bn bh bl be, .int .i64 se] w fun r w' => r = .returned (.tuple #[.agg #[.bool false, .int .u64 0, .int .u64 0, .int .i64 0], .bool false]) ∧ Below w.heap.size w w') (w : World) :
    Calls Tryd.prog 68 #[wv an ah al ae, wv bn bh bl be] w fun r w' => r = .returned (.int .i64 (-1)) ∧ Below w.heap.size w w' := by
  unfold wv at *
  go_enter Tryd.func68, Tryd.ntmps68
  go_wp2_with fail
  refine (hla _).mono ?_
  rintro _ w1 ⟨rfl, h1⟩
  obtain ⟨hA, hC, hB⟩ := two_rows w w1 _ _ _ _ h1
  obtain ⟨a0, a1, a2, a3⟩ := hA.four
  obtain ⟨b0, b1, b2, b3⟩ := hC.four
  have z1 := hA.frozen; have z2 := hC.frozen
  clear h1 hla
  have hA := hA.set4 (.bool sn) (.int .u64 (sh : Int)) (.int .u64 (sl : Int)) (.int .i64 se)
  have hC := hC.off4 (B' := w.heap.size) (by omega) (.bool sn) (.int .u64 (sh : Int)) (.int .u64 (sl : Int)) (.int .i64 se)
  have hB := below_set4 hB (B' := w.heap.size) (by omega) (.bool sn) (.int .u64 (sh : Int)) (.int .u64 (sl : Int)) (.int .i64 se)
  go_wp2_with fail
  refine (hlb _).mono ?_
  rintro _ w2 ⟨rfl, h2⟩
  clear a0 a1 a2 a3 b0 b1 b2 b3 z1 z2
  have hA := hA.below h2 hA.lt
  have hC := hC.below h2 hC.lt
  have hB := hB.trans (h2.mono hB.size)
  obtain ⟨a0, a1, a2, a3⟩ := hA.four
  obtain ⟨b0, b1, b2, b3⟩ := hC.four
  have z1 := hA.frozen; have z2 := hC.frozen
  clear h2 hlb
  have hC := hC.set4 (.bool false) (.int .u64 0) (.int .u64 0) (.int .i64 0)
  have hA := hA.off4 (B' := w.heap.size + 1) (by omega) (.bool false) (.int .u64 0) (.int .u64 0) (.int .i64 0)
  have hB := below_set4 hB (B' := w.heap.size + 1) (by omega) (.bool false) (.int .u64 0) (.int .u64 0) (.int .i64 0)
  go_wp2
  go_ret
  exact ⟨rfl, hB⟩
set_option maxRecDepth 100000 in
set_option maxHeartbeats 800000 in
theorem size_ok (an bn : Bool) (ah al bh bl : Nat) (ae be : Int) (sn tn : Bool) (sh sl th tl : Nat) (se te q : Int) (hla : ∀ w, Calls Tryd.prog 71 #[wv an ah al ae, .int .i64 be] w fun r w' => r = .returned (.tuple #[wv sn sh sl se, .bool true]) ∧ Below w.heap.size w w') (hlb : ∀ w, Calls Tryd.prog 71 #[wv bn bh bl be, .int .i64 se] w fun r w' => r = .returned (.tuple #[wv tn th tl te, .bool true]) ∧ Below w.heap.size w w') (hk : ∀ w, Calls Tryd.prog 89 #[wv sn sh sl se, wv tn th tl te] w fun r w' => r = .returned (.int .i64 q) ∧ Below w.heap.size w w') (w : World) :
    Calls Tryd.prog 68 #[wv an ah al ae, wv bn bh bl be] w fun r w' => r = .returned (.int .i64 q) ∧ Below w.heap.size w w' := by
  unfold wv at *
  go_enter Tryd.func68, Tryd.ntmps68
  go_wp2_with fail
  refine (hla _).mono ?_
  rintro _ w1 ⟨rfl, h1⟩
  obtain ⟨hA, hC, hB⟩ := two_rows w w1 _ _ _ _ h1
  obtain ⟨a0, a1, a2, a3⟩ := hA.four
  obtain ⟨b0, b1, b2, b3⟩ := hC.four
  have z1 := hA.frozen; have z2 := hC.frozen
  clear h1 hla
  have hA := hA.set4 (.bool sn) (.int .u64 (sh : Int)) (.int .u64 (sl : Int)) (.int .i64 se)
  have hC := hC.off4 (B' := w.heap.size) (by omega) (.bool sn) (.int .u64 (sh : Int)) (.int .u64 (sl : Int)) (.int .i64 se)
  have hB := below_set4 hB (B' := w.heap.size) (by omega) (.bool sn) (.int .u64 (sh : Int)) (.int .u64 (sl : Int)) (.int .i64 se)
  go_wp2_with fail
  refine (hlb _).mono ?_
  rintro _ w2 ⟨rfl, h2⟩
  clear a0 a1 a2 a3 b0 b1 b2 b3 z1 z2
  have hA := hA.below h2 hA.lt
  have hC := hC.below h2 hC.lt
  have hB := hB.trans (h2.mono hB.size)
  obtain ⟨a0, a1, a2, a3⟩ := hA.four
  obtain ⟨b0, b1, b2, b3⟩ := hC.four
  have z1 := hA.frozen; have z2 := hC.frozen
  clear h2 hlb
  have hC := hC.set4 (.bool tn) (.int .u64 (th : Int)) (.int .u64 (tl : Int)) (.int .i64 te)
  have hA := hA.off4 (B' := w.heap.size + 1) (by omega) (.bool tn) (.int .u64 (th : Int)) (.int .u64 (tl : Int)) (.int .i64 te)
  have hB := below_set4 hB (B' := w.heap.size + 1) (by omega) (.bool tn) (.int .u64 (th : Int)) (.int .u64 (tl : Int)) (.int .i64 te)
  go_wp2_with fail
  refine (hk _).mono ?_
  rintro _ w3 ⟨rfl, h3⟩
  go_wp2
  go_ret
  exact ⟨rfl, hB.trans (h3.mono hB.size)⟩
theorem size_any (a b : Wd) (ha : a.n < M128) (hb : b.n < M128) (ea : EOk a) (eb : EOk b) (w : World) :
    Calls Tryd.prog 68 #[a.val, b.val] w fun r w' => r = .returned (.int .i64 (sizeW a b)) ∧ Below w.heap.size w w' := by
  unfold sizeW
  rcases low_val a b.e ha ea eb.1 with ⟨hl, hla⟩ | ⟨a', hl, hla⟩
  · rw [hl]
    exact size_f1 a.neg b.neg _ _ _ _ a.e b.e hla w
  · rw [hl]
    simp only
    obtain ⟨p1, p2, p3, p4, p5⟩ := lowW_some hl ha
    have ea' : EOk a' := by unfold EOk at *; omega
    rcases low_val b a'.e hb eb ea'.1 with ⟨hl2, hlb⟩ | ⟨b', hl2, hlb⟩
    · rw [hl2]
      exact size_f2 a.neg b.neg _ _ _ _ a.e b.e a'.neg _ _ a'.e hla hlb w
    · rw [hl2]
      simp only
      exact size_ok a.neg b.neg _ _ _ _ a.e b.e a'.neg b'.neg _ _ _ _ a'.e b'.e _ hla hlb (bySize_any a' b') w
theorem sign_W (x : Wd) (w : World) : Calls Tryd.prog 66 #[x.val] w fun r w' => r = .returned (.int .i64 (sgW x)) ∧ Below w.heap.size w w' := by
  refine (sign_any x.neg (x.n / 18446744073709551616) (x.n % 18446744073709551616) x.e w).mono ?_
  rintro r w' ⟨rfl, hB⟩
  refine ⟨?_, hB⟩
  unfold sgW
  have : (x.n / 18446744073709551616 = 0 ∧ x.n % 18446744073709551616 = 0) ↔ x.n = 0 := by omega
  simp only [this]
theorem sgW_bd (x : Wd) : -1 ≤ sgW x ∧ sgW x ≤ 1 := by unfold sgW; split; omega; split <;> omega
theorem sizeW_bd (a b : Wd) : -1 ≤ sizeW a b ∧ sizeW a b ≤ 1 := by
  unfold sizeW cN
  split
  · omega
  · split
    · omega
    · repeat' split
      all_goals omega
set_option maxRecDepth 100000 in
set_option maxHeartbeats 800000 in
theorem cmp_ok (c e c2 e2 : Int) (hc : I64 c) (he : within e) (hc2 : I64 c2) (he2 : within e2) (w : World) : Calls Tryd.prog 28 #[dv c e, dv c2 e2] w fun r w' => r = .returned (.int .i64 (cmpW (decW c e) (decW c2 e2))) ∧ Below w.heap.size w w' := by
  have hT := fun K w (hK : Row w K 23 #[.int .i64 c, .int .i64 e, .int .i64 c2, .int .i64 e2]) => taken2 c e c2 e2 K w hc he hc2 he2 hK
  have hs1 := sign_W (decW c e)
  have hs2 := sign_W (decW c2 e2)
  obtain ⟨q1, q2, q3, q4⟩ := dec_bounds hc he
  obtain ⟨p1, p2, p3, p4⟩ := dec_bounds hc2 he2
  have hz := size_any (decW c e) (decW c2 e2) q2 p2 q4 p4
  have b1 := sgW_bd (decW c e)
  have b2 := sgW_bd (decW c2 e2)
  have b3 := sizeW_bd (decW c e) (decW c2 e2)
  unfold cmpW at *
  simp only [Wd.val_eq] at *
  obtain ⟨y0, y1, y2, y3, hy⟩ : ∃ y0 y1 y2 y3, (decW c e).cells = #[y0, y1, y2, y3] := ⟨_, _, _, _, rfl⟩
  obtain ⟨z0, z1, z2, z3, hz'⟩ : ∃ y0 y1 y2 y3, (decW c2 e2).cells = #[y0, y1, y2, y3] := ⟨_, _, _, _, rfl⟩
  rw [hy] at hs1 hz
  rw [hz'] at hs2 hz
  simp only [hy, hz'] at hT
  generalize sgW (decW c e) = s1 at *
  generalize sgW (decW c2 e2) = s2 at *
  generalize sizeW (decW c e) (decW c2 e2) = q at *
  clear hc he hc2 he2 hy hz' q1 q2 q3 q4 p1 p2 p3 p4
  by_cases hne : s1 = s2
  · subst hne
    have HV : Hid ((if s1 ≠ s1 then (if s1 < s1 then -1 else 1) else s1 * q) = s1 * q) := if_neg (by simp)
    rw [HV.out]
    have fm : Hid (wrap64 (s1 * q) = s1 * q) := by
      show _ = _
      have : s1 = -1 ∨ s1 = 0 ∨ s1 = 1 := by omega
      rcases this with rfl | rfl | rfl <;> (unfold wrap64; omega)
    have fm2 : Hid (IntKind.i64.wrap (s1 * q) = s1 * q) := by
      show _ = _
      have : s1 = -1 ∨ s1 = 0 ∨ s1 = 1 := by omega
      have hd : s1 * q = -q ∨ s1 * q = 0 ∨ s1 * q = q := by rcases this with rfl | rfl | rfl <;> omega
      generalize s1 * q = m at hd
      simp [IntKind.wrap, IntKind.bits, IntKind.signed]
      omega
    clear b1 b2 b3
    unfold dv
    go_enter Tryd.func28, Tryd.ntmps28
    go_wp2_with fail
    obtain ⟨_, _, hK, _⟩ := three_rows w _ _ _ _ 23 23 23 (Below.refl _ (((w.alloc (.cells #[.int .i64 c, .int .i64 e] 23)).alloc (.cells #[.int .i64 c2, .int .i64 e2] 23)).alloc (.cells #[.int .i64 c, .int .i64 e, .int .i64 c2, .int .i64 e2] 23)))
    refine (hT _ _ hK).mono ?_
    rintro _ W ⟨h1, G, hG, rfl, hR⟩
    obtain ⟨_, _, _, hB⟩ := three_rows w W _ _ _ _ _ _ h1
    have hR : Row W G 59 #[y0, y1, y2, y3, z0, z1, z2, z3] := hR
    clear h1 hG hK hT
    obtain ⟨g0, g1, g2, g3, g4, g5, g6, g7⟩ := hR.eight
    go_wp2_with fail
    refine (hs1 _).mono ?_
    rintro _ W1 ⟨rfl, h1⟩
    have hR := hR.below h1 hR.lt
    have hB := hB.trans (h1.mono hB.size)
    clear h1 hs1 g0 g1 g2 g3 g4 g5 g6 g7
    obtain ⟨g0, g1, g2, g3, g4, g5, g6, g7⟩ := hR.eight
    go_wp2_with fail
    refine (hs2 _).mono ?_
    rintro _ W2 ⟨rfl, h1⟩
    have hR := hR.below h1 hR.lt
    have hB := hB.trans (h1.mono hB.size)
    clear h1 g0 g1 g2 g3 g4 g5 g6 g7
    obtain ⟨g0, g1, g2, g3, g4, g5, g6, g7⟩ := hR.eight
    go_wp2_with fail
    have hS0 : Below W2.heap.size W2 W2.drew := (Below.refl _ W2).drew
    refine wp_region_M (fun wx : World => Below W2.heap.size W2 wx) (fun j => decide (j < 8)) 10 rfl (by kernel_rfl) ?_
    refine wpM_held 0 (v := ?_) rfl (by kernel_rfl) (by kernel_rfl) rfl (fun _ _ _ h => h) rfl (by intro wx hx; go_simp <;> rfl) hS0 ?_
    refine wpM_held 1 (v := ?_) rfl (by kernel_rfl) (by kernel_rfl) rfl (fun _ _ _ h => h) rfl (by intro wx hx; go_simp <;> rfl) hS0 ?_
    refine wpM_held 2 (v := .pointer (some ⟨G, 0, none⟩)) rfl (by kernel_rfl) (by kernel_rfl) rfl (fun _ _ _ h => h) rfl (by intro wx hx; go_simp <;> rfl) hS0 ?_
    refine wpM_held 3 (v := .agg #[y0, y1, y2, y3]) rfl (by kernel_rfl) (by kernel_rfl) rfl (fun _ _ _ h => h) rfl (by intro wx hx; obtain ⟨g0, g1, g2, g3, g4, g5, g6, g7⟩ := (hR.below hx hR.lt).eight; go_simp <;> rfl) hS0 ?_
    refine wpM_held 4 (v := ?_) rfl (by kernel_rfl) (by kernel_rfl) rfl (fun _ _ _ h => h) rfl (by intro wx hx; go_simp <;> rfl) hS0 ?_
    refine wpM_held 5 (v := .pointer (some ⟨G, 4, none⟩)) rfl (by kernel_rfl) (by kernel_rfl) rfl (fun _ _ _ h => h) rfl (by intro wx hx; go_simp <;> rfl) hS0 ?_
    refine wpM_held 6 (v := .agg #[z0, z1, z2, z3]) rfl (by kernel_rfl) (by kernel_rfl) rfl (fun _ _ _ h => h) rfl (by intro wx hx; obtain ⟨g0, g1, g2, g3, g4, g5, g6, g7⟩ := (hR.below hx hR.lt).eight; go_simp <;> rfl) hS0 ?_
    refine wpM_one 7 rfl (by kernel_rfl) rfl ?_
    go_wp2_with fail
    refine (hz _).mono ?_
    rintro _ W3 ⟨rfl, h3⟩
    have hS1 := hS0.trans h3
    go_wp2_with fail
    refine ⟨fun _ => hS1, ?_⟩
    refine wpM_one 8 rfl (by kernel_rfl) rfl ?_
    go_wp2_with fail
    refine ⟨(fun h => by simp at h), ?_⟩
    refine wpM_one 9 rfl (by kernel_rfl) rfl ?_
    go_wp2_with fail
    refine ⟨(fun h => by simp at h), ?_⟩
    refine wpM_done (by kernel_rfl) ?_
    go_wp2
    first | rw [fm.out] | rw [fm2.out] | skip
    go_ret
    exact ⟨rfl, hB.trans (hS1.mono hB.size)⟩
  · have HV : Hid ((if s1 ≠ s2 then (if s1 < s2 then -1 else 1) else s1 * q) = Lib.compareInt s1 s2) := by
      show _ = _
      rw [if_pos hne]
      unfold Lib.compareInt
      split
      · rfl
      · rw [if_pos (by omega)]
    rw [HV.out]
    have hn1 : (s1 != s2) = true := by simpa using hne
    have hcm := Tryd.cmp_Compare_int s1 s2
    clear b1 b2 b3 hne hz
    unfold dv
    go_enter Tryd.func28, Tryd.ntmps28
    go_wp2_with fail
    obtain ⟨_, _, hK, _⟩ := three_rows w _ _ _ _ 23 23 23 (Below.refl _ (((w.alloc (.cells #[.int .i64 c, .int .i64 e] 23)).alloc (.cells #[.int .i64 c2, .int .i64 e2] 23)).alloc (.cells #[.int .i64 c, .int .i64 e, .int .i64 c2, .int .i64 e2] 23)))
    refine (hT _ _ hK).mono ?_
    rintro _ W ⟨h1, G, hG, rfl, hR⟩
    obtain ⟨_, _, _, hB⟩ := three_rows w W _ _ _ _ _ _ h1
    have hR : Row W G 59 #[y0, y1, y2, y3, z0, z1, z2, z3] := hR
    clear h1 hG hK hT
    obtain ⟨g0, g1, g2, g3, g4, g5, g6, g7⟩ := hR.eight
    go_wp2_with fail
    refine (hs1 _).mono ?_
    rintro _ W1 ⟨rfl, h1⟩
    have hR := hR.below h1 hR.lt
    have hB := hB.trans (h1.mono hB.size)
    clear h1 hs1 g0 g1 g2 g3 g4 g5 g6 g7
    obtain ⟨g0, g1, g2, g3, g4, g5, g6, g7⟩ := hR.eight
    go_wp2_with fail
    refine (hs2 _).mono ?_
    rintro _ W2 ⟨rfl, h1⟩
    have hR := hR.below h1 hR.lt
    have hB := hB.trans (h1.mono hB.size)
    clear h1 g0 g1 g2 g3 g4 g5 g6 g7
    obtain ⟨g0, g1, g2, g3, g4, g5, g6, g7⟩ := hR.eight
    go_wp2_with fail
    refine (hs2 _).mono ?_
    rintro _ W3 ⟨rfl, h1⟩
    have hB := hB.trans (h1.mono hB.size)
    go_wp2_with fail
    refine (hcm _).mono ?_
    rintro _ W4 ⟨rfl, hw4⟩
    rw [hw4]
    go_wp2
    go_ret
    exact ⟨rfl, hB⟩
end Go.Proofs.YtfbhonjndepjbaaDoor
/- DecLaws: what its calls answer, and its walk. -/
namespace Go.Proofs.YtfbhonjndepjbaaDoor
open Go.RowKit

def Rt (p q : Int) : Prop := p % 10 ≠ 0 ∨ (q = 18 ∧ p ≠ 0) ∨ (p = 0 ∧ q = 0)
theorem tell_rt {c e C E : Int} (h : tell c e = some (C, E)) : Rt C E := by
  obtain ⟨_, _, _, _, h5, h6, _⟩ := tell_some h
  unfold Rt
  by_cases h0 : C = 0
  · have hc := h6.2 h0
    subst hc
    have : (C, E) = (0, 0) := by simpa [tell, tellW_zero] using h.symm
    cases this
    exact .inr (.inr ⟨rfl, rfl⟩)
  · omega
theorem right_rt {p q : Int} (hq : within q) (hr : Rt p q) : rightB p q = true := by
  unfold rightB
  have h1 : -18 ≤ q ∧ q ≤ 18 := hq
  unfold Rt at hr
  by_cases h0 : p = 0
  · rw [if_pos h0]; exact decide_eq_true (by omega)
  · rw [if_neg h0, decide_eq_true h1]
    by_cases h2 : p % 10 ≠ 0
    · rw [decide_eq_true h2]; rfl
    · rw [decide_eq_true (show q = 18 by omega)]; simp
theorem right_ok (p q : Int) (hp : I64 p) (hq : within q) (hr : Rt p q) (w : World) : Calls Tryd.prog 26 #[.agg #[.int .i64 p, .int .i64 q]] w fun r w' => r = .returned (.bool true) ∧ Below w.heap.size w w' := by
  have := right_any p q hp w
  rw [right_rt hq hr] at this
  exact this
set_option maxRecDepth 100000 in
set_option maxHeartbeats 400000 in
theorem sign_ok (c e : Int) (hc : I64 c) (he : within e) (w : World) : Calls Tryd.prog 30 #[.agg #[.int .i64 c, .int .i64 e]] w fun r w' => r = .returned (.int .i64 (sgW (decW c e))) ∧ Below w.heap.size w w' := by
  have hT := fun K w (hK : Row w K 23 #[.int .i64 c, .int .i64 e]) => taken1 c e K w hc he hK
  have hs := sign_W (decW c e)
  simp only [Wd.val_eq] at hs
  obtain ⟨y0, y1, y2, y3, hy⟩ : ∃ y0 y1 y2 y3, (decW c e).cells = #[y0, y1, y2, y3] := ⟨_, _, _, _, rfl⟩
  simp only [hy] at hT hs
  generalize sgW (decW c e) = sg at *
  clear hy
  go_enter Tryd.func30, Tryd.ntmps30
  go_wp2_with fail
  have hK := Row.new1 w (.cells #[.int .i64 c, .int .i64 e] 23) 23 #[.int .i64 c, .int .i64 e]
  refine (hT _ _ hK).mono ?_
  rintro _ W ⟨h1, G, hG, rfl, hR⟩
  obtain ⟨_, _, hB⟩ := two_rows w W _ _ _ _ h1
  obtain ⟨x0, x1, x2, x3⟩ := hR.four
  clear h1 hG hK hT
  go_wp2_with fail
  refine (hs _).mono ?_
  rintro _ W2 ⟨rfl, h2⟩
  go_wp2
  go_ret
  exact ⟨rfl, hB.trans (h2.mono hB.size)⟩
theorem told_fact2 (X m : Int) : ∃ p q v, decV (tell X m) = .tuple #[.agg #[.int .i64 p, .int .i64 q], .int .i64 v] ∧ (v = 0 → I64 p ∧ within q ∧ Rt p q ∧ tell X m = some (p, q)) := by
  cases h : tell X m with
  | none => exact ⟨0, 0, 30, rfl, fun h => by omega⟩
  | some d =>
    obtain ⟨C, E⟩ := d
    obtain ⟨h1, h2, h3, h4, h5, h6, h7⟩ := tell_some h
    exact ⟨C, E, 0, rfl, fun _ => ⟨⟨h3, h4⟩, ⟨h1, h2⟩, tell_rt h, rfl⟩⟩
theorem VW_dec' (c e : Int) (he : within e) : V (-18) (sc (decW c e)) (decW c e).e = V (-18) c e := sc_dec (-18) c e he.1
def D2 (p q : Int) : Value := .agg #[.int .i64 p, .int .i64 q]
theorem add_two (c e c2 e2 : Int) (hc : I64 c) (hc2 : I64 c2) : ∃ p q v, (∀ w, Calls Tryd.prog 9 #[D2 c e, D2 c2 e2] w fun r w' => r = .returned (.tuple #[D2 p q, .int .i64 v]) ∧ Below w.heap.size w w') ∧
    (∀ w, Calls Tryd.prog 9 #[D2 c2 e2, D2 c e] w fun r w' => r = .returned (.tuple #[D2 p q, .int .i64 v]) ∧ Below w.heap.size w w') ∧
    (v = 0 → within e ∧ within e2 ∧ I64 p ∧ within q ∧ Rt p q ∧ V (-18) p q = V (-18) c e + V (-18) c2 e2) := by
  by_cases hw : within e ∧ within e2
  · obtain ⟨he, he2⟩ := hw
    obtain ⟨p, q, v, h1, h2⟩ := told_fact2 (V (-18) c e + V (-18) c2 e2) (-18)
    refine ⟨p, q, v, fun w => ?_, fun w => ?_, fun hv => ?_⟩
    · have h := add_any c e c2 e2 hc hc2 w
      rw [two_ok _ _ _ he he2, told_sum _ _ (sh_dec c e he.1 he.2 hc.1 hc.2) (sh_dec c2 e2 he2.1 he2.2 hc2.1 hc2.2), VW_dec' c e he, VW_dec' c2 e2 he2, h1] at h
      exact h
    · have h := add_any c2 e2 c e hc2 hc w
      rw [two_ok _ _ _ he2 he, told_sum _ _ (sh_dec c2 e2 he2.1 he2.2 hc2.1 hc2.2) (sh_dec c e he.1 he.2 hc.1 hc.2), VW_dec' c e he, VW_dec' c2 e2 he2, Int.add_comm, h1] at h
      exact h
    · obtain ⟨i1, i2, i3, i4⟩ := h2 hv
      refine ⟨he, he2, i1, i2, i3, ?_⟩
      obtain ⟨_, _, _, _, _, _, h7⟩ := tell_some i4
      rw [h7 (-18) (Int.le_refl _) i2.1]
      simp [V]
  · refine ⟨0, 0, 1, fun w => ?_, fun w => ?_, fun hv => by omega⟩
    · have h := add_any c e c2 e2 hc hc2 w
      unfold twoV at h
      rw [if_neg (fun x => hw ⟨x.1, x.2⟩)] at h
      exact h
    · have h := add_any c2 e2 c e hc2 hc w
      unfold twoV at h
      rw [if_neg (fun x => hw ⟨x.2, x.1⟩)] at h
      exact h
theorem mul_two (c e c2 e2 : Int) (hc : I64 c) (hc2 : I64 c2) : ∃ p q v, (∀ w, Calls Tryd.prog 15 #[D2 c e, D2 c2 e2] w fun r w' => r = .returned (.tuple #[D2 p q, .int .i64 v]) ∧ Below w.heap.size w w') ∧
    (∀ w, Calls Tryd.prog 15 #[D2 c2 e2, D2 c e] w fun r w' => r = .returned (.tuple #[D2 p q, .int .i64 v]) ∧ Below w.heap.size w w') ∧
    (v = 0 → within e ∧ within e2 ∧ I64 p ∧ within q ∧ Rt p q ∧ V (-36) p q = V (-18) c e * V (-18) c2 e2) := by
  by_cases hw : within e ∧ within e2
  · obtain ⟨he, he2⟩ := hw
    obtain ⟨p, q, v, h1, h2⟩ := told_fact2 (V (-18) c e * V (-18) c2 e2) (-36)
    refine ⟨p, q, v, fun w => ?_, fun w => ?_, fun hv => ?_⟩
    · have h := mul_any c e c2 e2 hc hc2 w
      rw [two_ok _ _ _ he he2, told_prod _ _ (sh_dec c e he.1 he.2 hc.1 hc.2) (sh_dec c2 e2 he2.1 he2.2 hc2.1 hc2.2), VW_dec' c e he, VW_dec' c2 e2 he2, h1] at h
      exact h
    · have h := mul_any c2 e2 c e hc2 hc w
      rw [two_ok _ _ _ he2 he, told_prod _ _ (sh_dec c2 e2 he2.1 he2.2 hc2.1 hc2.2) (sh_dec c e he.1 he.2 hc.1 hc.2), VW_dec' c e he, VW_dec' c2 e2 he2, Int.mul_comm, h1] at h
      exact h
    · obtain ⟨i1, i2, i3, i4⟩ := h2 hv
      refine ⟨he, he2, i1, i2, i3, ?_⟩
      obtain ⟨_, _, _, _, _, _, h7⟩ := tell_some i4
      rw [h7 (-36) (Int.le_refl _) (by have := i2.1; omega)]
      simp [V]
  · refine ⟨0, 0, 1, fun w => ?_, fun w => ?_, fun hv => by omega⟩
    · have h := mul_any c e c2 e2 hc hc2 w
      unfold twoV at h
      rw [if_neg (fun x => hw ⟨x.1, x.2⟩)] at h
      exact h
    · have h := mul_any c2 e2 c e hc2 hc w
      unfold twoV at h
      rw [if_neg (fun x => hw ⟨x.2, x.1⟩)] at h
      exact h
theorem make_two (c e : Int) (hc : I64 c) (he : within e) : ∃ x y, tell c e = some (x, y) ∧ ∀ w, Calls Tryd.prog 24 #[.int .i64 c, .int .i64 e] w fun r w' => r = .returned (.tuple #[D2 x y, .int .i64 0]) ∧ Below w.heap.size w w' := by
  obtain ⟨x, y, h⟩ := tell_of_dec c e he.1 he.2 hc.1 hc.2
  refine ⟨x, y, h, fun w => ?_⟩
  have h1 := make_any c e hc ⟨by have := he.1; omega, by have := he.2; omega⟩ w
  rw [h] at h1
  exact h1
theorem sub_two (c e c2 e2 p q x y : Int) (hc2 : I64 c2) (hp : I64 p) (he : within e) (he2 : within e2) (hq : within q) (hV : V (-18) p q = V (-18) c e + V (-18) c2 e2) (ht : tell c e = some (x, y)) (w : World) :
    Calls Tryd.prog 11 #[D2 p q, D2 c2 e2] w fun r w' => r = .returned (.tuple #[D2 x y, .int .i64 0]) ∧ Below w.heap.size w w' := by
  have h := sub_any p q c2 e2 hp hc2 w
  rw [two_ok _ _ _ hq he2, told_sum _ _ (sh_dec p q hq.1 hq.2 hp.1 hp.2) (sh_turn (sh_dec c2 e2 he2.1 he2.2 hc2.1 hc2.2)), sc_turn, V_neg, VW_dec' p q hq,
    show V (-18) (sc (decW c2 e2)) (turnW (decW c2 e2)).e = V (-18) c2 e2 from VW_dec' c2 e2 he2, hV, show V (-18) c e + V (-18) c2 e2 + -V (-18) c2 e2 = V (-18) c e by omega, tell_V (-18) c e he.1, ht] at h
  exact h
theorem div_two (c e c2 e2 p q x y : Int) (hc : I64 c) (hc2 : I64 c2) (hp : I64 p) (he : within e) (he2 : within e2) (hq : within q) (h0 : c2 ≠ 0) (hV : V (-36) p q = V (-18) c e * V (-18) c2 e2) (ht : tell c e = some (x, y)) (w : World) :
    Calls Tryd.prog 18 #[D2 p q, D2 c2 e2] w fun r w' => r = .returned (.tuple #[D2 x y, .int .i64 0]) ∧ Below w.heap.size w w' := by
  have h := div_any p q c2 e2 hp hc2 h0 w
  have s1 := sh_dec p q hq.1 hq.2 hp.1 hp.2
  have s2 := sh_dec c2 e2 he2.1 he2.2 hc2.1 hc2.2
  have s3 := sh_dec c e he.1 he.2 hc.1 hc.2
  have l1 := s1.lo
  have l2 := s2.lo
  have l3 := s3.lo
  have hval : sc (decW p q) * 10 ^ ((decW p q).e + 36).toNat = sc (decW c e) * sc (decW c2 e2) * 10 ^ ((decW c e).e + (decW c2 e2).e + 36).toNat := by
    have e1 := sc_dec (-36) p q (by have := hq.1; omega)
    rw [hV, ← VW_dec' c e he, ← VW_dec' c2 e2 he2] at e1
    unfold V at e1
    rw [show ((decW p q).e - -36).toNat = ((decW p q).e + 36).toNat by omega] at e1
    rw [e1, show ((decW c e).e + (decW c2 e2).e + 36).toNat = ((decW c e).e - -18).toNat + ((decW c2 e2).e - -18).toNat by omega, Int.pow_add]
    rw [Int.mul_assoc, Int.mul_assoc, Int.mul_left_comm (10 ^ _)]
  have hq2 := told_quot (decW p q) (decW c2 e2) (decW c e) (by have := s2.big; omega) (fun hz => h0 ((dec_zero c2 e2).1 hz)) s3.big _ _ hval (by omega)
  rw [two_ok _ _ _ hq he2, hq2, ← tell_V (-18) _ _ l3, VW_dec' c e he, tell_V (-18) c e he.1, ht] at h
  exact h
end Go.Proofs.YtfbhonjndepjbaaDoor
/- Neg. -/
namespace Go.Proofs.YtfbhonjndepjbaaDoor
open Go.RowKit

set_option maxRecDepth 100000 in
set_option maxHeartbeats 600000 in
theorem neg_ok (c e : Int) (hc : I64 c) (he : within e) (w : World) : Calls Tryd.prog 13 #[dv c e] w fun r w' => r = .returned (decV (tell (-V (-18) c e) (-18))) ∧ Below w.heap.size w w' := by
  have hT := fun K w (hK : Row w K 23 #[.int .i64 c, .int .i64 e]) => taken1 c e K w hc he hK
  obtain ⟨b1, b2, b3, b4⟩ := dec_bounds hc he
  have hs := turned_W (decW c e)
  have hTD := told_true (turnW (decW c e)) b2 b4.2 b4.1
  have hv : tellW (turnW (decW c e)).neg (turnW (decW c e)).n (turnW (decW c e)).e = tell (-V (-18) c e) (-18) := by
    rw [← tell_sc, sc_turn, show (turnW (decW c e)).e = (decW c e).e from rfl, ← tell_V (-18) _ _ (sh_dec c e he.1 he.2 hc.1 hc.2).lo, V_neg, VW_dec' c e he]
  rw [hv] at hTD
  obtain ⟨p, q, v, hdv⟩ := decV_form (tell (-V (-18) c e) (-18))
  rw [hdv] at hTD ⊢
  clear hdv hv b1 b2 b3 b4
  simp only [Wd.val_eq] at hs hTD
  obtain ⟨y0, y1, y2, y3, hy⟩ : ∃ y0 y1 y2 y3, (decW c e).cells = #[y0, y1, y2, y3] := ⟨_, _, _, _, rfl⟩
  obtain ⟨z0, z1, z2, z3, hz⟩ : ∃ y0 y1 y2 y3, (turnW (decW c e)).cells = #[y0, y1, y2, y3] := ⟨_, _, _, _, rfl⟩
  simp only [hy, hz] at hT hs hTD
  clear hy hz hc he
  unfold dv
  go_enter Tryd.func13, Tryd.ntmps13
  go_wp2_with fail
  obtain ⟨_, _, hK, _⟩ := three_rows w _ _ _ _ 23 23 23 (Below.refl _ (((w.alloc (.cells #[.int .i64 c, .int .i64 e] 23)).alloc (.cells #[.int .i64 0, .int .i64 0] 23)).alloc (.cells #[.int .i64 c, .int .i64 e] 23)))
  refine (hT _ _ hK).mono ?_
  rintro _ W ⟨h1, G, hG, rfl, hR⟩
  obtain ⟨_, hZ, _, hB⟩ := three_rows w W _ _ _ _ _ _ h1
  obtain ⟨x0, x1, x2, x3⟩ := hR.four
  clear h1 hG hK hT
  go_wp2_with fail
  refine (hs _).mono ?_
  rintro _ W2 ⟨rfl, h2⟩
  have hZ := hZ.below h2 hZ.lt
  have hB := hB.trans (h2.mono hB.size)
  clear h2 hs x0 x1 x2 x3
  go_wp2_with fail
  refine (hTD _).mono ?_
  rintro _ W3 ⟨rfl, h3⟩
  have hZ := hZ.below h3 hZ.lt
  have hB := hB.trans (h3.mono hB.size)
  obtain ⟨d0, d1⟩ := hZ.duo
  have z := hZ.frozen
  clear h3 hTD
  go_wp2
  refine bodyPost_ret (ret_two rfl (g := w.heap.size + 1) rfl rfl (load23 (Row.set2 hZ _ _) rfl)) rfl ⟨rfl, ?_⟩
  repeat (refine below_set ?_ _ _ (by omega))
  exact hB
set_option maxRecDepth 100000 in
set_option maxHeartbeats 400000 in
theorem neg_bad (c e : Int) (he : ¬ within e) (w : World) : Calls Tryd.prog 13 #[dv c e] w fun r w' => r = .returned argV ∧ Below w.heap.size w w' := by
  unfold argV dv
  go_enter Tryd.func13, Tryd.ntmps13
  go_wp2_with fail
  obtain ⟨_, _, hK, _⟩ := three_rows w _ _ _ _ 23 23 23 (Below.refl _ (((w.alloc (.cells #[.int .i64 c, .int .i64 e] 23)).alloc (.cells #[.int .i64 0, .int .i64 0] 23)).alloc (.cells #[.int .i64 c, .int .i64 e] 23)))
  refine (taken1_bad c e _ _ he hK).mono ?_
  rintro _ w1 ⟨h1, rfl⟩
  obtain ⟨_, hZ, _, hB⟩ := three_rows w w1 _ _ _ _ _ _ h1
  obtain ⟨d0, d1⟩ := hZ.duo
  have z := hZ.frozen
  clear h1
  go_wp2
  refine bodyPost_ret (ret_two rfl (g := w.heap.size + 1) rfl rfl (load23 (Row.set2 hZ _ _) rfl)) rfl ⟨rfl, ?_⟩
  repeat (refine below_set ?_ _ _ (by omega))
  exact hB
end Go.Proofs.YtfbhonjndepjbaaDoor
