import Derived.Test.YtnhflnpjepiceaaGreatDoorWpw
/- dec: Pow of any two Decs. -/
namespace Go.Proofs.YtnhflnpjepiceaaGreatDoor
open Go.RowKit

theorem quot_e : ∀ (k by' n : Nat) (e : Int) (p : Nat × Int), by' < 2 ^ k → quotL by' n e = some p → p.2 ≤ e ∧ e - (k : Int) ≤ p.2
  | 0, by', n, e, p, hb, h => by
    rw [quotL.eq_def, if_pos (by omega)] at h
    cases h
    simp only; omega
  | k + 1, by', n, e, p, hb, h => by
    have hp : 2 ^ (k + 1) = 2 * 2 ^ k := by rw [Nat.pow_succ, Nat.mul_comm]
    rw [quotL.eq_def] at h
    split at h
    · cases h
      simp only; omega
    · split at h
      · have := quot_e k _ _ _ _ (by omega) h
        omega
      · split at h
        · split at h
          · have := quot_e k _ _ _ _ (by omega) h
            omega
          · cases h
        · split at h
          · split at h
            · have := quot_e k _ _ _ _ (by omega) h
              omega
            · cases h
          · cases h
theorem val_small (y : Wd) (h : y.n < 18446744073709551616) : y.val = .agg #[.bool y.neg, .int .u64 0, .int .u64 (y.n : Int), .int .i64 y.e] := by
  rw [Wd.val_eq, cells_small y h]
theorem pow_any (c e c2 e2 : Int) (hc : I64 c) (hc2 : I64 c2) (w : World) :
    Calls Tryz.prog 68 #[dv c e, dv c2 e2] w fun r w' => r = .returned (powV c e c2 e2) ∧ Below w.heap.size w w' := by
  unfold powV
  by_cases he : within e
  · by_cases he2 : within e2
    · rw [if_pos ⟨he, he2⟩]
      have hS := sh_dec c e he.1 he.2 hc.1 hc.2
      obtain ⟨a1, a2, a3, a4⟩ := dec_bounds hc he
      have hlo := hS.lo
      have hhi := hS.hi
      by_cases hI : 0 ≤ (decW c2 e2).e ∧ (decW c2 e2).n * 10 ^ (decW c2 e2).e.toNat ≤ 9007199254740992
      · rw [if_pos hI]
        have HI : ∀ V, Hid (Calls Tryz.prog 113 #[.agg #[.int .i64 c2, .int .i64 e2]] V fun r w' => r = .returned (.tuple #[.int .i64 (sc (decW c2 e2) * 10 ^ (decW c2 e2).e.toNat), .bool true]) ∧ Below V.heap.size V w') := fun V => by
          have := int_ok c2 e2 hc2 he2 hI.1 V
          unfold intW at this
          rw [if_pos hI] at this
          exact this
        generalize sc (decW c2 e2) * 10 ^ (decW c2 e2).e.toNat = n at *
        unfold powA
        by_cases h1 : n < -64
        · rw [if_pos (.inl h1)]
          exact pow_low c e c2 e2 hc he hc2 he2 _ rfl a1 a3 n HI h1 w
        · by_cases h2 : 64 < n
          · rw [if_pos (.inr h2)]
            exact pow_high c e c2 e2 hc he hc2 he2 _ rfl a1 a3 n HI h2 w
          · rw [if_neg (by omega)]
            by_cases h3 : n < 0
            · rw [if_pos h3]
              by_cases h4 : (decW c e).n = 0
              · rw [if_pos h4]
                exact pow_zero c e c2 e2 hc he hc2 he2 _ rfl a1 a3 n HI (by omega) h3 h4 w
              · rw [if_neg h4]
                refine pow_neg c e c2 e2 hc he hc2 he2 _ rfl a1 a3 n _ (quotW oneW (decW c e)) HI h3 (by omega) h4 (fun V => ?_) ⟨fun h => by rw [h]; rfl, fun x hx V => ?_⟩ w
                · have := quotient_any oneW (decW c e) (by decide) a1 h4 (by decide) a3 V
                  rw [val_small _ a1, val_small oneW (by decide)] at this
                  exact this
                · rw [hx]
                  have hxe : -1000 ≤ x.e ∧ x.e ≤ 1000 := by
                    unfold quotW at hx
                    obtain ⟨p, hp, rfl⟩ := Option.map_eq_some_iff.1 hx
                    have hq := quot_e 64 _ _ _ _ (Nat.lt_of_le_of_lt (Nat.div_le_self _ _) a1) hp
                    have h0 : oneW.e = 0 := rfl
                    simp only
                    omega
                  show Calls _ _ _ _ _
                  rw [show ((some x).bind fun f => if f.n < 18446744073709551616 then powW f n.natAbs else none) = if x.n < 18446744073709551616 then powW x n.natAbs else none from rfl]
                  by_cases h5 : x.n < 18446744073709551616
                  · rw [if_pos h5, val_small x h5, show -n = ((n.natAbs : Nat) : Int) by omega]
                    exact power_ok x.neg x.n x.e h5 hxe n.natAbs (by omega) V
                  · rw [if_neg h5]
                    exact power_big x.neg (x.n / 18446744073709551616) (x.n % 18446744073709551616) x.e (by omega) (-n) (by omega) V
            · rw [if_neg h3]
              refine pow_pos c e c2 e2 hc he hc2 he2 _ rfl a1 a3 n _ HI (by omega) (by omega) (fun V => ?_) w
              have := power_ok (decW c e).neg (decW c e).n (decW c e).e a1 a3 n.toNat (by omega) V
              rw [show ((n.toNat : Nat) : Int) = n by omega] at this
              exact this
      · rw [if_neg hI]
        refine pow_nowhole c e c2 e2 hc he hc2 he2 _ rfl a1 a3 (fun V => ?_) w
        by_cases h0 : 0 ≤ (decW c2 e2).e
        · have := int_ok c2 e2 hc2 he2 h0 V
          unfold intW at this
          rw [if_neg hI] at this
          exact this
        · exact int_neg c2 e2 hc2 he2 (by omega) V
    · rw [if_neg (fun h => he2 h.2)]
      exact pow_bad2 c e c2 e2 hc he he2 w
  · rw [if_neg (fun h => he h.1)]
    exact pow_bad1 c e c2 e2 he w
end Go.Proofs.YtnhflnpjepiceaaGreatDoor
