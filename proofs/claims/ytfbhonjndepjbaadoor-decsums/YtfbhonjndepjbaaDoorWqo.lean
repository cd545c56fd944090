import Derived.Test.YtfbhonjndepjbaaDoorWbsM
/- divisor, quotient. -/
namespace Go.Proofs.YtfbhonjndepjbaaDoor
open Go.RowKit

set_option maxRecDepth 100000 in
set_option maxHeartbeats 400000 in
theorem divisor_any (a b : Nat) (ha : a < 18446744073709551616) (hb : b < 18446744073709551616) (w : World) : Calls Tryd.prog 85 #[.int .u64 a, .int .u64 b] w fun r w' => r = .returned (.int .u64 (Nat.gcd a b : Int)) ∧ w' = w := by
  go_enter Tryd.func85, Tryd.ntmps85
  go_wp2
  go_loop [0, 1] (fun x y => ∃ p q : Nat, x = .int .u64 p ∧ y = .int .u64 q ∧ p < 18446744073709551616 ∧ q < 18446744073709551616 ∧ Hid (Nat.gcd p q = Nat.gcd a b)) (fun x _ => (intOf x).toNat)
  case atStart => exact ⟨a, b, rfl, rfl, ha, hb, rfl⟩
  case round =>
    obtain ⟨p, q, rfl, rfl, hp, hq, hg⟩ := hrel
    by_cases h0 : p = 0
    · subst h0
      go_wp2
      go_ret
      exact ⟨by rw [← hg.out, Nat.gcd_zero_left]; rfl, rfl⟩
    · have h1 : ((p : Int) != 0) = true := by simp; omega
      have h2 : ((p : Int) == 0) = false := by simp; omega
      obtain ⟨m, hm⟩ : ∃ m, q % p = m := ⟨_, rfl⟩
      have hlt : m < p := by rw [← hm]; exact Nat.mod_lt _ (by omega)
      have f1 : IntKind.u64.wrap ((q : Int).tmod (p : Int)) = (m : Int) := by
        rw [u64_wrap, Int.tmod_eq_emod_of_nonneg (by omega), ← hm, ← Int.natCast_emod]
        omega
      have HM : Hid (q % p = m) := hm
      clear hm h0
      go_wp2
      try rw [f1]
      go_round
      case rel => exact ⟨m, p, by first | rfl | (rw [← HM.out]; simp), rfl, by omega, hp, by show _ = _; rw [← HM.out, ← Nat.gcd_rec]; exact hg.out⟩
      case measure =>
        have := HM.out
        first
        | (simp only [intOf, Int.toNat_natCast]; omega)
        | (rw [← Int.natCast_emod, this]; simp only [intOf, Int.toNat_natCast]; omega)
def quotL (by' n : Nat) (e : Int) : Option (Nat × Int) :=
  if by' ≤ 1 then some (n, e)
  else if by' % 10 = 0 then quotL (by' / 10) n (e - 1)
  else if by' % 2 = 0 then (if n * 5 < M128 then quotL (by' / 2) (n * 5) (e - 1) else none)
  else if by' % 5 = 0 then (if n * 2 < M128 then quotL (by' / 5) (n * 2) (e - 1) else none)
  else none
  termination_by by'
  decreasing_by all_goals omega
def quotW (a b : Wd) : Option Wd := (quotL (b.n / Nat.gcd a.n b.n) (a.n / Nat.gcd a.n b.n) (a.e - b.e)).map fun p => ⟨a.neg != b.neg, p.1, p.2⟩
end Go.Proofs.YtfbhonjndepjbaaDoor
