import Derived.Test.YtinbilbgipfemaaDoorRows
import Derived.Test.YtinbilbgipfemaaDoorBase
import Derived.WalkKit
import Derived.WalkSpells
import Derived.WalkLawsBesides
/- Walks of the two Reverse functions: each answers the lowest n bits of v the other way round (n below 0 as 0, above 32 as 32). -/
namespace Go.Proofs.YtinbilbgipfemaaDoor
open Go.RowKit

def revN (v : Nat) : Nat → Nat
  | 0 => 0
  | k + 1 => 2 * revN v k + (v / 2 ^ k) % 2
theorem revN_lt (v k : Nat) : revN v k < 2 ^ k := by
  induction k with
  | zero => simp [revN]
  | succ k ih => simp only [revN, Nat.pow_succ]; omega
theorem or_low (x y : Nat) (hy : y < 2) : 2 * x ||| y = 2 * x + y := by
  have h := Nat.two_pow_add_eq_or_of_lt (i := 1) (b := y) (by simpa using hy) x
  simpa using h.symm
theorem rev_step (v k : Nat) (hv : v < 4294967296) (hk : k < 32) :
    bits .or .u32 ((revN v k : Int) * 2 % 4294967296) (bits .and .u32 ((v : Int) / 2 ^ k) 1) = (revN v (k + 1) : Int) := by
  have h := revN_lt v k
  have h2 : 2 ^ k ≤ 2 ^ 31 := Nat.pow_le_pow_right (by omega) (by omega)
  have e : (v : Int) / 2 ^ k = ((v / 2 ^ k : Nat) : Int) := by simp
  have hd : v / 2 ^ k ≤ v := Nat.div_le_self _ _
  have hm : v / 2 ^ k % 2 < 2 := Nat.mod_lt _ (by omega)
  have e3 : revN v (k + 1) = 2 * revN v k + v / 2 ^ k % 2 := rfl
  rw [e, e3]
  generalize v / 2 ^ k = q at hd hm
  generalize revN v k = r at h
  clear e e3
  have hr : r < 2147483648 := by omega
  rw [u32_and_one _ (by omega) (by omega), u32_or _ _ (by omega) (by omega) (by omega) (by omega)]
  have e1 : ((r : Int) * 2 % 4294967296).toNat = 2 * r := by omega
  have e2 : ((q : Int) % 2).toNat = q % 2 := by omega
  rw [e1, e2, or_low _ _ hm]
theorem ret_rev {v a b : Nat} (h : a = b) : Ending.returned (.int .u32 (revN v a)) = .returned (.int .u32 (revN v b)) := by rw [h]
set_option maxHeartbeats 400000 in
theorem rev_any (v : Nat) (n : Int) (hv : v < 4294967296) (h1 : -9223372036854775808 ≤ n) (h2 : n ≤ 9223372036854775807) (w : World) :
    Calls Tryd.prog 81 #[.int .u32 v, .int .i64 n] w fun e w' => e = .returned (.int .u32 (revN v (min n.toNat 32))) ∧ w' = w := by
  go_enter Tryd.func81, Tryd.ntmps81
  go_wp2
  · go_loop [5, 9] (fun s i => ∃ k : Nat, k ≤ 32 ∧ i = .int .i64 k ∧ s = .int .u32 (revN v k)) (fun _ i => 32 - (intOf i).toNat)
    case atStart => exact ⟨0, by omega, rfl, rfl⟩
    case round =>
      obtain ⟨k, hk, rfl, rfl⟩ := hrel
      by_cases hlt : k < 32
      · go_wp2
        go_round
        case rel => exact ⟨k + 1, by omega, by go_num, by rw [rev_step v k hv hlt]⟩
        case measure => simp [intOf]; omega
      · go_wp2
        go_ret
        exact ⟨ret_rev (by omega), rfl⟩
  · go_loop [5, 9] (fun s i => ∃ k : Nat, k ≤ n.toNat ∧ i = .int .i64 k ∧ s = .int .u32 (revN v k)) (fun _ i => n.toNat - (intOf i).toNat)
    case atStart => exact ⟨0, by omega, rfl, rfl⟩
    case round =>
      obtain ⟨k, hk, rfl, rfl⟩ := hrel
      by_cases hlt : (k : Int) < n
      · go_wp2
        go_round
        case rel => exact ⟨k + 1, by omega, by go_num, by rw [rev_step v k hv (by omega)]⟩
        case measure => simp [intOf]; omega
      · go_wp2
        go_ret
        exact ⟨ret_rev (by omega), rfl⟩

end Go.Proofs.YtinbilbgipfemaaDoor
