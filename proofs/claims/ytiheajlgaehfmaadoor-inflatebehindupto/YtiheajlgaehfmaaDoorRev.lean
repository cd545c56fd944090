/- Walks of the two Reverse functions: each answers the lowest n bits of v the other way round (n below 0 as 0, above 32 as 32). -/
import Derived.Test.YtiheajlgaehfmaaDoorRows
import Derived.Test.YtiheajlgaehfmaaDoorBase
import Derived.WalkKit
import Derived.WalkSpells
import Derived.WalkLawsBesides
namespace Go.Proofs.YtiheajlgaehfmaaDoor
open Go.RowKit

def revN (v : Nat) : Nat → Nat
  | 0 => 0
  | k + 1 => 2 * revN v k + (v / 2 ^ k) % 2
theorem revN_lt (v k : Nat) : revN v k < 2 ^ k := by
  induction k with
  | zero => simp [revN]
  | succ k ih => simp only [revN, Nat.pow_succ]; omega
theorem revN_lt32 (v k : Nat) (hk : k ≤ 32) : revN v k < 4294967296 := by
  have h := revN_lt v k
  have h2 : 2 ^ k ≤ 2 ^ 32 := Nat.pow_le_pow_right (by omega) hk
  omega
theorem or_low (x y : Nat) (hy : y < 2) : 2 * x ||| y = 2 * x + y := by
  have h := Nat.two_pow_add_eq_or_of_lt (i := 1) (b := y) (by simpa using hy) x
  simpa using h.symm
theorem rev_step (v k : Nat) (hv : v < 4294967296) (hk : k < 32) :
    bits .or .u32 ((revN v k : Int) * 2 % 4294967296) (bits .and .u32 ((v : Int) / 2 ^ k) 1) = (revN v (k + 1) : Int) := by
  have h := revN_lt v k
  have h2 : 2 ^ k ≤ 2 ^ 31 := Nat.pow_le_pow_right (by omega) (by omega)
  have e : (v : Int) / 2 ^ k = ((v / 2 ^ k : Nat) : Int) := by simp
  have hd : v / 2 ^ k ≤ v := Nat.div_le_self _ _
  have hm : v / 2 ^ k % 2 < 2 := Nat.mod_lt _ (by omega)
  have e3 : revN v (k + 1) = 2 * revN v k + v / 2 ^ k % 2 := rfl
  rw [e, e3]
  generalize v / 2 ^ k = q at hd hm
  generalize revN v k = r at h
  clear e e3
  have hr : r < 2147483648 := by omega
  rw [u32_and_one _ (by omega) (by omega), u32_or _ _ (by omega) (by omega) (by omega) (by omega)]
  have e1 : ((r : Int) * 2 % 4294967296).toNat = 2 * r := by omega
  have e2 : ((q : Int) % 2).toNat = q % 2 := by omega
  rw [e1, e2, or_low _ _ hm]
theorem ret_rev {v a b : Nat} (h : a = b) : Ending.returned (.int .u32 (revN v a)) = .returned (.int .u32 (revN v b)) := by rw [h]
theorem ret_int {k : IntKind} {a b : Int} (h : a = b) : Ending.returned (.int k a) = .returned (.int k b) := by rw [h]

end Go.Proofs.YtiheajlgaehfmaaDoor
