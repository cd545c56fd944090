/- Cost: the program's and the document's are one function. -/
import Derived.Test.YtiakploggmmklaaFul
namespace Go.Proofs.Ytiakploggmmklaa
open Go.RowKit

def big (v m : Int) : Bool := decide (m < v) || decide (v < -m)
def stepC (s f n : Int) : Option Int := if f = 0 ∨ n = 0 then some s else if big f 1099511627776 || big n 1048576 then none else if big (s + f * n) 2305843009213693952 then none else some (s + f * n)
def costN (fs ls : List Int) : Nat → Option Int
  | 0 => some 0
  | k + 1 => (costN fs ls k).bind fun s => stepC s (fs[k]?.getD 0) (ls[k]?.getD 0)
def costR (fs ls : List Int) : Int := (costN fs ls (min fs.length ls.length)).getD 4611686018427387904
theorem costN_none (fs ls : List Int) (k N : Nat) (h : k ≤ N) (e : costN fs ls k = none) : costN fs ls N = none := by
  induction h with
  | refl => exact e
  | step _ ih => rw [costN, ih]; rfl
theorem stepC_bd (s f n t : Int) (h : stepC s f n = some t) (hs : -2305843009213693952 ≤ s ∧ s ≤ 2305843009213693952) : -2305843009213693952 ≤ t ∧ t ≤ 2305843009213693952 := by
  unfold stepC at h
  split at h
  · obtain rfl := Option.some.inj h; exact hs
  · split at h
    · cases h
    · split at h
      · cases h
      · rename_i h3
        obtain rfl := Option.some.inj h
        simp [big] at h3
        omega
theorem mul_bd (f n : Int) (hf : big f 1099511627776 = false) (hn : big n 1048576 = false) : -1152921504606846976 ≤ f * n ∧ f * n ≤ 1152921504606846976 := by
  simp [big] at hf hn
  have h1 : f.natAbs ≤ 1099511627776 := by omega
  have h2 : n.natAbs ≤ 1048576 := by omega
  have h3 : (f * n).natAbs ≤ 1099511627776 * 1048576 := by rw [Int.natAbs_mul]; exact Nat.mul_le_mul h1 h2
  omega

end Go.Proofs.Ytiakploggmmklaa
