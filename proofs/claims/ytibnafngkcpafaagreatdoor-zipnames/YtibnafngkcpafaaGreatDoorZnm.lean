/- Numbers of whole bytes behind whole bytes (pure). -/
import Derived.Test.YtibnafngkcpafaaGreatDoorPut
namespace Go.Proofs.YtibnafngkcpafaaGreatDoor
open Go.RowKit

/-- The lowest k bytes of v, the lowest first. -/
def le (v : Nat) : Nat → List Int
  | 0 => []
  | k + 1 => ((v % 256 : Nat) : Int) :: le (v / 256) k
theorem le_length (v k : Nat) : (le v k).length = k := by
  induction k generalizing v with
  | zero => rfl
  | succ k ih => simp [le, ih]
theorem pushN_add (ys : List Int) (sz v a b : Nat) : pushN ys sz v (a + b) = pushN (pushN ys sz v a) (sz + a) (v / 2 ^ a) b := by
  induction b with
  | zero => rfl
  | succ b ih =>
    show pushBit (pushN ys sz v (a + b)) (sz + (a + b)) _ = pushBit (pushN (pushN ys sz v a) (sz + a) (v / 2 ^ a) b) (sz + a + b) _
    rw [ih, Nat.add_assoc, Nat.div_div_eq_div_mul, ← Nat.pow_add]
    rfl
theorem pushBit_first (ys : List Int) (b : Int) : pushBit ys (8 * ys.length) b = ys ++ [orB 0 b 0] := by
  unfold pushBit
  rw [if_pos (by omega), show 8 * ys.length % 8 = 0 by omega]
theorem pushBit_next (ys : List Int) (y b : Int) (p : Nat) (h0 : 0 < p) (h8 : p < 8) : pushBit (ys ++ [y]) (8 * ys.length + p) b = ys ++ [orB y b p] := by
  unfold pushBit
  rw [if_neg (by omega), show (8 * ys.length + p) % 8 = p by omega]
  simp
/-- A byte of the lowest eight bits of m. -/
def byteOf (m : Nat) : Int :=
  orB (orB (orB (orB (orB (orB (orB (orB 0 ((m / 2 ^ 0 % 2 : Nat) : Int) 0) ((m / 2 ^ 1 % 2 : Nat) : Int) 1) ((m / 2 ^ 2 % 2 : Nat) : Int) 2) ((m / 2 ^ 3 % 2 : Nat) : Int) 3) ((m / 2 ^ 4 % 2 : Nat) : Int) 4) ((m / 2 ^ 5 % 2 : Nat) : Int) 5) ((m / 2 ^ 6 % 2 : Nat) : Int) 6) ((m / 2 ^ 7 % 2 : Nat) : Int) 7
theorem byteOf_all : ∀ m : Fin 256, byteOf m.1 = (m.1 : Int) := by decide +kernel
theorem byteOf_val (v : Nat) : byteOf v = ((v % 256 : Nat) : Int) := by
  rw [← byteOf_all ⟨v % 256, Nat.mod_lt _ (by omega)⟩]
  unfold byteOf
  simp only
  have h : ∀ k, k < 8 → v / 2 ^ k % 2 = v % 256 / 2 ^ k % 2 := by
    intro k hk
    rcases (by omega : k = 0 ∨ k = 1 ∨ k = 2 ∨ k = 3 ∨ k = 4 ∨ k = 5 ∨ k = 6 ∨ k = 7) with rfl | rfl | rfl | rfl | rfl | rfl | rfl | rfl <;> omega
  rw [h 0 (by omega), h 1 (by omega), h 2 (by omega), h 3 (by omega), h 4 (by omega), h 5 (by omega), h 6 (by omega), h 7 (by omega)]
theorem pushN_eight (ys : List Int) (v : Nat) : pushN ys (8 * ys.length) v 8 = ys ++ [((v % 256 : Nat) : Int)] := by
  rw [← byteOf_val]
  unfold byteOf
  simp only [pushN]
  rw [Nat.add_zero, pushBit_first, pushBit_next _ _ _ 1 (by omega) (by omega), pushBit_next _ _ _ 2 (by omega) (by omega), pushBit_next _ _ _ 3 (by omega) (by omega), pushBit_next _ _ _ 4 (by omega) (by omega), pushBit_next _ _ _ 5 (by omega) (by omega), pushBit_next _ _ _ 6 (by omega) (by omega), pushBit_next _ _ _ 7 (by omega) (by omega)]
theorem pushN_le (ys : List Int) (v k : Nat) : pushN ys (8 * ys.length) v (8 * k) = ys ++ le v k := by
  induction k generalizing ys v with
  | zero => simp [pushN, le]
  | succ k ih =>
    rw [show 8 * (k + 1) = 8 + 8 * k by omega, pushN_add, pushN_eight, show 8 * ys.length + 8 = 8 * (ys ++ [((v % 256 : Nat) : Int)]).length by simp; omega, ih, show (2 : Nat) ^ 8 = 256 by rfl]
    simp [le]
theorem le_bytes (v k : Nat) : AreBytes (le v k) := by
  induction k generalizing v with
  | zero => intro j; simp [le]
  | succ k ih =>
    intro j
    cases j with
    | zero => simp [le]; omega
    | succ j => simpa [le] using ih (v / 256) j
end Go.Proofs.YtibnafngkcpafaaGreatDoor
