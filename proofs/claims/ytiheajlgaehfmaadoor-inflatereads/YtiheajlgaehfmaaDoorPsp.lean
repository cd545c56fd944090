import Derived.Test.YtiheajlgaehfmaaDoorRrtM
/- A stored block's head, told by bits: two numbers of 16 bits that are the other way round. -/
namespace Go.Proofs.YtiheajlgaehfmaaDoor
open Go.RowKit

theorem i64_xor_nat (a b : Nat) (ha : a < 4294967296) (hb : b < 4294967296) : bits .xor .i64 (a : Int) (b : Int) = ((a ^^^ b : Nat) : Int) := by
  show IntKind.i64.wrap ((BitVec.ofInt 64 a ^^^ BitVec.ofInt 64 b).toNat : Int) = _
  have h : a ^^^ b < 2 ^ 32 := Nat.xor_lt_two_pow (by omega) (by omega)
  rw [BitVec.toNat_xor, BitVec.toNat_ofInt, BitVec.toNat_ofInt, show ((a : Int) % ((2 ^ 64 : Nat) : Int)).toNat = a by omega, show ((b : Int) % ((2 ^ 64 : Nat) : Int)).toNat = b by omega]
  simp [IntKind.wrap, IntKind.bits, IntKind.signed]
  omega
theorem add_xor_and : ∀ n m : Nat, n + m = (n ^^^ m) + 2 * (n &&& m) := by
  intro n
  induction n using Nat.strongRecOn with
  | _ n ih =>
    intro m
    by_cases h0 : n = 0
    · subst h0; simp
    · have h := ih (n / 2) (by omega) (m / 2)
      rw [← Nat.xor_div_two, ← Nat.and_div_two] at h
      have hx := Nat.xor_mod_two_eq_one (a := n) (b := m)
      have ha := Nat.and_mod_two_eq_one (a := n) (b := m)
      omega
theorem xor_test (n m : Nat) (hn : n < 65536) : n ^^^ m = 65535 ↔ (n + m = 65535 ∧ n &&& m = 0) := by
  have h := add_xor_and n m
  constructor
  · intro e
    have h0 : n &&& m = 0 := by
      have hd : (n &&& m) &&& (n ^^^ m) = 0 := by
        apply Nat.eq_of_testBit_eq
        intro j
        simp only [Nat.testBit_and, Nat.testBit_xor, Nat.zero_testBit]
        cases n.testBit j <;> cases m.testBit j <;> rfl
      rw [e, show 65535 = 2 ^ 16 - 1 from rfl, Nat.and_two_pow_sub_one_eq_mod, Nat.mod_eq_of_lt (Nat.lt_of_le_of_lt Nat.and_le_left hn)] at hd
      exact hd
    omega
  · rintro ⟨e, h0⟩
    omega
theorem AreBytes.nat {bs : List Int} (h : AreBytes bs) (j : Nat) : (bs[j]?.getD 0).toNat < 256 := by
  have := h j
  omega
/-- Sixteen bits at a byte's beginning are two bytes. -/
theorem word16 {bs : List Int} (h : AreBytes bs) (q : Nat) : orFold (upto (bitF bs (8 * q)) 16) = (bs[q]?.getD 0).toNat ||| (bs[q + 1]?.getD 0).toNat * 256 := by
  apply Nat.eq_of_testBit_eq
  intro j
  have h0 := h.nat q
  have h1 := h.nat (q + 1)
  rw [orFold_bit bs h _ 16 (by omega) j, Nat.testBit_or, show (bs[q + 1]?.getD 0).toNat * 256 = 2 ^ 8 * (bs[q + 1]?.getD 0).toNat by omega, Nat.testBit_two_pow_mul, tb]
  by_cases h8 : j < 8
  · rw [show (8 * q + j) / 8 = q by omega, show (8 * q + j) % 8 = j by omega]
    simp [show j < 16 by omega, show ¬ 8 ≤ j by omega]
  · have hz : (bs[q]?.getD 0).toNat.testBit j = false := Nat.testBit_lt_two_pow (Nat.lt_of_lt_of_le h0 (Nat.pow_le_pow_right (n := 2) (i := 8) (by omega) (by omega)))
    by_cases h16 : j < 16
    · rw [show (8 * q + j) / 8 = q + 1 by omega, show (8 * q + j) % 8 = j - 8 by omega, hz]
      simp [h16, show 8 ≤ j by omega]
    · have hz1 : (bs[q + 1]?.getD 0).toNat.testBit (j - 8) = false := Nat.testBit_lt_two_pow (Nat.lt_of_lt_of_le h1 (Nat.pow_le_pow_right (n := 2) (i := 8) (by omega) (by omega)))
      rw [hz, hz1]
      simp [h16]
theorem word_lt {x y : Nat} (hx : x < 256) (hy : y < 256) : x ||| y * 256 < 65536 := Nat.or_lt_two_pow (n := 16) (by omega) (by omega)
/-- A stored block as the program reads it. -/
def plainS (bs : List Int) (most pos : Nat) (out : List Int) : Except Int (Nat × List Int) :=
  match takeS bs ((pos + 7) / 8 * 8) 16 with
  | .error e => .error e
  | .ok (n, p1) => match takeS bs p1 16 with
    | .error e => .error e
    | .ok (m, p2) =>
      if n ^^^ m ≠ 65535 then .error 12
      else if most < out.length + n then .error 3
      else match bytesS bs p2 n with
        | .error e => .error e
        | .ok (b, p3) => .ok (p3, out ++ b)
theorem plain_stored {bs : List Int} (h : AreBytes bs) (most pos : Nat) (out : List Int) : plainS bs most pos out = storedS bs most pos out := by
  unfold plainS storedS bytesS takeS
  generalize hq : (pos + 7) / 8 = q
  by_cases h2 : q + 4 ≤ bs.length
  · rw [if_pos (by omega), if_pos h2]
    simp only [bind, Except.bind]
    rw [if_pos (by omega)]
    simp only
    have e1 := word16 h q
    have e2 := word16 h (q + 2)
    rw [show q * 8 = 8 * q by omega, show 8 * q + 16 = 8 * (q + 2) by omega, e1, e2]
    have g : ∀ j, j < 4 → ((bs.drop q).take 4)[j]?.getD 0 = bs[q + j]?.getD 0 := fun j hj => by rw [List.getElem?_take_of_lt hj, List.getElem?_drop]
    rw [g 0 (by omega), g 1 (by omega), g 2 (by omega), g 3 (by omega)]
    simp only [Nat.add_zero]
    have b0 := h.nat q
    have b1 := h.nat (q + 1)
    rw [show q + 2 + 1 = q + 3 by omega]
    generalize hn : (bs[q]?.getD 0).toNat ||| (bs[q + 1]?.getD 0).toNat * 256 = n
    generalize hm : (bs[q + 2]?.getD 0).toNat ||| (bs[q + 3]?.getD 0).toNat * 256 = m
    have hn' : n < 65536 := hn ▸ word_lt b0 b1
    have hx := xor_test n m hn'
    by_cases hc : n ^^^ m = 65535
    · obtain ⟨c1, c2⟩ := hx.1 hc
      rw [if_neg (show ¬ (n ^^^ m ≠ 65535) from fun h => h hc), if_neg (show ¬ (n + m ≠ 65535 ∨ n &&& m ≠ 0) by omega)]
      split
      · rfl
      · rw [show (8 * (q + 2) + 16 + 7) / 8 = q + 4 by omega, show (8 * q + 8 * 4 + 7) / 8 = q + 4 by omega]
        by_cases h9 : q + 4 + n ≤ bs.length
        · rw [if_pos h9]
        · rw [if_neg h9]
    · rw [if_pos (show n ^^^ m ≠ 65535 from hc), if_pos (show n + m ≠ 65535 ∨ n &&& m ≠ 0 by
        by_cases h1 : n + m = 65535
        · exact .inr (fun h2 => hc (hx.2 ⟨h1, h2⟩))
        · exact .inl h1)]
  · rw [if_neg h2]
    simp only [bind, Except.bind]
    by_cases h3 : q + 2 ≤ bs.length
    · rw [if_pos (by omega)]
      simp only
      rw [if_neg (by omega)]
    · rw [if_neg (by omega)]
end Go.Proofs.YtiheajlgaehfmaaDoor
