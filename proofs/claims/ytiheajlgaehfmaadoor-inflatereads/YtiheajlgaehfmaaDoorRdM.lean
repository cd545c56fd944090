import Derived.Test.YtiheajlgaehfmaaDoorMem
import Derived.Test.YtiheajlgaehfmaaDoorApp
import Derived.OneCell
import Derived.RegionTactic
import Derived.ChangeAlike
import Derived.BigRegion
import Derived.Test.YtiheajlgaehfmaaDoorRows
import Derived.Test.YtiheajlgaehfmaaDoorBase
import Derived.WalkKit
import Derived.WalkSpells
import Derived.WalkLawsBesides
import Derived.Test.YtiheajlgaehfmaaDoorTake
/- Take where it refuses: a wrong number of bits, or too few left. -/
namespace Go.Proofs.YtiheajlgaehfmaaDoor
open Go.RowKit

set_option maxHeartbeats 400000 in
theorem take_arg (R : Nat) (n : Int) (w : World) (hn : n < 0 ∨ 32 < n) : Calls Tryd.prog 46 #[.pointer (some ⟨R, 0, none⟩), .int .i64 n] w fun e w' => e = .returned (.tuple #[.int .u32 0, .int .i64 1]) ∧ w' = w := by
  rcases hn with h | h
  · go_enter Tryd.func46, Tryd.ntmps46
    go_wp2
    go_ret2
    exact ⟨rfl, rfl⟩
  · have h' : ¬ n < 0 := by omega
    go_enter Tryd.func46, Tryd.ntmps46
    go_wp2
    go_ret2
    exact ⟨rfl, rfl⟩

set_option maxHeartbeats 400000 in
theorem take_end (R : Nat) (g : Option Addr) (len c pos : Nat) (n : Int) (w : World) (hl : len ≤ 140737488355328) (hp : pos ≤ 8 * len) (h2 : Two w R 63 (.slice g len c) (.int .i64 pos)) (h0 : 0 ≤ n) (h32 : n ≤ 32) (hn : (8 * len - pos : Int) < n) :
    Calls Tryd.prog 46 #[.pointer (some ⟨R, 0, none⟩), .int .i64 n] w fun e w' => e = .returned (.tuple #[.int .u32 0, .int .i64 10]) ∧ ∃ q, w' = w.drewN q := by
  have t1 : ¬ n < 0 := by omega
  have t2 : ¬ 32 < n := by omega
  go_enter Tryd.func46, Tryd.ntmps46
  go_wp2_with (go_at_call 22; refine (left_any R g len c pos _ hl hp h2).mono ?_; rintro e w' ⟨rfl, q, rfl⟩)
  go_ret2
  exact ⟨rfl, _, rfl⟩
end Go.Proofs.YtiheajlgaehfmaaDoor
/- The writer: putBit and Put write bits behind those that were written. -/
namespace Go.Proofs.YtiheajlgaehfmaaDoor
open Go.RowKit

theorem owns_set {w : World} {base : Nat} {e : TypeId} {g n cap : Nat} {xs : List Value} (h : w.ownsRow base e 1 (.slice (some ⟨g, 0, none⟩) n cap) n xs) (j : Nat) (u : Value) :
    (w.setCell ⟨g, j, none⟩ u).ownsRow base e 1 (.slice (some ⟨g, 0, none⟩) n cap) n (xs.set j u) := by
  refine ⟨by simpa using h.1, ?_⟩
  rcases h.2 with ⟨h0, _⟩ | ⟨g', cap', cur, hv, hb, hgb, h3, h4, h5, h6⟩
  · simp at h0
  · simp only [Value.slice.injEq, Option.some.injEq, true_and] at hv
    obtain ⟨hg, rfl⟩ := hv
    simp at hg
    subst hg
    obtain ⟨hlt, hk⟩ := Array.getElem?_eq_some_iff.1 hgb
    refine .inr ⟨g, cap, cur.setIfInBounds j u, rfl, hb, ?_, h3, h4, by simpa using h5, ?_⟩
    · show (w.heap.modify g _)[g]? = _
      rw [Array.getElem?_eq_getElem (by rw [Array.size_modify]; exact hlt), Array.getElem_modify_self, hk]
      rfl
    · rw [Array.toList_setIfInBounds, List.take_set, h6]

/-- A byte with one bit set in at place p. -/
def orB (y b : Int) (p : Nat) : Int := bits .or .u8 y (b * 2 ^ p % 256)

/-- The bytes behind one bit more. -/
def pushBit (ys : List Int) (sz : Nat) (b : Int) : List Int :=
  if sz % 8 = 0 then ys ++ [orB 0 b (sz % 8)] else ys.set (ys.length - 1) (orB (ys[ys.length - 1]?.getD 0) b (sz % 8))
theorem pushBit_length (ys : List Int) (sz : Nat) (b : Int) (h : ys.length = (sz + 7) / 8) : (pushBit ys sz b).length = (sz + 1 + 7) / 8 := by
  unfold pushBit
  split
  · simp only [List.length_append, List.length_cons, List.length_nil]; omega
  · simp only [List.length_set]; omega

theorem Two.other {W : World} {B : Nat} {t : TypeId} {v0 v1 : Value} (h : Two W B t v0 v1) {p : Addr} (hp : B ≠ p.block) (u : Value) : Two (W.setCell p u) B t v0 v1 := (Below.heap_setCell W p u B hp).trans h

/-- The bytes behind the lowest k bits of v. -/
def pushN (ys : List Int) (sz v : Nat) : Nat → List Int
  | 0 => ys
  | k + 1 => pushBit (pushN ys sz v k) (sz + k) ((v / 2 ^ k % 2 : Nat) : Int)
theorem pushN_length (ys : List Int) (sz v k : Nat) (h : ys.length = (sz + 7) / 8) : (pushN ys sz v k).length = (sz + k + 7) / 8 := by
  induction k with
  | zero => exact h
  | succ k ih => exact pushBit_length _ _ _ ih

end Go.Proofs.YtiheajlgaehfmaaDoor
/- Walks of the two Reverse functions: each answers the lowest n bits of v the other way round (n below 0 as 0, above 32 as 32). -/
namespace Go.Proofs.YtiheajlgaehfmaaDoor
open Go.RowKit

def revN (v : Nat) : Nat → Nat
  | 0 => 0
  | k + 1 => 2 * revN v k + (v / 2 ^ k) % 2
theorem revN_lt (v k : Nat) : revN v k < 2 ^ k := by
  induction k with
  | zero => simp [revN]
  | succ k ih => simp only [revN, Nat.pow_succ]; omega
theorem revN_lt32 (v k : Nat) (hk : k ≤ 32) : revN v k < 4294967296 := by
  have h := revN_lt v k
  have h2 : 2 ^ k ≤ 2 ^ 32 := Nat.pow_le_pow_right (by omega) hk
  omega
theorem or_low (x y : Nat) (hy : y < 2) : 2 * x ||| y = 2 * x + y := by
  have h := Nat.two_pow_add_eq_or_of_lt (i := 1) (b := y) (by simpa using hy) x
  simpa using h.symm
theorem rev_step (v k : Nat) (hv : v < 4294967296) (hk : k < 32) :
    bits .or .u32 ((revN v k : Int) * 2 % 4294967296) (bits .and .u32 ((v : Int) / 2 ^ k) 1) = (revN v (k + 1) : Int) := by
  have h := revN_lt v k
  have h2 : 2 ^ k ≤ 2 ^ 31 := Nat.pow_le_pow_right (by omega) (by omega)
  have e : (v : Int) / 2 ^ k = ((v / 2 ^ k : Nat) : Int) := by simp
  have hd : v / 2 ^ k ≤ v := Nat.div_le_self _ _
  have hm : v / 2 ^ k % 2 < 2 := Nat.mod_lt _ (by omega)
  have e3 : revN v (k + 1) = 2 * revN v k + v / 2 ^ k % 2 := rfl
  rw [e, e3]
  generalize v / 2 ^ k = q at hd hm
  generalize revN v k = r at h
  clear e e3
  have hr : r < 2147483648 := by omega
  rw [u32_and_one _ (by omega) (by omega), u32_or _ _ (by omega) (by omega) (by omega) (by omega)]
  have e1 : ((r : Int) * 2 % 4294967296).toNat = 2 * r := by omega
  have e2 : ((q : Int) % 2).toNat = q % 2 := by omega
  rw [e1, e2, or_low _ _ hm]
theorem ret_rev {v a b : Nat} (h : a = b) : Ending.returned (.int .u32 (revN v a)) = .returned (.int .u32 (revN v b)) := by rw [h]
theorem ret_int {k : IntKind} {a b : Int} (h : a = b) : Ending.returned (.int k a) = .returned (.int k b) := by rw [h]

end Go.Proofs.YtiheajlgaehfmaaDoor
/- Bits packed into bytes: which bits the bytes hold behind each Put, what a Take of them is, and that reversing twice gives a number back. -/
namespace Go.Proofs.YtiheajlgaehfmaaDoor
open Go.RowKit

/-- Bit p of bytes. -/
def tb (ys : List Int) (p : Nat) : Bool := (ys[p / 8]?.getD 0).toNat.testBit (p % 8)
theorem bitAt_tb (ys : List Int) (h : AreBytes ys) (p : Nat) : (bitAt ys p).1 = ((tb ys p).toNat : Int) := by
  rw [bitAt_val ys h, tb, Nat.toNat_testBit]
  have hz := (h (p / 8)).1
  obtain ⟨m, hm⟩ := Int.eq_ofNat_of_zero_le hz
  rw [hm]
  simp

/-- The bytes ys hold just the bits bs, the lowest first; behind them noughts. -/
structure Packed (ys : List Int) (bs : List Bool) : Prop where
  len : ys.length = (bs.length + 7) / 8
  are : AreBytes ys
  bit : ∀ p, tb ys p = bs[p]?.getD false

theorem packed_nil : Packed [] [] := ⟨rfl, fun j => by simp, fun p => by simp [tb]⟩

theorem orB_val (y b : Int) (p : Nat) (hy : 0 ≤ y ∧ y ≤ 255) (b0 : 0 ≤ b) (b1 : b < 2) (hp : p < 8) :
    orB y b p = ((y.toNat ||| b.toNat * 2 ^ p : Nat) : Int) ∧ y.toNat ||| b.toNat * 2 ^ p < 256 := by
  have h2 : (2 : Nat) ^ p ≤ 2 ^ 7 := Nat.pow_le_pow_right (by omega) (by omega)
  obtain ⟨B, rfl⟩ := Int.eq_ofNat_of_zero_le b0
  have hB : B * 2 ^ p ≤ 128 := by
    have h3 : B * 2 ^ p ≤ 1 * 2 ^ p := Nat.mul_le_mul_right _ (by omega)
    omega
  have e : (B : Int) * 2 ^ p % 256 = ((B * 2 ^ p : Nat) : Int) := by
    rw [Int.natCast_mul, Int.natCast_pow]
    have : ((B : Int) * ((2 : Nat) : Int) ^ p) = ((B * 2 ^ p : Nat) : Int) := by simp
    have e2 : ((2 : Nat) : Int) = 2 := rfl
    rw [e2] at this ⊢
    omega
  refine ⟨?_, Nat.or_lt_two_pow (n := 8) (by omega) (by rw [Int.toNat_natCast]; omega)⟩
  unfold orB
  rw [e, Int.toNat_natCast]
  generalize B * 2 ^ p = q at hB
  rw [u8_or _ _ (by omega) (by omega) (by omega) (by omega), Int.toNat_natCast]

theorem testBit_or_bit (y : Nat) (b : Bool) (p q : Nat) : (y ||| b.toNat * 2 ^ p).testBit q = (y.testBit q || (b && decide (q = p))) := by
  rw [Nat.testBit_or, Nat.testBit_mul_two_pow]
  by_cases h : q = p
  · subst h
    cases b <;> simp
  · by_cases h2 : p ≤ q
    · have h3 : (b.toNat).testBit (q - p) = false := by
        obtain ⟨r, hr⟩ : ∃ r, q - p = r + 1 := ⟨q - p - 1, by omega⟩
        rw [hr]
        cases b <;> simp [Nat.testBit_succ]
      simp [h, h3]
    · simp [h, h2]

theorem pushBit_packed {ys : List Int} {bs : List Bool} (h : Packed ys bs) (b : Bool) : Packed (pushBit ys bs.length ((b.toNat : Nat) : Int)) (bs ++ [b]) := by
  have hb0 : (0 : Int) ≤ (b.toNat : Nat) := by omega
  have hb1 : ((b.toNat : Nat) : Int) < 2 := by cases b <;> simp
  have hl := h.len
  have hlen := pushBit_length ys bs.length ((b.toNat : Nat) : Int) h.len
  by_cases h8 : bs.length % 8 = 0
  · obtain ⟨e1, e2⟩ := orB_val 0 ((b.toNat : Nat) : Int) (bs.length % 8) (by omega) hb0 hb1 (Nat.mod_lt _ (by omega))
    rw [Int.toNat_natCast] at e1 e2
    have ep : pushBit ys bs.length ((b.toNat : Nat) : Int) = ys ++ [(((0 : Int).toNat ||| b.toNat * 2 ^ (bs.length % 8) : Nat) : Int)] := by
      unfold pushBit; rw [if_pos h8, e1]
    refine ⟨by simpa using hlen, ?_, ?_⟩
    · rw [ep]
      intro j
      rcases Nat.lt_trichotomy j ys.length with hj | hj | hj
      · rw [List.getElem?_append_left hj]; exact h.are j
      · rw [List.getElem?_append_right (by omega), show j - ys.length = 0 by omega]
        simp only [List.getElem?_cons_zero, Option.getD_some]
        omega
      · rw [List.getElem?_eq_none (by simp; omega)]
        simp
    · intro p
      have hp := h.bit p
      unfold tb at hp ⊢
      rw [ep]
      rcases Nat.lt_trichotomy (p / 8) ys.length with hj | hj | hj
      · rw [List.getElem?_append_left hj, hp, List.getElem?_append_left (by omega)]
      · rw [List.getElem?_append_right (by omega), show p / 8 - ys.length = 0 by omega]
        simp only [List.getElem?_cons_zero, Option.getD_some, Int.toNat_natCast]
        rw [testBit_or_bit]
        by_cases hp2 : p = bs.length
        · subst hp2
          rw [List.getElem?_append_right (by omega)]
          simp
        · rw [List.getElem?_eq_none (l := bs ++ [b]) (by simp; omega)]
          simp
          omega
      · rw [List.getElem?_eq_none (by simp; omega), List.getElem?_eq_none (by simp; omega)]
        simp
  · have hlast := h.are (ys.length - 1)
    obtain ⟨e1, e2⟩ := orB_val (ys[ys.length - 1]?.getD 0) ((b.toNat : Nat) : Int) (bs.length % 8) hlast hb0 hb1 (Nat.mod_lt _ (by omega))
    rw [Int.toNat_natCast] at e1 e2
    have ep : pushBit ys bs.length ((b.toNat : Nat) : Int) = ys.set (ys.length - 1) (((ys[ys.length - 1]?.getD 0).toNat ||| b.toNat * 2 ^ (bs.length % 8) : Nat) : Int) := by
      unfold pushBit; rw [if_neg h8, e1]
    refine ⟨by simpa using hlen, ?_, ?_⟩
    · rw [ep]
      intro j
      by_cases hj : j = ys.length - 1
      · subst hj
        rw [List.getElem?_set_self (by omega)]
        simp only [Option.getD_some]
        omega
      · rw [List.getElem?_set_ne (by omega)]; exact h.are j
    · intro p
      have hp := h.bit p
      unfold tb at hp ⊢
      rw [ep]
      by_cases hj : p / 8 = ys.length - 1
      · rw [hj, List.getElem?_set_self (by omega)]
        rw [hj] at hp
        simp only [Option.getD_some, Int.toNat_natCast]
        rw [testBit_or_bit, hp]
        rcases Nat.lt_trichotomy p bs.length with hq | hq | hq
        · rw [List.getElem?_append_left hq]
          have : ¬ p % 8 = bs.length % 8 := by omega
          simp [this]
        · subst hq
          rw [List.getElem?_append_right (by omega)]
          simp
        · rw [List.getElem?_eq_none (by omega), List.getElem?_eq_none (by simp; omega)]
          have : ¬ p % 8 = bs.length % 8 := by omega
          simp [this]
      · rw [List.getElem?_set_ne (by omega), hp]
        by_cases hq : p < bs.length
        · rw [List.getElem?_append_left hq]
        · rw [List.getElem?_eq_none (by omega), List.getElem?_eq_none (by simp; omega)]

/-- The lowest n bits of v. -/
def lowBits (v n : Nat) : List Bool := (List.range n).map v.testBit
theorem lowBits_succ (v n : Nat) : lowBits v (n + 1) = lowBits v n ++ [v.testBit n] := by simp [lowBits, List.range_succ]
theorem lowBits_length (v n : Nat) : (lowBits v n).length = n := by simp [lowBits]
theorem pushN_packed {ys : List Int} {bs : List Bool} (h : Packed ys bs) (v n : Nat) : Packed (pushN ys bs.length v n) (bs ++ lowBits v n) := by
  induction n with
  | zero => simpa [pushN, lowBits] using h
  | succ n ih =>
    have h1 := pushBit_packed ih (v.testBit n)
    rw [List.append_assoc, ← lowBits_succ, List.length_append, lowBits_length, Nat.toNat_testBit] at h1
    exact h1

/-- What Take answers, bit by bit. -/
theorem orFold_bit (zs : List Int) (hz : AreBytes zs) (pos n : Nat) (hn : n ≤ 32) (j : Nat) : (orFold (upto (bitF zs pos) n)).testBit j = (decide (j < n) && tb zs (pos + j)) := by
  induction n with
  | zero => simp [upto, orFold]
  | succ n ih =>
    have hmin : min n 32 = n := by omega
    have h2 : (2 : Nat) ^ n ≤ 2 ^ 31 := Nat.pow_le_pow_right (by omega) (by omega)
    have hmod : (tb zs (pos + n)).toNat * 2 ^ n % 4294967296 = (tb zs (pos + n)).toNat * 2 ^ n := by
      apply Nat.mod_eq_of_lt
      cases tb zs (pos + n) <;> simp <;> omega
    rw [upto_succ, orFold_snoc]
    show (orStep (orFold (upto (bitF zs pos) n)) n (bitAt zs (pos + n)).1).testBit j = _
    rw [bitAt_tb zs hz]
    unfold orStep
    rw [Int.toNat_natCast, hmin, hmod, testBit_or_bit, ih (by omega)]
    by_cases hj : j = n
    · subst hj; simp
    · by_cases hj2 : j < n
      · simp [hj, hj2, show j < n + 1 by omega]
      · simp [hj, hj2, show ¬ j < n + 1 by omega]
theorem orFold_packed {zs : List Int} {bs : List Bool} (h : Packed zs bs) (pos n v : Nat) (hn : n ≤ 32) (hb : ∀ j, j < n → bs[pos + j]? = some (v.testBit j)) : orFold (upto (bitF zs pos) n) = v % 2 ^ n := by
  apply Nat.eq_of_testBit_eq
  intro j
  rw [orFold_bit zs h.are pos n hn j, Nat.testBit_mod_two_pow, h.bit]
  by_cases hj : j < n
  · simp [hj, hb j hj]
  · simp [hj]

theorem revN_bit (v k j : Nat) : (revN v k).testBit j = (decide (j < k) && v.testBit (k - 1 - j)) := by
  induction k generalizing j with
  | zero => simp [revN]
  | succ k ih =>
    cases j with
    | zero =>
      show (2 * revN v k + v / 2 ^ k % 2).testBit 0 = _
      rw [Nat.testBit_zero, Nat.testBit_eq_decide_div_mod_eq]
      simp
    | succ j =>
      show (2 * revN v k + v / 2 ^ k % 2).testBit (j + 1) = _
      rw [Nat.testBit_succ, show (2 * revN v k + v / 2 ^ k % 2) / 2 = revN v k by omega, ih j]
      rw [show k + 1 - 1 - (j + 1) = k - 1 - j by omega]
      simp
theorem rev_twice (v n : Nat) : revN (revN v n) n = v % 2 ^ n := by
  apply Nat.eq_of_testBit_eq
  intro j
  rw [revN_bit, revN_bit, Nat.testBit_mod_two_pow]
  by_cases hj : j < n
  · simp [hj, show n - 1 - j < n by omega, show n - 1 - (n - 1 - j) = j by omega]
  · simp [hj]

end Go.Proofs.YtiheajlgaehfmaaDoor
