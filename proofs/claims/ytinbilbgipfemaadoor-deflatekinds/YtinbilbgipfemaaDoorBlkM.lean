import Derived.Test.YtinbilbgipfemaaDoorWb
import Derived.Test.YtinbilbgipfemaaDoorTabM
/- A block that is stored: its head, the closure that writes it. -/
namespace Go.Proofs.YtinbilbgipfemaaDoor
open Go.RowKit

/-- What stands behind a block's head. -/
def headY (ys : List Int) (sz : Nat) (last : Bool) (kind : Nat) : List Int := pushN (pushN ys sz last.toNat 1) (sz + 1) kind 2
theorem headY_length (ys : List Int) (sz : Nat) (last : Bool) (kind : Nat) (h : ys.length = (sz + 7) / 8) : (headY ys sz last kind).length = (sz + 3 + 7) / 8 := by
  unfold headY
  rw [pushN_length _ _ _ _ (by rw [pushN_length _ _ _ _ h])]

set_option maxRecDepth 100000 in
set_option maxHeartbeats 1000000 in
theorem putHead_any (T : Nat → Prop) (K R : Nat) (ys : List Int) (sz kind : Nat) (last : Bool) (w : World) (hK : w.cell? ⟨K, 1, none⟩ = some (.bool last)) (hW : IsWr T w R ys sz) (hT : ∀ k, T k → k < w.heap.size) (hTR : ¬ T R) (hlen : ys.length = (sz + 7) / 8) (hsz : sz + 64 < 1125899906842624) (hk : kind < 4) :
    Calls Tryd.prog 52 #[.pointer (some ⟨K, 0, none⟩), .pointer (some ⟨R, 0, none⟩), .int .u32 (kind : Int)] w fun e w' => e = .returned (.tuple #[]) ∧ IsWr T w' R (headY ys sz last kind) (sz + 3) ∧ Kept T w w' := by
  have H1 : Hid (Calls Tryd.prog 54 #[.pointer (some ⟨R, 0, none⟩), .int .u32 ((last.toNat : Nat) : Int), .int .i64 ((1 : Nat) : Int)] w fun e w' => e = .returned (.int .i64 0) ∧ IsWr T w' R (pushN ys sz last.toNat 1) (sz + 1) ∧ Kept T w w') := put_any T R ys sz last.toNat 1 w hW hT hTR hlen (by omega) (by cases last <;> decide) (by omega)
  clear hW
  cases last
  all_goals
    go_enter Tryd.func52, Tryd.ntmps52
    go_wp2_with fail
    refine H1.out.mono ?_
    clear H1
    rintro e w1 ⟨rfl, hW1, hk1⟩
    have H2 : Hid (Calls Tryd.prog 54 #[.pointer (some ⟨R, 0, none⟩), .int .u32 (kind : Int), .int .i64 ((2 : Nat) : Int)] w1 fun e w' => e = .returned (.int .i64 0) ∧ IsWr T w' R (pushN _ (sz + 1) kind 2) (sz + 1 + 2) ∧ Kept T w1 w') := put_any T R _ (sz + 1) kind 2 w1 hW1 (fun j hj => Nat.lt_of_lt_of_le (hT j hj) hk1.size) hTR (pushN_length _ _ _ _ hlen) (by omega) (by omega) (by omega)
    clear hW1
    go_wp2_with fail
    refine H2.out.mono ?_
    clear H2
    rintro e w2 ⟨rfl, hW2, hk2⟩
    go_wp2
    go_end0
    exact ⟨rfl, hW2, hk1.trans hk2⟩

/-- The number whose low 16 bits are those of n, turned. -/
@[irreducible] def nots (n : Nat) : Nat := 4294967295 - n
theorem nots_lt (n : Nat) : nots n < 4294967296 := by unfold nots; omega
theorem nots_val (n : Nat) (h : n ≤ 65535) : ((nots n : Nat) : Int) = 4294967295 - (n : Int) := by unfold nots; omega
theorem nots_xor (n : Nat) (h : n ≤ 65535) : bits .xor .u32 IntKind.u32.max (n : Int) = ((nots n : Nat) : Int) := by
  show IntKind.u32.wrap ((BitVec.ofInt 32 IntKind.u32.max ^^^ BitVec.ofInt 32 (n : Int)).toNat : Int) = _
  have h1 : BitVec.ofInt 32 IntKind.u32.max = BitVec.allOnes 32 := by decide
  have h2 : (BitVec.ofInt 32 (n : Int)).toNat = n := by
    rw [BitVec.toNat_ofInt]
    omega
  rw [h1, BitVec.xor_comm, BitVec.xor_allOnes, BitVec.toNat_not, h2, IntKind.wrap_u32', nots_val n h]
  omega

/-- What stands behind a stored block. -/
def storedY (ys : List Int) (sz : Nat) (last : Bool) (zs : List Int) : List Int :=
  let h := headY ys sz last 0
  pushN (pushN h (8 * h.length) zs.length 16) (8 * h.length + 16) (nots zs.length) 16 ++ zs
theorem storedY_length (ys : List Int) (sz : Nat) (last : Bool) (zs : List Int) (h : ys.length = (sz + 7) / 8) : (storedY ys sz last zs).length = (sz + 3 + 7) / 8 + 4 + zs.length := by
  unfold storedY
  simp only [List.length_append]
  rw [pushN_length _ _ _ _ (by rw [pushN_length _ _ _ _ (by omega)]), headY_length _ _ _ _ h]
  omega

set_option maxRecDepth 100000 in
set_option maxHeartbeats 2000000 in
theorem storedF_any (T : Nat → Prop) (B K R : Nat) (ys : List Int) (sz : Nat) (last : Bool) (a : Option Addr) (cap : Nat) (zs : List Int) (w : World) (hB : w.cell? ⟨B, 0, none⟩ = some (.pointer (some ⟨K, 0, none⟩))) (h0 : w.cell? ⟨K, 0, none⟩ = some (.slice a zs.length cap)) (h1 : w.cell? ⟨K, 1, none⟩ = some (.bool last))
    (hTB : T B) (hTK : T K) (ha : a = none → cap = 0) (hI : BytesIn T w (.slice a zs.length cap) zs) (hz : zs.length ≤ 65535) (hW : IsWr T w R ys sz) (hT : ∀ k, T k → k < w.heap.size) (hTR : ¬ T R) (hlen : ys.length = (sz + 7) / 8) (hsz : sz < 140737488355328) :
    Calls Tryd.prog 51 #[.pointer (some ⟨R, 0, none⟩), .pointer (some ⟨B, 0, none⟩)] w fun e w' => e = .returned (.tuple #[]) ∧ IsWr T w' R (storedY ys sz last zs) (8 * (storedY ys sz last zs).length) ∧ Kept T w w' := by
  have H1 : Hid (Calls Tryd.prog 52 #[.pointer (some ⟨K, 0, none⟩), .pointer (some ⟨R, 0, none⟩), .int .u32 ((0 : Nat) : Int)] w fun e w' => e = .returned (.tuple #[]) ∧ IsWr T w' R (headY ys sz last 0) (sz + 3) ∧ Kept T w w') := putHead_any T K R ys sz 0 last w h1 hW hT hTR hlen (by omega) (by omega)
  have HL : Hid ((headY ys sz last 0).length = (sz + 3 + 7) / 8) := headY_length _ _ _ _ hlen
  have hu : IntKind.u32.wrap (zs.length : Int) = zs.length := by simp [IntKind.wrap, IntKind.bits, IntKind.signed]; omega
  have hx : bits .xor .u32 IntKind.u32.max (zs.length : Int) = ((nots zs.length : Nat) : Int) := nots_xor _ hz
  have HY : Hid (storedY ys sz last zs = pushN (pushN (headY ys sz last 0) (8 * (headY ys sz last 0).length) zs.length 16) (8 * (headY ys sz last 0).length + 16) (nots zs.length) 16 ++ zs) := by unfold storedY; exact rfl
  clear hW
  generalize headY ys sz last 0 = hy at H1 HL HY
  go_enter Tryd.func51, Tryd.ntmps51
  go_wp2_with fail
  refine H1.out.mono ?_
  clear H1
  rintro e w1 ⟨rfl, ⟨g, c, hR1, hown1, hg1⟩, hk1⟩
  have H2 : Hid (Calls Tryd.prog 53 #[.pointer (some ⟨R, 0, none⟩)] w1 fun e w' => e = .returned (.tuple #[]) ∧ w' = w1.setCell ⟨R, 1, none⟩ (.int .i64 ((8 * hy.length : Nat) : Int))) := walign_any R g hy.length c _ w1 (by have := HL.out; omega) hR1 ⟨sz + 3, rfl⟩
  go_wp2_with fail
  refine H2.out.mono ?_
  clear H2
  rintro e w2 ⟨rfl, rfl⟩
  have hk2 : Kept T w (w1.setCell ⟨R, 1, none⟩ (.int .i64 ((8 * hy.length : Nat) : Int))) := hk1.setCell (p := ⟨R, 1, none⟩) hTR _
  have hW2 : IsWr T (w1.setCell ⟨R, 1, none⟩ (.int .i64 ((8 * hy.length : Nat) : Int))) R hy (8 * hy.length) := by
    have hne : (Value.slice g hy.length c).ownBlock ≠ some R := fun e => hR1.not_row (by decide) hown1 e.symm
    exact ⟨g, c, hR1.set1 _, ownsRow_setCell_other hown1 (a := ⟨R, 1, none⟩) hne _, hg1⟩
  generalize (w1.setCell ⟨R, 1, none⟩ (.int .i64 ((8 * hy.length : Nat) : Int))) = w2 at hk2 hW2
  have hB2 := (hk2.cell (p := ⟨B, 0, none⟩) hTB).trans hB
  have h02 := (hk2.cell (p := ⟨K, 0, none⟩) hTK).trans h0
  have hT2 : ∀ k, T k → k < w2.heap.size := fun j hj => Nat.lt_of_lt_of_le (hT j hj) hk2.size
  clear hR1 hown1 hg1 hk1 hB h0 h1
  have H3 : Hid (Calls Tryd.prog 54 #[.pointer (some ⟨R, 0, none⟩), .int .u32 (zs.length : Int), .int .i64 ((16 : Nat) : Int)] w2 fun e w' => e = .returned (.int .i64 0) ∧ IsWr T w' R (pushN hy (8 * hy.length) zs.length 16) (8 * hy.length + 16) ∧ Kept T w2 w') := put_any T R hy (8 * hy.length) zs.length 16 w2 hW2 hT2 hTR (by omega) (by have := HL.out; omega) (by omega) (by omega)
  clear hW2
  go_wp2_with fail
  refine H3.out.mono ?_
  clear H3
  rintro e w3 ⟨rfl, hW3, hk3⟩
  have hB3 := (hk3.cell (p := ⟨B, 0, none⟩) hTB).trans hB2
  have h03 := (hk3.cell (p := ⟨K, 0, none⟩) hTK).trans h02
  have hT3 : ∀ k, T k → k < w3.heap.size := fun j hj => Nat.lt_of_lt_of_le (hT2 j hj) hk3.size
  have HL3 : Hid ((pushN hy (8 * hy.length) zs.length 16).length = (8 * hy.length + 16 + 7) / 8) := pushN_length _ _ _ _ (by omega)
  generalize pushN hy (8 * hy.length) zs.length 16 = y3 at HY hW3 HL3
  have H4 : Hid (Calls Tryd.prog 54 #[.pointer (some ⟨R, 0, none⟩), .int .u32 ((nots zs.length : Nat) : Int), .int .i64 ((16 : Nat) : Int)] w3 fun e w' => e = .returned (.int .i64 0) ∧ IsWr T w' R (pushN y3 (8 * hy.length + 16) (nots zs.length) 16) (8 * hy.length + 16 + 16) ∧ Kept T w3 w') := put_any T R y3 (8 * hy.length + 16) (nots zs.length) 16 w3 hW3 hT3 hTR HL3.out (by have := HL.out; omega) (nots_lt _) (by omega)
  clear hW3 hB2 h02
  go_wp2_with fail
  refine H4.out.mono ?_
  clear H4
  rintro e w4 ⟨rfl, hW4, hk4⟩
  have hB4 := (hk4.cell (p := ⟨B, 0, none⟩) hTB).trans hB3
  have h04 := (hk4.cell (p := ⟨K, 0, none⟩) hTK).trans h03
  have hT4 : ∀ k, T k → k < w4.heap.size := fun j hj => Nat.lt_of_lt_of_le (hT3 j hj) hk4.size
  have HL4 : Hid ((pushN y3 (8 * hy.length + 16) (nots zs.length) 16).length = (8 * hy.length + 16 + 16 + 7) / 8) := pushN_length _ _ _ _ HL3.out
  generalize pushN y3 (8 * hy.length + 16) (nots zs.length) 16 = y4 at HY hW4 HL4
  have hI4 := hI.kept ((hk2.trans hk3).trans hk4)
  have H5 : Hid (Calls Tryd.prog 55 #[.pointer (some ⟨R, 0, none⟩), .slice a zs.length cap] w4 fun e w' => e = .returned (.tuple #[]) ∧ IsWr T w' R (y4 ++ zs) (8 * (y4.length + zs.length)) ∧ Kept T w4 w') := wbytes_any T R y4 _ a cap zs w4 ha hW4 hT4 hTR (by have := HL.out; have := HL4.out; omega) hI4
  clear hW4 hB3 h03
  go_wp2_with fail
  refine H5.out.mono ?_
  clear H5
  rintro e w5 ⟨rfl, hW5, hk5⟩
  go_wp2
  go_end0
  refine ⟨rfl, ?_, ((hk2.trans hk3).trans hk4).trans hk5⟩
  rw [HY.out, List.length_append]
  exact hW5
end Go.Proofs.YtinbilbgipfemaaDoor
/- Bits packed into bytes: which bits the bytes hold behind each Put; the writer, told by its bits. -/
namespace Go.Proofs.YtinbilbgipfemaaDoor
open Go.RowKit

/-- Bit p of bytes. -/
def tb (ys : List Int) (p : Nat) : Bool := (ys[p / 8]?.getD 0).toNat.testBit (p % 8)
/-- The bytes ys hold just the bits bs, the lowest first; behind them noughts. -/
structure Packed (ys : List Int) (bs : List Bool) : Prop where
  len : ys.length = (bs.length + 7) / 8
  are : AreBytes ys
  bit : ∀ p, tb ys p = bs[p]?.getD false

theorem packed_nil : Packed [] [] := ⟨rfl, fun j => by simp, fun p => by simp [tb]⟩

theorem orB_val (y b : Int) (p : Nat) (hy : 0 ≤ y ∧ y ≤ 255) (b0 : 0 ≤ b) (b1 : b < 2) (hp : p < 8) :
    orB y b p = ((y.toNat ||| b.toNat * 2 ^ p : Nat) : Int) ∧ y.toNat ||| b.toNat * 2 ^ p < 256 := by
  have h2 : (2 : Nat) ^ p ≤ 2 ^ 7 := Nat.pow_le_pow_right (by omega) (by omega)
  obtain ⟨B, rfl⟩ := Int.eq_ofNat_of_zero_le b0
  have hB : B * 2 ^ p ≤ 128 := by
    have h3 : B * 2 ^ p ≤ 1 * 2 ^ p := Nat.mul_le_mul_right _ (by omega)
    omega
  have e : (B : Int) * 2 ^ p % 256 = ((B * 2 ^ p : Nat) : Int) := by
    rw [Int.natCast_mul, Int.natCast_pow]
    have : ((B : Int) * ((2 : Nat) : Int) ^ p) = ((B * 2 ^ p : Nat) : Int) := by simp
    have e2 : ((2 : Nat) : Int) = 2 := rfl
    rw [e2] at this ⊢
    omega
  refine ⟨?_, Nat.or_lt_two_pow (n := 8) (by omega) (by rw [Int.toNat_natCast]; omega)⟩
  unfold orB
  rw [e, Int.toNat_natCast]
  generalize B * 2 ^ p = q at hB
  rw [u8_or _ _ (by omega) (by omega) (by omega) (by omega), Int.toNat_natCast]

theorem testBit_or_bit (y : Nat) (b : Bool) (p q : Nat) : (y ||| b.toNat * 2 ^ p).testBit q = (y.testBit q || (b && decide (q = p))) := by
  rw [Nat.testBit_or, Nat.testBit_mul_two_pow]
  by_cases h : q = p
  · subst h
    cases b <;> simp
  · by_cases h2 : p ≤ q
    · have h3 : (b.toNat).testBit (q - p) = false := by
        obtain ⟨r, hr⟩ : ∃ r, q - p = r + 1 := ⟨q - p - 1, by omega⟩
        rw [hr]
        cases b <;> simp [Nat.testBit_succ]
      simp [h, h3]
    · simp [h, h2]

theorem pushBit_packed {ys : List Int} {bs : List Bool} (h : Packed ys bs) (b : Bool) : Packed (pushBit ys bs.length ((b.toNat : Nat) : Int)) (bs ++ [b]) := by
  have hb0 : (0 : Int) ≤ (b.toNat : Nat) := by omega
  have hb1 : ((b.toNat : Nat) : Int) < 2 := by cases b <;> simp
  have hl := h.len
  have hlen := pushBit_length ys bs.length ((b.toNat : Nat) : Int) h.len
  by_cases h8 : bs.length % 8 = 0
  · obtain ⟨e1, e2⟩ := orB_val 0 ((b.toNat : Nat) : Int) (bs.length % 8) (by omega) hb0 hb1 (Nat.mod_lt _ (by omega))
    rw [Int.toNat_natCast] at e1 e2
    have ep : pushBit ys bs.length ((b.toNat : Nat) : Int) = ys ++ [(((0 : Int).toNat ||| b.toNat * 2 ^ (bs.length % 8) : Nat) : Int)] := by
      unfold pushBit; rw [if_pos h8, e1]
    refine ⟨by simpa using hlen, ?_, ?_⟩
    · rw [ep]
      intro j
      rcases Nat.lt_trichotomy j ys.length with hj | hj | hj
      · rw [List.getElem?_append_left hj]; exact h.are j
      · rw [List.getElem?_append_right (by omega), show j - ys.length = 0 by omega]
        simp only [List.getElem?_cons_zero, Option.getD_some]
        omega
      · rw [List.getElem?_eq_none (by simp; omega)]
        simp
    · intro p
      have hp := h.bit p
      unfold tb at hp ⊢
      rw [ep]
      rcases Nat.lt_trichotomy (p / 8) ys.length with hj | hj | hj
      · rw [List.getElem?_append_left hj, hp, List.getElem?_append_left (by omega)]
      · rw [List.getElem?_append_right (by omega), show p / 8 - ys.length = 0 by omega]
        simp only [List.getElem?_cons_zero, Option.getD_some, Int.toNat_natCast]
        rw [testBit_or_bit]
        by_cases hp2 : p = bs.length
        · subst hp2
          rw [List.getElem?_append_right (by omega)]
          simp
        · rw [List.getElem?_eq_none (l := bs ++ [b]) (by simp; omega)]
          simp
          omega
      · rw [List.getElem?_eq_none (by simp; omega), List.getElem?_eq_none (by simp; omega)]
        simp
  · have hlast := h.are (ys.length - 1)
    obtain ⟨e1, e2⟩ := orB_val (ys[ys.length - 1]?.getD 0) ((b.toNat : Nat) : Int) (bs.length % 8) hlast hb0 hb1 (Nat.mod_lt _ (by omega))
    rw [Int.toNat_natCast] at e1 e2
    have ep : pushBit ys bs.length ((b.toNat : Nat) : Int) = ys.set (ys.length - 1) (((ys[ys.length - 1]?.getD 0).toNat ||| b.toNat * 2 ^ (bs.length % 8) : Nat) : Int) := by
      unfold pushBit; rw [if_neg h8, e1]
    refine ⟨by simpa using hlen, ?_, ?_⟩
    · rw [ep]
      intro j
      by_cases hj : j = ys.length - 1
      · subst hj
        rw [List.getElem?_set_self (by omega)]
        simp only [Option.getD_some]
        omega
      · rw [List.getElem?_set_ne (by omega)]; exact h.are j
    · intro p
      have hp := h.bit p
      unfold tb at hp ⊢
      rw [ep]
      by_cases hj : p / 8 = ys.length - 1
      · rw [hj, List.getElem?_set_self (by omega)]
        rw [hj] at hp
        simp only [Option.getD_some, Int.toNat_natCast]
        rw [testBit_or_bit, hp]
        rcases Nat.lt_trichotomy p bs.length with hq | hq | hq
        · rw [List.getElem?_append_left hq]
          have : ¬ p % 8 = bs.length % 8 := by omega
          simp [this]
        · subst hq
          rw [List.getElem?_append_right (by omega)]
          simp
        · rw [List.getElem?_eq_none (by omega), List.getElem?_eq_none (by simp; omega)]
          have : ¬ p % 8 = bs.length % 8 := by omega
          simp [this]
      · rw [List.getElem?_set_ne (by omega), hp]
        by_cases hq : p < bs.length
        · rw [List.getElem?_append_left hq]
        · rw [List.getElem?_eq_none (by omega), List.getElem?_eq_none (by simp; omega)]

/-- The lowest n bits of v. -/
def lowBits (v n : Nat) : List Bool := (List.range n).map v.testBit
theorem lowBits_succ (v n : Nat) : lowBits v (n + 1) = lowBits v n ++ [v.testBit n] := by simp [lowBits, List.range_succ]
theorem lowBits_length (v n : Nat) : (lowBits v n).length = n := by simp [lowBits]
theorem pushN_packed {ys : List Int} {bs : List Bool} (h : Packed ys bs) (v n : Nat) : Packed (pushN ys bs.length v n) (bs ++ lowBits v n) := by
  induction n with
  | zero => simpa [pushN, lowBits] using h
  | succ n ih =>
    have h1 := pushBit_packed ih (v.testBit n)
    rw [List.append_assoc, ← lowBits_succ, List.length_append, lowBits_length, Nat.toNat_testBit] at h1
    exact h1

/-- How many noughts fill a byte that was begun. -/
def padN (n : Nat) : Nat := (8 - n % 8) % 8
def pad (bs : List Bool) : List Bool := bs ++ List.replicate (padN bs.length) false
theorem pad_length (bs : List Bool) : (pad bs).length = (bs.length + 7) / 8 * 8 := by
  simp only [pad, List.length_append, List.length_replicate, padN]
  omega
def byteBits (zs : List Int) : List Bool := zs.flatMap fun z => lowBits z.toNat 8
theorem byteBits_length (zs : List Int) : (byteBits zs).length = 8 * zs.length := by
  induction zs with
  | nil => rfl
  | cons z zs ih =>
    have e : byteBits (z :: zs) = lowBits z.toNat 8 ++ byteBits zs := rfl
    rw [e, List.length_append, ih, lowBits_length, List.length_cons]
    omega
theorem byteBits_get (zs : List Int) (j : Nat) (hj : j / 8 < zs.length) : (byteBits zs)[j]?.getD false = (zs[j / 8]?.getD 0).toNat.testBit (j % 8) := by
  induction zs generalizing j with
  | nil => simp at hj
  | cons z zs ih =>
    have e : byteBits (z :: zs) = lowBits z.toNat 8 ++ byteBits zs := rfl
    rw [e]
    by_cases h8 : j < 8
    · rw [List.getElem?_append_left (by rw [lowBits_length]; exact h8), show j / 8 = 0 by omega, show j % 8 = j by omega]
      simp [lowBits, h8]
    · rw [List.getElem?_append_right (by rw [lowBits_length]; omega), lowBits_length]
      have h1 : j / 8 = (j - 8) / 8 + 1 := by omega
      rw [ih (j - 8) (by simp only [List.length_cons] at hj; omega), h1, List.getElem?_cons_succ, show (j - 8) % 8 = j % 8 by omega]

theorem packed_pad {ys : List Int} {bs : List Bool} (h : Packed ys bs) : Packed ys (pad bs) := by
  refine ⟨by rw [pad_length]; have := h.len; omega, h.are, fun p => ?_⟩
  rw [h.bit p, pad]
  by_cases hp : p < bs.length
  · rw [List.getElem?_append_left hp]
  · rw [List.getElem?_eq_none (by omega), List.getElem?_append_right (by omega)]
    by_cases h2 : p - bs.length < padN bs.length
    · simp [h2]
    · simp [h2]
theorem packed_bytes {ys zs : List Int} {bs : List Bool} (h : Packed ys bs) (hz : AreBytes zs) : Packed (ys ++ zs) (pad bs ++ byteBits zs) := by
  have hp := packed_pad h
  have hl := hp.len
  have hpl := pad_length bs
  refine ⟨by rw [List.length_append, List.length_append, byteBits_length]; omega, ?_, ?_⟩
  · intro j
    by_cases hj : j < ys.length
    · rw [List.getElem?_append_left hj]; exact h.are j
    · rw [List.getElem?_append_right (by omega)]; exact hz _
  · intro p
    unfold tb
    by_cases hj : p / 8 < ys.length
    · rw [List.getElem?_append_left hj, List.getElem?_append_left (by omega)]
      exact hp.bit p
    · rw [List.getElem?_append_right (by omega), List.getElem?_append_right (by omega)]
      by_cases hk : p / 8 - ys.length < zs.length
      · rw [byteBits_get zs _ (by omega), show (p - (pad bs).length) / 8 = p / 8 - ys.length by omega, show (p - (pad bs).length) % 8 = p % 8 by omega]
      · rw [List.getElem?_eq_none (by omega), List.getElem?_eq_none (by rw [byteBits_length]; omega)]
        simp
/-! ### the writer, told by its bits -/
/-- The writer at R, behind the bits bs; its row lies outside T. -/
def IsWb (T : Nat → Prop) (w : World) (R : Nat) (bs : List Bool) : Prop := ∃ ys, IsWr T w R ys bs.length ∧ Packed ys bs

theorem put_bits (T : Nat → Prop) (R : Nat) (bs : List Bool) (v n : Nat) (w : World) (hW : IsWb T w R bs) (hT : ∀ k, T k → k < w.heap.size) (hTR : ¬ T R) (hsz : bs.length + 32 < 1125899906842624) (hv : v < 4294967296) (hn : n ≤ 32) :
    Calls Tryd.prog 54 #[.pointer (some ⟨R, 0, none⟩), .int .u32 v, .int .i64 n] w fun e w' => e = .returned (.int .i64 0) ∧ IsWb T w' R (bs ++ lowBits v n) ∧ Kept T w w' := by
  obtain ⟨ys, hI, hP⟩ := hW
  refine (put_any T R ys bs.length v n w hI hT hTR hP.len hsz hv hn).mono ?_
  rintro e w' ⟨rfl, h1, h2⟩
  refine ⟨rfl, ⟨_, ?_, pushN_packed hP v n⟩, h2⟩
  rw [List.length_append, lowBits_length]
  exact h1

/-- A block's head: whether it is the last one, and its kind. -/
def headB (last : Bool) (kind : Nat) : List Bool := lowBits last.toNat 1 ++ lowBits kind 2
theorem headB_length (last : Bool) (kind : Nat) : (headB last kind).length = 3 := by simp [headB, lowBits_length]
theorem headY_packed {ys : List Int} {bs : List Bool} (h : Packed ys bs) (last : Bool) (kind : Nat) : Packed (headY ys bs.length last kind) (bs ++ headB last kind) := by
  have h1 := pushN_packed h last.toNat 1
  have h2 := pushN_packed h1 kind 2
  rw [List.length_append, lowBits_length, List.append_assoc] at h2
  exact h2
theorem putHead_bits (T : Nat → Prop) (K R : Nat) (bs : List Bool) (kind : Nat) (last : Bool) (w : World) (hK : w.cell? ⟨K, 1, none⟩ = some (.bool last)) (hW : IsWb T w R bs) (hT : ∀ k, T k → k < w.heap.size) (hTR : ¬ T R) (hsz : bs.length + 64 < 1125899906842624) (hk : kind < 4) :
    Calls Tryd.prog 52 #[.pointer (some ⟨K, 0, none⟩), .pointer (some ⟨R, 0, none⟩), .int .u32 (kind : Int)] w fun e w' => e = .returned (.tuple #[]) ∧ IsWb T w' R (bs ++ headB last kind) ∧ Kept T w w' := by
  obtain ⟨ys, hI, hP⟩ := hW
  refine (putHead_any T K R ys bs.length kind last w hK hI hT hTR hP.len hsz hk).mono ?_
  rintro e w' ⟨rfl, h1, h2⟩
  refine ⟨rfl, ⟨_, ?_, headY_packed hP last kind⟩, h2⟩
  rw [List.length_append, headB_length]
  exact h1

/-- A stored block behind n bits. -/
def storedB (n : Nat) (last : Bool) (zs : List Int) : List Bool := headB last 0 ++ List.replicate (padN (n + 3)) false ++ lowBits zs.length 16 ++ lowBits (nots zs.length) 16 ++ byteBits zs
theorem storedB_length (n : Nat) (last : Bool) (zs : List Int) : (storedB n last zs).length = 3 + padN (n + 3) + 32 + 8 * zs.length := by
  simp only [storedB, List.length_append, headB_length, List.length_replicate, lowBits_length, byteBits_length]
theorem pad_head (bs : List Bool) (last : Bool) (kind : Nat) : pad (bs ++ headB last kind) = bs ++ headB last kind ++ List.replicate (padN (bs.length + 3)) false := by
  rw [pad, List.length_append, headB_length]
theorem pad_of_mul (bs : List Bool) (h : bs.length % 8 = 0) : pad bs = bs := by
  rw [pad, padN, h]
  simp
theorem storedY_packed {ys : List Int} {bs : List Bool} (h : Packed ys bs) (last : Bool) (zs : List Int) (hz : AreBytes zs) : Packed (storedY ys bs.length last zs) (bs ++ storedB bs.length last zs) := by
  have h1 := packed_pad (headY_packed h last 0)
  have hl1 : 8 * (headY ys bs.length last 0).length = (pad (bs ++ headB last 0)).length := by
    rw [pad_length, headY_length _ _ _ _ h.len, List.length_append, headB_length]
    omega
  have h2 := pushN_packed h1 zs.length 16
  rw [← hl1] at h2
  have h3 := pushN_packed h2 (nots zs.length) 16
  rw [List.length_append, ← hl1, lowBits_length] at h3
  have h4 := packed_bytes h3 hz
  rw [pad_of_mul _ (by simp only [List.length_append, lowBits_length, pad_length]; omega)] at h4
  unfold storedY
  have e : bs ++ storedB bs.length last zs = pad (bs ++ headB last 0) ++ lowBits zs.length 16 ++ lowBits (nots zs.length) 16 ++ byteBits zs := by
    rw [pad_head, storedB]
    simp only [List.append_assoc]
  rw [e]
  exact h4
theorem storedF_bits (T : Nat → Prop) (B K R : Nat) (bs : List Bool) (last : Bool) (a : Option Addr) (cap : Nat) (zs : List Int) (w : World) (hB : w.cell? ⟨B, 0, none⟩ = some (.pointer (some ⟨K, 0, none⟩))) (h0 : w.cell? ⟨K, 0, none⟩ = some (.slice a zs.length cap)) (h1 : w.cell? ⟨K, 1, none⟩ = some (.bool last))
    (hTB : T B) (hTK : T K) (ha : a = none → cap = 0) (hI : BytesIn T w (.slice a zs.length cap) zs) (hzb : AreBytes zs) (hz : zs.length ≤ 65535) (hW : IsWb T w R bs) (hT : ∀ k, T k → k < w.heap.size) (hTR : ¬ T R) (hsz : bs.length < 140737488355328) :
    Calls Tryd.prog 51 #[.pointer (some ⟨R, 0, none⟩), .pointer (some ⟨B, 0, none⟩)] w fun e w' => e = .returned (.tuple #[]) ∧ IsWb T w' R (bs ++ storedB bs.length last zs) ∧ Kept T w w' := by
  obtain ⟨ys, hIs, hP⟩ := hW
  refine (storedF_any T B K R ys bs.length last a cap zs w hB h0 h1 hTB hTK ha hI hz hIs hT hTR hP.len hsz).mono ?_
  rintro e w' ⟨rfl, q1, q2⟩
  refine ⟨rfl, ⟨_, ?_, storedY_packed hP last zs hzb⟩, q2⟩
  have e : 8 * (storedY ys bs.length last zs).length = (bs ++ storedB bs.length last zs).length := by
    rw [storedY_length _ _ _ _ hP.len, List.length_append, storedB_length, padN]
    omega
  rw [← e]
  exact q1
end Go.Proofs.YtinbilbgipfemaaDoor
/- The law's own look at the first block. -/
namespace Go.Proofs.YtinbilbgipfemaaDoor
open Go.RowKit

theorem u8_and3 (x : Int) (h0 : 0 ≤ x) (h1 : x ≤ 255) : bits .and .u8 x 3 = x % 4 := by
  rw [u8_and x 3 h0 (by omega) (by omega) (by omega)]
  have : x.toNat &&& (3 : Int).toNat = x.toNat % 4 := by
    rw [show (3 : Int).toNat = 2 ^ 2 - 1 from rfl, Nat.and_two_pow_sub_one_eq_mod]
  rw [this]
  omega
set_option maxRecDepth 100000 in
set_option maxHeartbeats 400000 in
theorem kinds_at (b off cap n : Nat) (y : Int) (k level : Nat) (w : World) (hn : 1 ≤ n) (hc : w.cell? ⟨b, off, none⟩ = some (.int .u8 y)) (h0 : 0 ≤ y) (h1 : y ≤ 255) (hk : y / 2 % 4 = (k : Int)) (hkl : k ≤ level) (hl : level ≤ 2) :
    Calls Tryd.prog 9 #[.slice (some ⟨b, off, none⟩) n cap, .int .i64 (level : Int)] w fun e w' => e = .returned (.bool true) ∧ w' = w := by
  have g1 : ((n : Int) == 0) = false := by simp only [beq_eq_false_iff_ne]; omega
  have g2 : (0 : Int) < (n : Int) := by omega
  have hk3 : (k = 0 ∨ k = 1 ∨ k = 2) ∧ (level = 0 ∨ level = 1 ∨ level = 2) := by omega
  have e1 : bits .and .u8 (y / 2) 3 = (k : Int) := by rw [u8_and3 _ (by omega) (by omega)]; exact hk
  clear hk
  obtain ⟨hk3 | hk3 | hk3, hl3 | hl3 | hl3⟩ := hk3
  all_goals subst hk3
  all_goals subst hl3
  all_goals try (exfalso; omega)
  all_goals
    go_enter Tryd.func9, Tryd.ntmps9
    go_wp2
    go_ret
    exact ⟨rfl, rfl⟩
end Go.Proofs.YtinbilbgipfemaaDoor
/- Deflate where it refuses. -/
namespace Go.Proofs.YtinbilbgipfemaaDoor
open Go.RowKit

set_option maxRecDepth 100000 in
set_option maxHeartbeats 400000 in
theorem deflate_lv (a : Option Addr) (n cap : Nat) (level : Int) (h : level < 0 ∨ 2 < level) (w : World) :
    Calls Tryd.prog 7 #[.slice a n cap, .int .i64 level] w fun e w' => e = .returned (.tuple #[.slice none 0 0, .int .i64 1]) ∧ w' = w := by
  have hc : decide (level < 0) = true ∨ (decide (level < 0) = false ∧ decide (2 < level) = true) := by
    by_cases h0 : level < 0
    · exact .inl (decide_eq_true h0)
    · exact .inr ⟨decide_eq_false h0, decide_eq_true (by omega)⟩
  clear h
  rcases hc with h1 | ⟨h1, h2⟩
  all_goals
    go_enter Tryd.func7, Tryd.ntmps7
    go_wp2
    exact bodyPost_ret (v := .tuple #[.slice none 0 0, .int .i64 1]) (by simp [results, Tryd.f7, go_sem]) rfl ⟨rfl, rfl⟩
set_option maxRecDepth 100000 in
set_option maxHeartbeats 400000 in
theorem deflate_big (a : Option Addr) (n cap : Nat) (level : Int) (h0 : 0 ≤ level) (h2 : level ≤ 2) (hn : 1048576 < n) (w : World) :
    Calls Tryd.prog 7 #[.slice a n cap, .int .i64 level] w fun e w' => e = .returned (.tuple #[.slice none 0 0, .int .i64 3]) ∧ w' = w := by
  have g1 : decide (level < 0) = false := decide_eq_false (by omega)
  have g2 : decide (2 < level) = false := decide_eq_false (by omega)
  have g3 : (1048576 : Int) < (n : Int) := by omega
  clear hn
  go_enter Tryd.func7, Tryd.ntmps7
  go_wp2
  exact bodyPost_ret (v := .tuple #[.slice none 0 0, .int .i64 3]) (by simp [results, Tryd.f7, go_sem]) rfl ⟨rfl, rfl⟩
end Go.Proofs.YtinbilbgipfemaaDoor
