/- What the document's 'first' finds, byte by byte, and that it is what a range over a string finds. No seat's text: the namespace is turned to a seat's own when it is carried over. -/
import Derived.Lib.DecodeN
namespace Go.Proofs.Ytckopbcpjecjhaa

/-- May a number be a character? -/
def charZ (m : Int) : Prop := 0 ≤ m ∧ m ≤ 1114111 ∧ ¬ (55296 ≤ m ∧ m ≤ 57343)
instance (m : Int) : Decidable (charZ m) := by unfold charZ; infer_instance
/-- A character as UTF-8 writes it. -/
def wrN (n : Nat) : List Nat :=
  if n < 128 then [n] else if n < 2048 then [192 + n / 64, 128 + n % 64] else if n < 65536 then [224 + n / 4096, 128 + n / 64 % 64, 128 + n % 64]
  else [240 + n / 262144, 128 + n / 4096 % 64, 128 + n / 64 % 64, 128 + n % 64]
theorem wrN_1 {n : Nat} (h : n < 128) : wrN n = [n] := by unfold wrN; rw [if_pos h]
theorem wrN_2 {n : Nat} (h : 128 ≤ n) (h2 : n < 2048) : wrN n = [192 + n / 64, 128 + n % 64] := by unfold wrN; rw [if_neg (by omega), if_pos h2]
theorem wrN_3 {n : Nat} (h : 2048 ≤ n) (h2 : n < 65536) : wrN n = [224 + n / 4096, 128 + n / 64 % 64, 128 + n % 64] := by unfold wrN; rw [if_neg (by omega), if_neg (by omega), if_pos h2]
theorem wrN_4 {n : Nat} (h : 65536 ≤ n) : wrN n = [240 + n / 262144, 128 + n / 4096 % 64, 128 + n / 64 % 64, 128 + n % 64] := by unfold wrN; rw [if_neg (by omega), if_neg (by omega), if_neg (by omega)]
theorem wrN_len (n : Nat) : (wrN n).length = if n < 128 then 1 else if n < 2048 then 2 else if n < 65536 then 3 else 4 := by
  unfold wrN
  repeat' split
  all_goals rfl
theorem wrN_byte {n : Nat} (h : n ≤ 1114111) : ∀ x ∈ wrN n, x < 256 := by
  unfold wrN
  repeat' split
  all_goals
    intro x hx
    simp only [List.mem_cons, List.not_mem_nil, or_false] at hx
    omega

/-! ### the four sizes -/
theorem hit1 (b0 : Nat) (h0 : b0 < 256) : (charZ b0 ∧ wrN b0 = [b0]) ↔ b0 < 128 := by
  constructor
  · rintro ⟨hc, hw⟩
    have := congrArg List.length hw
    rw [wrN_len] at this
    split at this
    · assumption
    · split at this
      · simp at this
      · omega
  · intro h
    exact ⟨⟨by omega, by omega, by omega⟩, wrN_1 h⟩
theorem hit2 (b0 b1 : Nat) (h1 : b1 < 256) {m : Int} (hm : m = ((b0 : Int) - 192) * 64 + b1 - 128) :
    (charZ m ∧ wrN m.toNat = [b0, b1]) ↔ (b0 / 32 = 6 ∧ b1 / 64 = 2 ∧ b0 % 32 * 64 + b1 % 64 ≥ 128) := by
  constructor
  · rintro ⟨⟨hc, hc2, hc3⟩, hw⟩
    have hl := congrArg List.length hw
    rw [wrN_len] at hl
    obtain ⟨n, rfl⟩ : ∃ n : Nat, m = n := ⟨m.toNat, by omega⟩
    rw [Int.toNat_natCast] at hw hl
    have hn : 128 ≤ n ∧ n < 2048 := by
      split at hl
      · simp at hl
      · split at hl
        · omega
        · split at hl <;> simp at hl
    rw [wrN_2 hn.1 hn.2] at hw
    simp only [List.cons.injEq, and_true] at hw
    omega
  · rintro ⟨g0, g1, g2⟩
    obtain ⟨n, rfl⟩ : ∃ n : Nat, m = n := ⟨m.toNat, by omega⟩
    refine ⟨⟨by omega, by omega, by omega⟩, ?_⟩
    rw [Int.toNat_natCast, wrN_2 (by omega) (by omega)]
    simp only [List.cons.injEq, and_true]
    omega
theorem hit3 (b0 b1 b2 : Nat) (h1 : b1 < 256) {m : Int} (hm : m = (((b0 : Int) - 224) * 64 + b1 - 128) * 64 + b2 - 128) :
    (charZ m ∧ wrN m.toNat = [b0, b1, b2]) ↔ (b0 / 16 = 14 ∧ b1 / 64 = 2 ∧ b2 / 64 = 2 ∧ b0 % 16 * 4096 + b1 % 64 * 64 + b2 % 64 ≥ 2048 ∧ (b0 % 16 * 4096 + b1 % 64 * 64 + b2 % 64 < 55296 ∨ (57344 ≤ b0 % 16 * 4096 + b1 % 64 * 64 + b2 % 64 ∧ b0 % 16 * 4096 + b1 % 64 * 64 + b2 % 64 ≤ 1114111))) := by
  constructor
  · rintro ⟨⟨hc, hc2, hc3⟩, hw⟩
    have hl := congrArg List.length hw
    rw [wrN_len] at hl
    obtain ⟨n, rfl⟩ : ∃ n : Nat, m = n := ⟨m.toNat, by omega⟩
    rw [Int.toNat_natCast] at hw hl
    have hn : 2048 ≤ n ∧ n < 65536 := by
      split at hl
      · simp at hl
      · split at hl
        · simp at hl
        · split at hl
          · omega
          · simp at hl
    rw [wrN_3 hn.1 hn.2] at hw
    simp only [List.cons.injEq, and_true] at hw
    obtain ⟨e0, e1, e2⟩ := hw
    refine ⟨by omega, by omega, by omega, by omega, by omega⟩
  · rintro ⟨g0, g1, g2, g3, g4⟩
    obtain ⟨n, rfl⟩ : ∃ n : Nat, m = n := ⟨m.toNat, by omega⟩
    have hn : n = b0 % 16 * 4096 + b1 % 64 * 64 + b2 % 64 := by omega
    refine ⟨⟨by omega, by omega, by omega⟩, ?_⟩
    rw [Int.toNat_natCast, wrN_3 (by omega) (by omega)]
    simp only [List.cons.injEq, and_true]
    refine ⟨by omega, by omega, by omega⟩
theorem hit4 (b0 b1 b2 b3 : Nat) (h1 : b1 < 256) (h2 : b2 < 256) {m : Int} (hm : m = ((((b0 : Int) - 240) * 64 + b1 - 128) * 64 + b2 - 128) * 64 + b3 - 128) :
    (charZ m ∧ wrN m.toNat = [b0, b1, b2, b3]) ↔ (b0 / 8 = 30 ∧ b1 / 64 = 2 ∧ b2 / 64 = 2 ∧ b3 / 64 = 2 ∧ b0 % 8 * 262144 + b1 % 64 * 4096 + b2 % 64 * 64 + b3 % 64 ≥ 65536 ∧ (b0 % 8 * 262144 + b1 % 64 * 4096 + b2 % 64 * 64 + b3 % 64 < 55296 ∨ (57344 ≤ b0 % 8 * 262144 + b1 % 64 * 4096 + b2 % 64 * 64 + b3 % 64 ∧ b0 % 8 * 262144 + b1 % 64 * 4096 + b2 % 64 * 64 + b3 % 64 ≤ 1114111))) := by
  constructor
  · rintro ⟨⟨hc, hc2, hc3⟩, hw⟩
    have hl := congrArg List.length hw
    rw [wrN_len] at hl
    obtain ⟨n, rfl⟩ : ∃ n : Nat, m = n := ⟨m.toNat, by omega⟩
    rw [Int.toNat_natCast] at hw hl
    have hn : 65536 ≤ n := by
      split at hl
      · simp at hl
      · split at hl
        · simp at hl
        · split at hl
          · simp at hl
          · omega
    rw [wrN_4 hn] at hw
    simp only [List.cons.injEq, and_true] at hw
    obtain ⟨e0, e1, e2, e3⟩ := hw
    refine ⟨by omega, by omega, by omega, by omega, by omega, by omega⟩
  · rintro ⟨g0, g1, g2, g3, g4, g5⟩
    obtain ⟨n, rfl⟩ : ∃ n : Nat, m = n := ⟨m.toNat, by omega⟩
    have hn : n = b0 % 8 * 262144 + b1 % 64 * 4096 + b2 % 64 * 64 + b3 % 64 := by omega
    refine ⟨⟨by omega, by omega, by omega⟩, ?_⟩
    rw [Int.toNat_natCast, wrN_4 (by omega)]
    simp only [List.cons.injEq, and_true]
    refine ⟨by omega, by omega, by omega, by omega⟩
end Go.Proofs.Ytckopbcpjecjhaa
