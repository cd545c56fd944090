/- Texts as lists of bytes, characters as numbers: what is written is read, what is read and right is written. -/
import Derived.Test.YtckopbcpjecjhaaUfp
namespace Go.Proofs.Ytckopbcpjecjhaa
open Go.Lib

/-- The character with which bytes begin, and how many it takes. -/
def decL (l : List Nat) : Nat × Nat := decodeN l.length (l.getD 0 0) (l.getD 1 0) (l.getD 2 0) (l.getD 3 0)
def Bys (l : List Nat) : Prop := ∀ x ∈ l, x < 256

theorem dec_wr (n : Nat) (hc : charZ n) (r : List Nat) : decL (wrN n ++ r) = (n, (wrN n).length) := by
  obtain ⟨_, h2, h3⟩ := hc
  by_cases c1 : n < 128
  · rw [wrN_1 c1]
    simp only [decL, decodeN, List.cons_append, List.nil_append, List.getD_cons_zero, List.length_cons, List.length_nil, c1, if_true]
  by_cases c2 : n < 2048
  · rw [wrN_2 (by omega) c2]
    simp only [decL, decodeN, List.cons_append, List.nil_append, List.getD_cons_zero, List.getD_cons_succ, List.length_cons, List.length_nil]
    rw [if_neg (by omega), if_pos (by omega), if_pos (by omega)]
    apply Prod.ext <;> simp only <;> omega
  by_cases c3 : n < 65536
  · rw [wrN_3 (by omega) c3]
    simp only [decL, decodeN, List.cons_append, List.nil_append, List.getD_cons_zero, List.getD_cons_succ, List.length_cons, List.length_nil]
    have e : (224 + n / 4096) % 16 * 4096 + (128 + n / 64 % 64) % 64 * 64 + (128 + n % 64) % 64 = n := by omega
    rw [if_neg (by omega), if_neg (by omega), if_pos (by omega), e, if_pos (by omega)]
  · rw [wrN_4 (by omega)]
    simp only [decL, decodeN, List.cons_append, List.nil_append, List.getD_cons_zero, List.getD_cons_succ, List.length_cons, List.length_nil]
    have e : (240 + n / 262144) % 8 * 262144 + (128 + n / 4096 % 64) % 64 * 4096 + (128 + n / 64 % 64) % 64 * 64 + (128 + n % 64) % 64 = n := by omega
    rw [if_neg (by omega), if_neg (by omega), if_neg (by omega), if_pos (by omega), e, if_pos (by omega)]

theorem dec_size (l : List Nat) : 1 ≤ (decL l).2 ∧ (decL l).2 ≤ 4 := by
  unfold decL decodeN
  repeat' split
  all_goals simp
/-- Bytes that begin a character: it is one, and they are as it is written. -/
theorem dec_ok {l : List Nat} (hb : Bys l) (hn : l ≠ []) (h : decL l ≠ (65533, 1)) : charZ ((decL l).1 : Nat) ∧ ∃ r, l = wrN (decL l).1 ++ r ∧ (wrN (decL l).1).length = (decL l).2 := by
  obtain ⟨b0, l1, rfl⟩ := List.exists_cons_of_ne_nil hn
  have h0 : b0 < 256 := hb b0 (by simp)
  unfold decL at h ⊢
  unfold decodeN at h ⊢
  simp only [List.getD_cons_zero, List.getD_cons_succ, List.length_cons] at h ⊢
  by_cases c1 : b0 < 128
  · rw [if_pos c1]
    exact ⟨⟨by simp only; omega, by simp only; omega, by simp only; omega⟩, l1, by rw [wrN_1 c1]; rfl, by rw [wrN_1 c1]; rfl⟩
  rw [if_neg c1] at h ⊢
  by_cases c2 : b0 / 32 = 6 ∧ 1 < l1.length + 1 ∧ l1.getD 0 0 / 64 = 2
  · rw [if_pos c2] at h ⊢
    obtain ⟨b1, l2, rfl⟩ := List.exists_cons_of_ne_nil (l := l1) (fun e => by subst e; simp at c2)
    simp only [List.getD_cons_zero] at h c2 ⊢
    by_cases d : b0 % 32 * 64 + b1 % 64 ≥ 128
    · rw [if_pos d]
      refine ⟨⟨by simp only; omega, by simp only; omega, by simp only; omega⟩, l2, ?_, ?_⟩
      all_goals simp only [wrN_2 d (by omega), List.cons_append, List.nil_append, List.cons.injEq, and_true, List.length_cons, List.length_nil]
      exact ⟨by omega, by omega⟩
    · rw [if_neg d] at h; exact absurd rfl h
  rw [if_neg c2] at h ⊢
  by_cases c3 : b0 / 16 = 14 ∧ (1 < l1.length + 1 ∧ l1.getD 0 0 / 64 = 2) ∧ 2 < l1.length + 1 ∧ l1.getD 1 0 / 64 = 2
  · rw [if_pos c3] at h ⊢
    obtain ⟨b1, l2, rfl⟩ := List.exists_cons_of_ne_nil (l := l1) (fun e => by subst e; simp at c3)
    obtain ⟨b2, l3, rfl⟩ := List.exists_cons_of_ne_nil (l := l2) (fun e => by subst e; simp at c3)
    simp only [List.getD_cons_zero, List.getD_cons_succ] at h c3 ⊢
    obtain ⟨n, hn⟩ : ∃ n, b0 % 16 * 4096 + b1 % 64 * 64 + b2 % 64 = n := ⟨_, rfl⟩
    rw [hn] at h ⊢
    by_cases d : n ≥ 2048 ∧ (n < 55296 ∨ 57344 ≤ n ∧ n ≤ 1114111)
    · rw [if_pos d]
      refine ⟨⟨by simp only; omega, by simp only; omega, by simp only; omega⟩, l3, ?_, ?_⟩
      all_goals simp only [wrN_3 d.1 (by omega), List.cons_append, List.nil_append, List.cons.injEq, and_true, List.length_cons, List.length_nil]
      exact ⟨by omega, by omega, by omega⟩
    · rw [if_neg d] at h; exact absurd rfl h
  rw [if_neg c3] at h ⊢
  by_cases c4 : b0 / 8 = 30 ∧ (1 < l1.length + 1 ∧ l1.getD 0 0 / 64 = 2) ∧ (2 < l1.length + 1 ∧ l1.getD 1 0 / 64 = 2) ∧ 3 < l1.length + 1 ∧ l1.getD 2 0 / 64 = 2
  · rw [if_pos c4] at h ⊢
    obtain ⟨b1, l2, rfl⟩ := List.exists_cons_of_ne_nil (l := l1) (fun e => by subst e; simp at c4)
    obtain ⟨b2, l3, rfl⟩ := List.exists_cons_of_ne_nil (l := l2) (fun e => by subst e; simp at c4)
    obtain ⟨b3, l4, rfl⟩ := List.exists_cons_of_ne_nil (l := l3) (fun e => by subst e; simp at c4)
    simp only [List.getD_cons_zero, List.getD_cons_succ] at h c4 ⊢
    obtain ⟨n, hn⟩ : ∃ n, b0 % 8 * 262144 + b1 % 64 * 4096 + b2 % 64 * 64 + b3 % 64 = n := ⟨_, rfl⟩
    rw [hn] at h ⊢
    by_cases d : n ≥ 65536 ∧ (n < 55296 ∨ 57344 ≤ n ∧ n ≤ 1114111)
    · rw [if_pos d]
      refine ⟨⟨by simp only; omega, by simp only; omega, by simp only; omega⟩, l4, ?_, ?_⟩
      all_goals simp only [wrN_4 d.1, List.cons_append, List.nil_append, List.cons.injEq, and_true, List.length_cons, List.length_nil]
      exact ⟨by omega, by omega, by omega, by omega⟩
    · rw [if_neg d] at h; exact absurd rfl h
  · rw [if_neg c4] at h; exact absurd rfl h
end Go.Proofs.Ytckopbcpjecjhaa
