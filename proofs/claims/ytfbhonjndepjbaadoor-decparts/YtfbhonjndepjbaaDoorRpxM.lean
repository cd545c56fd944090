import Derived.Test.YtfbhonjndepjbaaDoorPqzM
import Derived.Test.YtfbhonjndepjbaaDoorWdgM
import Derived.Deep.CutBlock
import Derived.Deep.DeepCutAuto
import Derived.Test.YtfbhonjndepjbaaDoorRrgM
import Derived.Test.YtfbhonjndepjbaaDoorWddM
import Derived.Test.YtfbhonjndepjbaaDoorRtxM
import Derived.Test.YtfbhonjndepjbaaDoorRcmM
import Derived.Test.YtfbhonjndepjbaaDoorWalM
import Derived.Test.YtfbhonjndepjbaaDoorWit
import Derived.Laws.StructEq
/- The document's Print. -/
namespace Go.Proofs.YtfbhonjndepjbaaDoor
open Go.RowKit

theorem Row.triQ {W : World} {B : Nat} {t : TypeId} {a b c : Value} (h : Row W B t #[a, b, c]) : W.cell? ⟨B, 0, none⟩ = some a ∧ W.cell? ⟨B, 1, none⟩ = some b ∧ W.cell? ⟨B, 2, none⟩ = some c := ⟨h.cell rfl, h.cell rfl, h.cell rfl⟩
theorem shl_abs (y : Wd) (k : Nat) : (sc y * 10 ^ k).natAbs = y.n * 10 ^ k := by
  rw [Int.natAbs_mul, Int.natAbs_pow, sc_abs]; rfl
theorem sign_shift (x : Int) : decide (x * 10 ^ 1 < 0) = decide (x < 0) := by
  rw [Int.pow_succ, Int.pow_zero, Int.one_mul]
  by_cases hs : x < 0
  · rw [decide_eq_true hs, decide_eq_true (by omega)]
  · rw [decide_eq_false hs, decide_eq_false (by omega)]
end Go.Proofs.YtfbhonjndepjbaaDoor
/- Round: the program's way (pure, and its answer for any Dec). -/
namespace Go.Proofs.YtfbhonjndepjbaaDoor

end Go.Proofs.YtfbhonjndepjbaaDoor
/- DecLooks' walk, given the document's Int. -/
namespace Go.Proofs.YtfbhonjndepjbaaDoor
open Go.RowKit

/-- What Int answers. -/
def intV (c e : Int) : Value := if -18 ≤ e ∧ e ≤ 18 then intW (decW c e) else .tuple #[.int .i64 0, .bool false]
end Go.Proofs.YtfbhonjndepjbaaDoor
/- What Int answers, by the number without its noughts (pure). -/
namespace Go.Proofs.YtfbhonjndepjbaaDoor

theorem int_nought (c e : Int) (he : within e) (h : c = 0) : intV c e = .tuple #[.int .i64 0, .bool true] := by
  subst h
  unfold intV
  rw [if_pos (show -18 ≤ e ∧ e ≤ 18 from he), show decW 0 e = ⟨false, 0, 0⟩ by simp [decW, shortW, numW]]
  unfold intW sc
  simp
theorem int_part (c e v : Int) (i : Nat) (he : within e) (h0 : e + (i : Int) < 0) (hc : c = v * 10 ^ i) (hv : v.natAbs % 10 ≠ 0) : intV c e = .tuple #[.int .i64 0, .bool false] := by
  obtain ⟨j, h1, h2, h3⟩ := dec_low c e he
  have hv0 : v ≠ 0 := by intro h; rw [h] at hv; exact hv rfl
  have hc0 : c ≠ 0 := by
    rw [hc]
    exact Int.mul_ne_zero hv0 (Int.ne_of_gt (Int.pow_pos (by decide)))
  have h4 := h2 hc0
  unfold intV intW
  rw [if_pos (show -18 ≤ e ∧ e ≤ 18 from he)]
  generalize decW c e = y at *
  rw [if_neg]
  rintro ⟨h5, _⟩
  obtain ⟨m, hm⟩ : ∃ m, j = m + 1 + i := ⟨j - i - 1, by omega⟩
  have h8 := hc.symm.trans h1
  rw [hm, Int.pow_add, ← Int.mul_assoc] at h8
  have h6 := Int.eq_of_mul_eq_mul_right (Int.ne_of_gt (Int.pow_pos (by decide) : (0 : Int) < 10 ^ i)) h8
  rw [Int.pow_succ, ← Int.mul_assoc] at h6
  omega
theorem int_whole (c e v : Int) (i : Nat) (he : within e) (hv : v ≠ 0) (hi : (0 ≤ e ∧ c * 10 ^ e.toNat = v) ∨ (e < 0 ∧ e + (i : Int) = 0 ∧ c = v * 10 ^ i)) : intV c e = if v.natAbs ≤ 9007199254740992 then .tuple #[.int .i64 v, .bool true] else .tuple #[.int .i64 0, .bool false] := by
  obtain ⟨j, h1, h2, h3⟩ := dec_low c e he
  have hc0 : c ≠ 0 := by
    intro h0
    rcases hi with ⟨_, h⟩ | ⟨_, _, h⟩
    · rw [h0, Int.zero_mul] at h; exact hv h.symm
    · rw [h0] at h; exact Int.mul_ne_zero hv (Int.ne_of_gt (Int.pow_pos (by decide))) h.symm
  have h4 := h2 hc0
  unfold intV intW
  rw [if_pos (show -18 ≤ e ∧ e ≤ 18 from he)]
  generalize decW c e = y at *
  have key : 0 ≤ y.e ∧ sc y * 10 ^ y.e.toNat = v := by
    rcases hi with ⟨g1, g3⟩ | ⟨g1, g2, g3⟩
    · refine ⟨by omega, ?_⟩
      rw [h4, show (e + (j : Int)).toNat = j + e.toNat by omega, Int.pow_add, ← Int.mul_assoc, ← h1, g3]
    · have h8 := g3.symm.trans h1
      by_cases hj : i ≤ j
      · refine ⟨by omega, ?_⟩
        obtain ⟨m, hm⟩ : ∃ m, j = m + i := ⟨j - i, by omega⟩
        rw [hm, Int.pow_add, ← Int.mul_assoc] at h8
        have h6 := Int.eq_of_mul_eq_mul_right (Int.ne_of_gt (Int.pow_pos (by decide) : (0 : Int) < 10 ^ i)) h8
        rw [h6, h4, show (e + (j : Int)).toNat = m by omega]
      · exfalso
        obtain ⟨m, hm⟩ : ∃ m, i = m + 1 + j := ⟨i - j - 1, by omega⟩
        rw [hm, Int.pow_add, ← Int.mul_assoc] at h8
        have h6 := Int.eq_of_mul_eq_mul_right (Int.ne_of_gt (Int.pow_pos (by decide) : (0 : Int) < 10 ^ j)) h8
        rw [Int.pow_succ, ← Int.mul_assoc] at h6
        have h7 := h3 (by omega)
        have h9 := sc_abs y
        omega
  rw [key.2]
  have hn : y.n * 10 ^ y.e.toNat = v.natAbs := by rw [← key.2]; exact (shl_abs _ _).symm
  rw [hn]
  by_cases h9 : v.natAbs ≤ 9007199254740992
  · rw [if_pos ⟨key.1, h9⟩, if_pos h9]
  · rw [if_neg (fun h => h9 h.2), if_neg h9]
end Go.Proofs.YtfbhonjndepjbaaDoor
