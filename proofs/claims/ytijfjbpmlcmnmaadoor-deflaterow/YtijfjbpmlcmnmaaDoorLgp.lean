/- The symbol that is told next adds what it should: the plain step. -/
import Derived.Test.YtijfjbpmlcmnmaaDoorRnq
namespace Go.Proofs.YtijfjbpmlcmnmaaDoor

def topOf (len : Int) (t : Nat) : Nat := (symOf len t).2 + 2 ^ bitsN (symOf len t).1 - 1
theorem sym_step (done : List Int) (len : Int) (t many : Nat) (h : 1 ≤ t) (hl : 0 ≤ len ∧ len ≤ 15) (hlast : 0 < len → 1 ≤ done.length ∧ done[done.length - 1]?.getD 0 = len) (hm : many = min t (topOf len t)) :
    1 ≤ many ∧ many ≤ t ∧ (symOf len t).2 ≤ many ∧ stepT done ((symOf len t).1, (many : Int) - ((symOf len t).2 : Int)) = some (done ++ List.replicate many len) := by
  unfold topOf at hm
  unfold symOf at *
  by_cases h1 : t < 3
  · rw [if_pos h1] at *
    have hb : bitsN len = 0 := by unfold bitsN; rw [if_neg (by omega), if_neg (by omega), if_neg (by omega)]
    simp only [hb] at hm
    obtain rfl : many = 1 := by simp at hm; omega
    refine ⟨by omega, by omega, by omega, ?_⟩
    unfold stepT
    rw [if_pos ⟨hl.1, by show len < 16; omega, by simp⟩]
    rfl
  · rw [if_neg h1] at *
    by_cases h2 : 0 < len
    · rw [if_pos h2] at *
      have hb : bitsN 16 = 2 := rfl
      simp only [hb] at hm
      have hm' : many = min t 6 := by simpa using hm
      refine ⟨by omega, by omega, by omega, ?_⟩
      unfold stepT
      rw [if_neg (by simp), if_pos ⟨rfl, by show (0 : Int) ≤ (many : Int) - 3; omega, by show (many : Int) - 3 ≤ 3; omega, (hlast h2).1⟩]
      show some (done ++ List.replicate (3 + ((many : Int) - 3)).toNat (done[done.length - 1]?.getD 0)) = _
      rw [(hlast h2).2, show (3 + ((many : Int) - 3)).toNat = many by omega]
    · rw [if_neg h2] at *
      obtain rfl : len = 0 := by omega
      by_cases h3 : t < 11
      · rw [if_pos h3] at *
        have hb : bitsN 17 = 3 := rfl
        simp only [hb] at hm
        have hm' : many = min t 10 := by simpa using hm
        refine ⟨by omega, by omega, by omega, ?_⟩
        unfold stepT
        rw [if_neg (by simp), if_neg (by simp), if_pos ⟨rfl, by show (0 : Int) ≤ (many : Int) - 3; omega, by show (many : Int) - 3 ≤ 7; omega⟩]
        show some (done ++ List.replicate (3 + ((many : Int) - 3)).toNat 0) = _
        rw [show (3 + ((many : Int) - 3)).toNat = many by omega]
      · rw [if_neg h3] at *
        have hb : bitsN 18 = 7 := rfl
        simp only [hb] at hm
        have hm' : many = min t 138 := by simpa using hm
        refine ⟨by omega, by omega, by omega, ?_⟩
        unfold stepT
        rw [if_neg (by simp), if_neg (by simp), if_neg (by simp), if_pos ⟨rfl, by show (0 : Int) ≤ (many : Int) - 11; omega, by show (many : Int) - 11 ≤ 127; omega⟩]
        show some (done ++ List.replicate (11 + ((many : Int) - 11)).toNat 0) = _
        rw [show (11 + ((many : Int) - 11)).toNat = many by omega]
end Go.Proofs.YtijfjbpmlcmnmaaDoor
