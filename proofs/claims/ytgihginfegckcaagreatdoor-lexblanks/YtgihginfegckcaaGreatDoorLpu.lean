import Derived.Test.YtgihginfegckcaaGreatDoorLtxM
/- lex's tokens, one behind the other (pure). -/
namespace Go.Proofs.YtgihginfegckcaaGreatDoor
open Go.RowKit

/-- The signs that a word begins with. -/
def bgnL : List UInt8 := [65, 66, 67, 68, 69, 70, 71, 72, 73, 74, 75, 76, 77, 78, 79, 80, 81, 82, 83, 84, 85, 86, 87, 88, 89, 90, 97, 98, 99, 100, 101, 102, 103, 104, 105, 106, 107, 108, 109, 110, 111, 112, 113, 114, 115, 116, 117, 118, 119, 120, 121, 122, 95, 36]
def lostL : List UInt8 := [35, 82, 69, 70, 33]
/-- The token that a text begins with, how many signs it has, or what is wrong. -/
def oneR (l : List UInt8) : Tk × Nat × Int := match l with
  | [] => (Tk.zero, 0, 40)
  | a :: r => if digL.contains a then numberR (a :: r) else if a = 34 then textR (a :: r) else if a = 39 then onSheetR (a :: r) (quotedN (a :: r)) else if bgnL.contains a then runR (a :: r)
    else if Lib.hasPrefix (a :: r) lostL then (⟨6, 0, [], 0, 0, Rf.zero⟩, 5, 0) else match markR (a :: r) with
      | some m => (⟨5, 0, m, 0, 0, Rf.zero⟩, m.length, 0)
      | none => (Tk.zero, 0, 40)
def Tk.put (t : Tk) (p : Nat) : Tk := ⟨t.k, (p : Int), t.s, t.c, t.e, t.r⟩
/-- The tokens behind a place, the ones ahead of it being there. -/
def lexG : Nat → List UInt8 → Nat → List Tk → List Tk × Nat × Int
  | 0, _, _, acc => (acc, 0, 0)
  | _ + 1, [], _, acc => (acc, 0, 0)
  | f + 1, a :: r, p, acc => if a = 32 then lexG f r (p + 1) acc else if (oneR (a :: r)).2.2 = 0 then lexG f ((a :: r).drop (oneR (a :: r)).2.1) (p + (oneR (a :: r)).2.1) (acc ++ [(oneR (a :: r)).1.put p]) else ([], p, (oneR (a :: r)).2.2)
def lexR (l : List UInt8) : List Tk × Nat × Int := if 512 < l.length then ([], 0, 3) else lexG (l.length + 1) l 0 []
theorem pre_len {l p : List UInt8} (h : Lib.hasPrefix l p = true) : p.length ≤ l.length := by
  unfold Lib.hasPrefix at h
  exact (List.isPrefixOf_iff_prefix.1 h).length_le
theorem ahead_pos {a : UInt8} {r cs : List UInt8} (h : cs.contains a = true) : 1 ≤ (aheadL (a :: r) cs).length := by
  unfold aheadL
  rw [List.takeWhile_cons, if_pos h]
  simp
theorem marks_pos : ∀ m ∈ marksL, 1 ≤ m.length := by decide
theorem bgn_wth : bgnL.all (fun b => wthL.contains b) = true := by decide
theorem onSheetR_adv {l : List UInt8} {n : Nat} (hn : n ≤ l.length) (h : (onSheetR l n).2.2 = 0) : 1 ≤ (onSheetR l n).2.1 ∧ (onSheetR l n).2.1 ≤ l.length := by
  unfold onSheetR at h ⊢
  cases hp : Lib.hasPrefix (l.drop n) [33]
  · rw [hp] at h; simp at h
  · simp only [if_true]
    have h1 := pre_len hp
    have ha := ahead_len (Lib.trimPrefix (l.drop n) [33]) plcL
    have ht : (Lib.trimPrefix (l.drop n) [33]).length + n + 1 = l.length := by
      unfold Lib.trimPrefix
      rw [hp]
      simp only [if_true, List.length_drop, List.length_cons, List.length_nil] at h1 ⊢
      omega
    unfold shN
    omega
theorem oneR_adv {l : List UInt8} (h : (oneR l).2.2 = 0) : 1 ≤ (oneR l).2.1 ∧ (oneR l).2.1 ≤ l.length := by
  cases l with
  | nil => simp [oneR] at h
  | cons a r =>
    unfold oneR at h ⊢
    simp only at h ⊢
    by_cases h1 : digL.contains a = true
    · rw [if_pos h1] at h ⊢
      have g0 : (numA (a :: r)).length < (a :: r).length := by
        unfold numA pastD
        have hp := ahead_pos (r := r) h1
        have ha := ahead_len (a :: r) digL
        rw [if_neg (by intro e; rw [List.isEmpty_iff] at e; rw [e] at hp; simp at hp)]
        omega
      have g1 := cutO_len (numA (a :: r)) [46]
      have g2 : (numB (a :: r)).length ≤ (numA (a :: r)).length := by
        unfold numB
        split
        · exact pastD_len _ _ g1
        · exact Nat.le_refl _
      have g3 := cutO_len (numB (a :: r)) [69, 101]
      have g4 := cutO_len (cutO (numB (a :: r)) [69, 101]).1 [43, 45]
      have g5 : (numC (a :: r)).length ≤ (numB (a :: r)).length := by
        unfold numC
        split
        · exact pastD_len _ _ (by omega)
        · exact Nat.le_refl _
      unfold numberR numN
      simp only
      omega
    · rw [if_neg h1] at h ⊢
      by_cases h2 : a = 34
      · rw [if_pos h2] at h ⊢
        have hb := quotedN_bd (a :: r)
        unfold textR at h ⊢
        by_cases h0 : quotedN (a :: r) = 0
        · rw [if_pos h0] at h; simp at h
        · rw [if_neg h0] at h ⊢
          by_cases hI : 255 < (innerL (a :: r)).length
          · rw [if_pos hI] at h; simp at h
          · rw [if_neg hI]
            simp only
            omega
      · rw [if_neg h2] at h ⊢
        by_cases h3 : a = 39
        · rw [if_pos h3] at h ⊢
          exact onSheetR_adv (by rcases quotedN_bd (a :: r) with e | e <;> omega) h
        · rw [if_neg h3] at h ⊢
          by_cases h4 : bgnL.contains a = true
          · rw [if_pos h4] at h ⊢
            have hw : wthL.contains a = true := List.all_eq_true.1 bgn_wth a (by simpa using h4)
            have hp := ahead_pos (r := r) hw
            have ha := ahead_len (a :: r) wthL
            unfold runR at h ⊢
            generalize (Lib.hasPrefix (behindL (a :: r) wthL) [33] && !Lib.containsAny (aheadL (a :: r) wthL) [36, 46]) = q1 at h ⊢
            generalize (!decide ((parseR (aheadL (a :: r) wthL)).2 = 40) && !Lib.hasPrefix (behindL (a :: r) wthL) [40]) = q2 at h ⊢
            generalize (aheadL (a :: r) wthL).contains 36 = q3 at h ⊢
            cases q1
            · cases q2
              · cases q3
                · simp only [Bool.false_eq_true, if_false]; omega
                · simp at h
              · simp only [Bool.false_eq_true, if_false, if_true]; omega
            · simp only [if_true] at h ⊢
              exact onSheetR_adv (by omega) h
          · rw [if_neg h4] at h ⊢
            by_cases h5 : Lib.hasPrefix (a :: r) lostL = true
            · rw [if_pos h5] at h ⊢
              have := pre_len h5
              simp only [lostL, List.length_cons, List.length_nil] at this ⊢
              omega
            · rw [if_neg h5] at h ⊢
              cases hm : markR (a :: r) with
              | none => rw [hm] at h; simp at h
              | some m =>
                simp only
                unfold markR at hm
                have hx := List.find?_some hm
                have := pre_len hx
                exact ⟨marks_pos m (List.mem_of_find?_eq_some hm), this⟩
end Go.Proofs.YtgihginfegckcaaGreatDoor
