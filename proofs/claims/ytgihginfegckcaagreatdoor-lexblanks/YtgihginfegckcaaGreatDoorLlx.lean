import Derived.Test.YtgihginfegckcaaGreatDoorLpu
import Derived.Test.YtgihginfegckcaaGreatDoorOrdM
import Derived.Deep.CutBlock
import Derived.Deep.DeepCutAuto
import Derived.WalkMore
/- lex's Lex: a round's token. -/
namespace Go.Proofs.YtgihginfegckcaaGreatDoor
open Go.RowKit

def tcs (ts : List Tk) : List Value := ts.flatMap (fun t => t.cells.toList)
theorem tcs_len (ts : List Tk) : (tcs ts).length = ts.length * 10 := by
  induction ts with
  | nil => rfl
  | cons t r ih => unfold tcs at *; rw [List.flatMap_cons, List.length_append, ih]; simp [Tk.cells]; omega
theorem Row.drewR2 {W : World} {B : Nat} {t : TypeId} {cs : Array Value} (h : Row W B t cs) : Row W.drew B t cs := h
theorem tcs_snoc (ts : List Tk) (t : Tk) : tcs (ts ++ [t]) = tcs ts ++ t.cells.toList := by unfold tcs; simp
theorem lexG_blank {f : Nat} {a : UInt8} {r : List UInt8} {p : Nat} {acc : List Tk} (h : a = 32) : lexG (f + 1) (a :: r) p acc = lexG f r (p + 1) acc := by
  rw [lexG]; rw [if_pos h]
theorem lexG_tok {f : Nat} {a : UInt8} {r : List UInt8} {p : Nat} {acc : List Tk} (h : a ≠ 32) (h0 : (oneR (a :: r)).2.2 = 0) : lexG (f + 1) (a :: r) p acc = lexG f ((a :: r).drop (oneR (a :: r)).2.1) (p + (oneR (a :: r)).2.1) (acc ++ [(oneR (a :: r)).1.put p]) := by
  rw [lexG]; rw [if_neg h, if_pos h0]
theorem lexG_err {f : Nat} {a : UInt8} {r : List UInt8} {p : Nat} {acc : List Tk} (h : a ≠ 32) (h0 : (oneR (a :: r)).2.2 ≠ 0) : lexG (f + 1) (a :: r) p acc = ([], p, (oneR (a :: r)).2.2) := by
  rw [lexG]; rw [if_neg h, if_neg h0]
/-- What the calls of a round answer, for a text that begins with y. -/
structure OneC (y : UInt8) (R : List UInt8) (t : Tk) (n : Nat) (er : Int) (d1 d2 b5 : Bool) : Prop where
  dig : digL.contains y = d1
  bgn : bgnL.contains y = d2
  num : d1 = true → ∀ W, LexE W → Calls Tryz.prog 15 #[.string (bs R)] W fun e w' => e = tokR t n er ∧ Below W.heap.size W w'
  txt : d1 = false → y = 34 → ∀ W, LexE W → Calls Tryz.prog 16 #[.string (bs R)] W fun e w' => e = tokR t n er ∧ Below W.heap.size W w'
  sht : d1 = false → y = 39 → ∀ W, LexE W → Calls Tryz.prog 17 #[.string (bs R), .int .i64 ((quotedN R : Nat) : Int)] W fun e w' => e = tokR t n er ∧ Below W.heap.size W w'
  run : d1 = false → y ≠ 34 → y ≠ 39 → d2 = true → ∀ W, LexE W → Calls Tryz.prog 19 #[.string (bs R)] W fun e w' => e = tokR t n er ∧ Below W.heap.size W w'
  lost : Lib.hasPrefix R lostL = b5
  bad : d1 = false → y ≠ 34 → y ≠ 39 → d2 = false → b5 = true → t = ⟨6, 0, [], 0, 0, Rf.zero⟩ ∧ n = 5 ∧ er = 0
  mrk : d1 = false → y ≠ 34 → y ≠ 39 → d2 = false → b5 = false → ∀ W, LexE W → Calls Tryz.prog 21 #[.string (bs R)] W fun e w' => e = tokR t n er ∧ Below W.heap.size W w'
theorem oneC_of (y : UInt8) (r : List UInt8) (hl : (y :: r).length ≤ 1000000) : OneC y (y :: r) (oneR (y :: r)).1 (oneR (y :: r)).2.1 (oneR (y :: r)).2.2 (digL.contains y) (bgnL.contains y) (Lib.hasPrefix (y :: r) lostL) := by
  refine ⟨rfl, rfl, ?_, ?_, ?_, ?_, rfl, ?_, ?_⟩
  · intro h W _
    have e : oneR (y :: r) = numberR (y :: r) := by unfold oneR; simp only; rw [if_pos h]
    rw [e]
    exact number_any (y :: r) (by omega) W
  · intro h h2 W hW
    have e : oneR (y :: r) = textR (y :: r) := by unfold oneR; simp only [h, Bool.false_eq_true, if_false]; rw [if_pos h2]
    rw [e]
    exact text_any y r hl W hW
  · intro h h3 W _
    have e : oneR (y :: r) = onSheetR (y :: r) (quotedN (y :: r)) := by unfold oneR; simp only [h, Bool.false_eq_true, if_false]; rw [if_neg (by rw [h3]; decide), if_pos h3]
    rw [e]
    exact onSheet_any (y :: r) _ (by rcases quotedN_bd (y :: r) with e | e <;> omega) hl W
  · intro h h2 h3 h4 W _
    have e : oneR (y :: r) = runR (y :: r) := by unfold oneR; simp only [h, Bool.false_eq_true, if_false]; rw [if_neg h2, if_neg h3, if_pos h4]
    rw [e]
    exact run_any (y :: r) hl W
  · intro h h2 h3 h4 h5
    have e : oneR (y :: r) = (⟨6, 0, [], 0, 0, Rf.zero⟩, 5, 0) := by unfold oneR; simp only [h, Bool.false_eq_true, if_false]; rw [if_neg h2, if_neg h3]; simp only [h4, Bool.false_eq_true, if_false]; rw [if_pos h5]
    rw [e]
    exact ⟨rfl, rfl, rfl⟩
  · intro h h2 h3 h4 h5 W hW
    have e : oneR (y :: r) = (match markR (y :: r) with | some m => ((⟨5, 0, m, 0, 0, Rf.zero⟩ : Tk), m.length, (0 : Int)) | none => (Tk.zero, 0, 40)) := by unfold oneR; simp only [h, Bool.false_eq_true, if_false]; rw [if_neg h2, if_neg h3]; simp only [h4, h5, Bool.false_eq_true, if_false]; rfl
    have hm := mark_any (y :: r) W hW.marks
    rw [e]
    cases hq : markR (y :: r) with
    | none => rw [hq] at hm; exact hm
    | some m => rw [hq] at hm; exact hm
end Go.Proofs.YtgihginfegckcaaGreatDoor
