/- The writer: putBit and Put write bits behind those that were written. -/
import Derived.Test.YtiheajlgaehfmaaDoorMem
import Derived.Test.YtiheajlgaehfmaaDoorApp
import Derived.OneCell
import Derived.RegionTactic
import Derived.ChangeAlike
import Derived.BigRegion
namespace Go.Proofs.YtiheajlgaehfmaaDoor
open Go.RowKit

theorem owns_set {w : World} {base : Nat} {e : TypeId} {g n cap : Nat} {xs : List Value} (h : w.ownsRow base e 1 (.slice (some ⟨g, 0, none⟩) n cap) n xs) (j : Nat) (u : Value) :
    (w.setCell ⟨g, j, none⟩ u).ownsRow base e 1 (.slice (some ⟨g, 0, none⟩) n cap) n (xs.set j u) := by
  refine ⟨by simpa using h.1, ?_⟩
  rcases h.2 with ⟨h0, _⟩ | ⟨g', cap', cur, hv, hb, hgb, h3, h4, h5, h6⟩
  · simp at h0
  · simp only [Value.slice.injEq, Option.some.injEq, true_and] at hv
    obtain ⟨hg, rfl⟩ := hv
    simp at hg
    subst hg
    obtain ⟨hlt, hk⟩ := Array.getElem?_eq_some_iff.1 hgb
    refine .inr ⟨g, cap, cur.setIfInBounds j u, rfl, hb, ?_, h3, h4, by simpa using h5, ?_⟩
    · show (w.heap.modify g _)[g]? = _
      rw [Array.getElem?_eq_getElem (by rw [Array.size_modify]; exact hlt), Array.getElem_modify_self, hk]
      rfl
    · rw [Array.toList_setIfInBounds, List.take_set, h6]

/-- A byte with one bit set in at place p. -/
def orB (y b : Int) (p : Nat) : Int := bits .or .u8 y (b * 2 ^ p % 256)

/-- The bytes behind one bit more. -/
def pushBit (ys : List Int) (sz : Nat) (b : Int) : List Int :=
  if sz % 8 = 0 then ys ++ [orB 0 b (sz % 8)] else ys.set (ys.length - 1) (orB (ys[ys.length - 1]?.getD 0) b (sz % 8))
theorem pushBit_length (ys : List Int) (sz : Nat) (b : Int) (h : ys.length = (sz + 7) / 8) : (pushBit ys sz b).length = (sz + 1 + 7) / 8 := by
  unfold pushBit
  split
  · simp only [List.length_append, List.length_cons, List.length_nil]; omega
  · simp only [List.length_set]; omega

theorem Two.other {W : World} {B : Nat} {t : TypeId} {v0 v1 : Value} (h : Two W B t v0 v1) {p : Addr} (hp : B ≠ p.block) (u : Value) : Two (W.setCell p u) B t v0 v1 := (Below.heap_setCell W p u B hp).trans h

/-- The bytes behind the lowest k bits of v. -/
def pushN (ys : List Int) (sz v : Nat) : Nat → List Int
  | 0 => ys
  | k + 1 => pushBit (pushN ys sz v k) (sz + k) ((v / 2 ^ k % 2 : Nat) : Int)
theorem pushN_length (ys : List Int) (sz v k : Nat) (h : ys.length = (sz + 7) / 8) : (pushN ys sz v k).length = (sz + k + 7) / 8 := by
  induction k with
  | zero => exact h
  | succ k ih => exact pushBit_length _ _ _ ih

end Go.Proofs.YtiheajlgaehfmaaDoor
