import Derived.Test.YtinbilbgipfemaaDoorOrdM
import Derived.Test.YtinbilbgipfemaaDoorBrk
/- A region that draws its order, in a round of a range over a function; a writer with its row, apart of another. -/
namespace Go.Proofs.YtinbilbgipfemaaDoor
open Go.RowKit

section
variable {P : Program} {ops : Array Oper} {Q : Exit → Act → World → Prop} {n : Nat}
theorem wpOpIn_of_wpOp (hQ : ∀ a w, ¬ Q .outgrown a w) {i : Nat} {K : Act → World → Prop} {a : Act} {w : World} (h : wpOp P ops Q i K a w) : wpOpIn Fence.wide n P ops Q i K a w := by
  unfold wpOpIn
  unfold wpOp at h
  cases ho : ops[i]? with
  | none => simp only [ho] at h ⊢; exact h
  | some o =>
    simp only [ho] at h ⊢
    split
    · next hw =>
      rw [if_pos hw] at h
      rcases h with h | ⟨_, a', w', h⟩
      · refine ⟨fun _ _ => trivial, ?_⟩
        show Oper.uponIn _ _ _ _ _ _ _ ((execOp a.eval o).run P w)
        unfold Oper.wp at h
        generalize (execOp a.eval o).run P w = r at h
        cases r with
        | ok x w' =>
          cases x with
          | value v => exact h
          | skip => exact h
          | defer d => exact h
          | enter f args => exact ⟨fun h => (by cases h), callsIn_wide.2 h⟩
          | row r args => exact ⟨fun h => (by cases h), fun c cs _ => let ⟨v, w', r, s⟩ := h c cs; ⟨v, w', r, stepsIn_wide.2 s⟩⟩
          | _ => exact h.elim
        | halt x w' => cases x <;> first | exact h | exact h.elim
      · exact (hQ _ _ h).elim
    · next hw =>
      rw [if_neg hw] at h
      exact ⟨fun _ _ => trivial, h⟩
theorem wpAnyIn_of_any (hQ : ∀ a w, ¬ Q .outgrown a w) : ∀ (fuel : Nat) (listed : Array Bool) (a : Act) (w : World), wpAny P .any ops Q fuel listed a w → wpAnyIn Fence.wide n P .any ops Q fuel listed a w
  | 0, _, _, _, h => h
  | fuel + 1, _, _, _, h => ⟨h.1, fun i hi => wpOpIn_mono (fun a' w' h' => wpAnyIn_of_any hQ fuel _ a' w' h') (wpOpIn_of_wpOp hQ (h.2 i hi))⟩
end

section
variable {P : Program} {Q : Exit → Act → World → Prop} {n : Nat}
/-- As wp_region_M, in a round. -/
theorem wpIn_region_Mr {l : List Oper} (S : World → Prop) (E : Nat → Bool) {id lp : Nat} {a : Act} {w : World} (k : Nat) (hk : l.toArray.size = k) (hm : P.follows .mixedOrders = true) (hnd : plainOps l = true) (hQ : ∀ a w, ¬ Q .outgrown a w) (h : wpM P l.toArray Q S E k (Array.replicate k false) a w.drew) : (Code.region id l.toArray true).wpIn (Fence.wide.inRound lp) n P Q a w := by
  subst hk
  refine wpIn_region_any hm (wpAnyIn_inRound lp ?_ _ _ _ _ (wpAnyIn_of_any hQ _ _ _ _ (wpAny_of_X (S := S) (E := E) _ _ _ _ h)))
  intro i o ho c e
  have h1 : o ∈ l := by
    have := Array.mem_of_getElem? ho
    simpa using this
  have h2 := List.all_eq_true.1 hnd o h1
  rw [e] at h2
  cases h2
end

end Go.Proofs.YtinbilbgipfemaaDoor
