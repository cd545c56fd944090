/- A region that draws its order: readers first, in any order of ours; then those that make memory, one by one. -/
import Derived.Test.YtfbhonjndepjbaaDoorOrd
namespace Go.Proofs.YtfbhonjndepjbaaDoor
section
variable {P : Program} {ops : Array Oper} {Q : Exit → Act → World → Prop} {S : World → Prop} {E : Nat → Bool}

def wpM (P : Program) (ops : Array Oper) (Q : Exit → Act → World → Prop) (S : World → Prop) (E : Nat → Bool) (fuel : Nat) (listed : Array Bool) (a : Act) (w : World) : Prop := wpX P .any ops Q S E fuel listed a w
theorem wp_region_M (S : World → Prop) (E : Nat → Bool) {id : Nat} {a : Act} {w : World} (n : Nat) (hn : ops.size = n) (hm : P.follows .mixedOrders = true) (h : wpM P ops Q S E n (Array.replicate n false) a w.drew) : (Code.region id ops true).wp P Q a w := by
  subst hn
  exact wp_region_any hm (wpAny_of_X (S := S) (E := E) _ _ _ _ h)
theorem wpM_free (i : Nat) {o : Oper} {v : Value} {listed listed' : Array Bool} {fuel : Nat} {a : Act} {w : World} (ho : ops[i]? = some o) (hs : Region.noSelect ops = true)
    (hB : (Region.free .any ops listed i && (Region.ready .any ops listed).contains i && !(E i)) = true) (hL : listed.setIfInBounds i true = listed')
    (hQ : ∀ c a w, Q (.panic c) (a.put o.dst v) w → Q (.panic c) a w) (hw : Region.wanted o (yielded ops a.tmps) = true) (hy : ∀ w, (execOp a.eval o).run P w = .ok (.value v) w)
    (h : wpM P ops Q S E fuel listed' (a.put o.dst v) w) : wpM P ops Q S E (fuel + 1) listed a w := by
  subst hL
  simp only [Bool.and_eq_true, Bool.not_eq_true'] at hB
  exact wpX_firstW ho (Region.noSelect_spec hs) hQ hB.2 _ _ a w (Region.free_spec ho hB.1.1) (by simpa using hB.1.2) (.inl ⟨hw, fun w _ => hy w⟩) h
theorem wpM_held (i : Nat) {o : Oper} {v : Value} {listed listed' : Array Bool} {fuel : Nat} {a : Act} {w : World} (ho : ops[i]? = some o) (hs : Region.noSelect ops = true)
    (hB : (closedB .any ops listed && Region.free .any ops listed i && (Region.ready .any ops listed).contains i && lateB .any ops E listed i) = true) (hL : listed.setIfInBounds i true = listed')
    (hQ : ∀ c a w, Q (.panic c) (a.put o.dst v) w → Q (.panic c) a w) (hw : Region.wanted o (yielded ops a.tmps) = true) (hy : ∀ w, S w → (execOp a.eval o).run P w = .ok (.value v) w) (hS : S w)
    (h : wpM P ops Q S E fuel listed' (a.put o.dst v) w) : wpM P ops Q S E (fuel + 1) listed a w := by
  subst hL
  simp only [Bool.and_eq_true] at hB
  refine wpX_first ho (Region.noSelect_spec hs) hQ _ _ a w (closed_of_B hB.1.1.1) ?_ (Region.free_spec ho hB.1.1.2) (by simpa using hB.1.2) (.inl ⟨hw, hy⟩) hS h
  intro j oj hj hl hE hji
  have := List.all_eq_true.1 hB.2 j (List.mem_range.2 (Array.getElem?_eq_some_iff.1 hj).1)
  simpa [hE, hl, hji] using this
/-- What follows an operation. -/
def behindM (P : Program) (ops : Array Oper) (Q : Exit → Act → World → Prop) (S : World → Prop) (E : Nat → Bool) (i fuel : Nat) (listed : Array Bool) : Exit → Act → World → Prop
  | .normal, a, w => (E i = true → S w) ∧ wpM P ops Q S E fuel listed a w
  | e, a, w => Q e a w
theorem Oper.wp_behindM {o : Oper} {a : Act} {w : World} {K : Act → World → Prop} {i fuel : Nat} {listed : Array Bool} (h : o.wp P a w K (behindM P ops Q S E i fuel listed)) : o.wp P a w K Q := by
  unfold Oper.wp at *
  generalize (execOp a.eval o).run P w = r at *
  cases r with
  | ok n w' => cases n <;> simp only [Oper.upon] at h ⊢ <;> exact h
  | halt x w' => cases x <;> simp only [Oper.upon] at h ⊢ <;> exact h
theorem wpM_one (i : Nat) {o : Oper} {listed listed' : Array Bool} {fuel : Nat} {a : Act} {w : World} (ho : ops[i]? = some o) (hB : (Region.ready .any ops listed == [i]) = true) (hL : listed.setIfInBounds i true = listed')
    (h : wpList P ops (behindM P ops Q S E i fuel listed') [o] a w) : wpM P ops Q S E (fuel + 1) listed a w := by
  subst hL
  have hr : Region.ready .any ops listed = [i] := by simpa using hB
  refine ⟨fun h0 => (by rw [hr] at h0; cases h0), fun k hk => ?_⟩
  rw [hr, List.mem_singleton] at hk
  subst hk
  simp only [wpList] at h
  unfold wpOp
  simp only [ho]
  split
  · rename_i hw
    simp only [hw, if_true] at h
    refine h.imp (fun h2 => ?_) id
    exact Oper.wp_behindM (Oper.wp_mono (K := fun a' w' => behindM P ops Q S E k fuel (listed.setIfInBounds k true) .normal a' w') (fun a' w' h4 => h4) h2)
  · rename_i hw
    simp only [hw] at h
    exact h
theorem wpM_done {listed : Array Bool} {a : Act} {w : World} (hB : (Region.ready .any ops listed == []) = true) (h : Q .normal a w) : wpM P ops Q S E 0 listed a w := ⟨by simpa using hB, h⟩
end
end Go.Proofs.YtfbhonjndepjbaaDoor
