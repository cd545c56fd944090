/- A region that draws its order, with operations that make memory: the free ones are taken first, of the rest every order is met. -/
import Derived.Test.YtckopbcpjecjhaaOrd
namespace Go.Proofs.Ytckopbcpjecjhaa

section
variable {P : Program} {ops : Array Oper} {Q : Exit → Act → World → Prop}

def wpL (P : Program) (ops : Array Oper) (Q : Exit → Act → World → Prop) (fuel : Nat) (listed : Array Bool) (a : Act) (w : World) : Prop := wpX P .any ops Q (fun _ => True) (fun _ => false) fuel listed a w

theorem wp_region_L {id : Nat} {a : Act} {w : World} (n : Nat) (hn : ops.size = n) (hm : P.follows .mixedOrders = true) (h : wpL P ops Q n (Array.replicate n false) a w.drew) : (Code.region id ops true).wp P Q a w := by
  subst hn
  exact wp_region_any hm (wpAny_of_X (S := fun _ => True) (E := fun _ => false) _ _ _ _ h)

theorem wpL_free (i : Nat) {o : Oper} {v : Value} {listed listed' : Array Bool} {fuel : Nat} {a : Act} {w : World} (ho : ops[i]? = some o) (hs : Region.noSelect ops = true)
    (hB : (Region.free .any ops listed i && (Region.ready .any ops listed).contains i) = true) (hL : listed.setIfInBounds i true = listed')
    (hQ : ∀ c a w, Q (.panic c) (a.put o.dst v) w → Q (.panic c) a w) (hw : Region.wanted o (yielded ops a.tmps) = true) (hy : ∀ w, (execOp a.eval o).run P w = .ok (.value v) w)
    (h : wpL P ops Q fuel listed' (a.put o.dst v) w) : wpL P ops Q (fuel + 1) listed a w := by
  subst hL
  simp only [Bool.and_eq_true] at hB
  exact wpX_firstW ho (Region.noSelect_spec hs) hQ rfl _ _ a w (Region.free_spec ho hB.1) (by simpa using hB.2) (.inl ⟨hw, fun w _ => hy w⟩) h

/-- An operation that its guard passes over. -/
theorem wpL_skip (i : Nat) {o : Oper} {listed listed' : Array Bool} {fuel : Nat} {a : Act} {w : World} (ho : ops[i]? = some o) (hs : Region.noSelect ops = true)
    (hB : (Region.free .any ops listed i && (Region.ready .any ops listed).contains i) = true) (hL : listed.setIfInBounds i true = listed')
    (hQ : ∀ c a w, Q (.panic c) (a.put o.dst undef) w → Q (.panic c) a w) (hw : Region.wanted o (yielded ops a.tmps) = false)
    (h : wpL P ops Q fuel listed' (a.put o.dst undef) w) : wpL P ops Q (fuel + 1) listed a w := by
  subst hL
  simp only [Bool.and_eq_true] at hB
  exact wpX_firstW ho (Region.noSelect_spec hs) hQ rfl _ _ a w (Region.free_spec ho hB.1) (by simpa using hB.2) (.inr ⟨hw, rfl⟩) h

/-- What follows an operation. -/
def behindL (P : Program) (ops : Array Oper) (Q : Exit → Act → World → Prop) (fuel : Nat) (listed : Array Bool) : Exit → Act → World → Prop
  | .normal, a, w => wpL P ops Q fuel listed a w
  | e, a, w => Q e a w
theorem Oper.wp_behindL {o : Oper} {a : Act} {w : World} {K : Act → World → Prop} {fuel : Nat} {listed : Array Bool} (h : o.wp P a w K (behindL P ops Q fuel listed)) : o.wp P a w K Q := by
  unfold Oper.wp at *
  generalize (execOp a.eval o).run P w = r at *
  cases r with
  | ok n w' => cases n <;> simp only [Oper.upon] at h ⊢ <;> exact h
  | halt x w' => cases x <;> simp only [Oper.upon] at h ⊢ <;> exact h
theorem wpOp_of_L {i : Nat} {o : Oper} {a : Act} {w : World} {fuel : Nat} {listed' : Array Bool} (ho : ops[i]? = some o) (h : wpList P ops (behindL P ops Q fuel listed') [o] a w) :
    wpOp P ops Q i (fun a' w' => ((fun _ => false) i = true → True) ∧ wpX P .any ops Q (fun _ => True) (fun _ => false) fuel listed' a' w') a w := by
  simp only [wpList] at h
  unfold wpOp
  simp only [ho]
  split
  · rename_i hw
    simp only [hw, if_true] at h
    refine h.imp (fun h2 => ?_) id
    exact Oper.wp_behindL (Oper.wp_mono (K := fun a' w' => behindL P ops Q fuel listed' .normal a' w') (fun a' w' h4 => ⟨fun _ => trivial, h4⟩) h2)
  · rename_i hw
    simp only [hw] at h
    exact ⟨fun _ => trivial, h⟩

theorem wpL_one (i : Nat) {o : Oper} {listed listed' : Array Bool} {fuel : Nat} {a : Act} {w : World} (ho : ops[i]? = some o) (hB : (Region.ready .any ops listed == [i]) = true) (hL : listed.setIfInBounds i true = listed')
    (h : wpList P ops (behindL P ops Q fuel listed') [o] a w) : wpL P ops Q (fuel + 1) listed a w := by
  subst hL
  have hr : Region.ready .any ops listed = [i] := by simpa using hB
  refine ⟨fun h0 => (by rw [hr] at h0; cases h0), fun k hk => ?_⟩
  rw [hr, List.mem_singleton] at hk
  subst hk
  exact wpOp_of_L ho h
theorem wpL_two (i j : Nat) {o o' : Oper} {listed listed' listed'' : Array Bool} {fuel : Nat} {a : Act} {w : World} (ho : ops[i]? = some o) (ho' : ops[j]? = some o') (hB : (Region.ready .any ops listed == [i, j]) = true)
    (hL : listed.setIfInBounds i true = listed') (hL' : listed.setIfInBounds j true = listed'')
    (h : wpList P ops (behindL P ops Q fuel listed') [o] a w) (h' : wpList P ops (behindL P ops Q fuel listed'') [o'] a w) : wpL P ops Q (fuel + 1) listed a w := by
  subst hL hL'
  have hr : Region.ready .any ops listed = [i, j] := by simpa using hB
  refine ⟨fun h0 => (by rw [hr] at h0; cases h0), fun k hk => ?_⟩
  rw [hr] at hk
  simp only [List.mem_cons, List.not_mem_nil, or_false] at hk
  rcases hk with rfl | rfl
  · exact wpOp_of_L ho h
  · exact wpOp_of_L ho' h'
theorem wpL_done {listed : Array Bool} {a : Act} {w : World} (hB : (Region.ready .any ops listed == []) = true) (h : Q .normal a w) : wpL P ops Q 0 listed a w := ⟨by simpa using hB, h⟩
end
end Go.Proofs.Ytckopbcpjecjhaa
