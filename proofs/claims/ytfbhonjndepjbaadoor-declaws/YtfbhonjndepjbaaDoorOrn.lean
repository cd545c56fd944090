/- Regions that draw their order: two and three ways; a region's end told by what holds. -/
import Derived.Test.YtfbhonjndepjbaaDoorOrm
namespace Go.Proofs.YtfbhonjndepjbaaDoor
section
variable {P : Program} {ops : Array Oper} {Q : Exit → Act → World → Prop} {S : World → Prop} {E : Nat → Bool}
theorem wpOp_of_M {i : Nat} {o : Oper} {a : Act} {w : World} {fuel : Nat} {listed' : Array Bool} (ho : ops[i]? = some o) (h : wpList P ops (behindM P ops Q S E i fuel listed') [o] a w) :
    wpOp P ops Q i (fun a' w' => (E i = true → S w') ∧ wpX P .any ops Q S E fuel listed' a' w') a w := by
  simp only [wpList] at h
  unfold wpOp
  simp only [ho]
  split
  · rename_i hw
    simp only [hw, if_true] at h
    refine h.imp (fun h2 => ?_) id
    exact Oper.wp_behindM (Oper.wp_mono (K := fun a' w' => behindM P ops Q S E i fuel listed' .normal a' w') (fun a' w' h4 => h4) h2)
  · rename_i hw
    simp only [hw] at h
    exact h
theorem wpM_two (i j : Nat) {o o' : Oper} {listed listed' listed'' : Array Bool} {fuel : Nat} {a : Act} {w : World} (ho : ops[i]? = some o) (ho' : ops[j]? = some o') (hB : (Region.ready .any ops listed == [i, j]) = true)
    (hL : listed.setIfInBounds i true = listed') (hL' : listed.setIfInBounds j true = listed'')
    (h : wpList P ops (behindM P ops Q S E i fuel listed') [o] a w) (h' : wpList P ops (behindM P ops Q S E j fuel listed'') [o'] a w) : wpM P ops Q S E (fuel + 1) listed a w := by
  subst hL hL'
  have hr : Region.ready .any ops listed = [i, j] := by simpa using hB
  refine ⟨fun h0 => (by rw [hr] at h0; cases h0), fun k hk => ?_⟩
  rw [hr] at hk
  simp only [List.mem_cons, List.not_mem_nil, or_false] at hk
  rcases hk with rfl | rfl
  · exact wpOp_of_M ho h
  · exact wpOp_of_M ho' h'
theorem wpM_three (i j l : Nat) {o o' o'' : Oper} {listed listed' listed'' listed3 : Array Bool} {fuel : Nat} {a : Act} {w : World} (ho : ops[i]? = some o) (ho' : ops[j]? = some o') (ho'' : ops[l]? = some o'') (hB : (Region.ready .any ops listed == [i, j, l]) = true)
    (hL : listed.setIfInBounds i true = listed') (hL' : listed.setIfInBounds j true = listed'') (hL'' : listed.setIfInBounds l true = listed3)
    (h : wpList P ops (behindM P ops Q S E i fuel listed') [o] a w) (h' : wpList P ops (behindM P ops Q S E j fuel listed'') [o'] a w) (h'' : wpList P ops (behindM P ops Q S E l fuel listed3) [o''] a w) : wpM P ops Q S E (fuel + 1) listed a w := by
  subst hL hL' hL''
  have hr : Region.ready .any ops listed = [i, j, l] := by simpa using hB
  refine ⟨fun h0 => (by rw [hr] at h0; cases h0), fun k hk => ?_⟩
  rw [hr] at hk
  simp only [List.mem_cons, List.not_mem_nil, or_false] at hk
  rcases hk with rfl | rfl | rfl
  · exact wpOp_of_M ho h
  · exact wpOp_of_M ho' h'
  · exact wpOp_of_M ho'' h''
/-- A fact that speaks of the region's own operations is shown first. -/
theorem wpM_with {n : Nat} {listed : Array Bool} {a : Act} {w : World} (Fin : Array Oper → (Exit → Act → World → Prop) → (World → Prop) → (Nat → Bool) → Prop) (hf : Fin ops Q S E) (hm : Fin ops Q S E → wpM P ops Q S E n listed a w) : wpM P ops Q S E n listed a w := hm hf
end
/-- A region's end: it runs through, and so it is. -/
def regEx (Φ : Act → World → Prop) : Exit → Act → World → Prop
  | .normal, a, w => Φ a w
  | _, _, _ => False
end Go.Proofs.YtfbhonjndepjbaaDoor
