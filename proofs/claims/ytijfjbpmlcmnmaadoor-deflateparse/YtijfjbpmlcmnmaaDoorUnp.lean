/- Unparse of the program: which bytes items tell. -/
import Derived.Test.YtijfjbpmlcmnmaaDoorFit
import Derived.Test.YtijfjbpmlcmnmaaDoorPut
import Derived.Test.YtijfjbpmlcmnmaaDoorTab
namespace Go.Proofs.YtijfjbpmlcmnmaaDoor
open Go.RowKit

/-- What stands behind a copy of k bytes. -/
def copyS (os : List Int) (far : Nat) : Nat → List Int
  | 0 => os
  | k + 1 => copyS os far k ++ [(copyS os far k)[(copyS os far k).length - far]?.getD 0]
theorem copyS_length (os : List Int) (far k : Nat) : (copyS os far k).length = os.length + k := by
  induction k with
  | zero => rfl
  | succ k ih => simp [copyS, ih]; omega
theorem copyS_bytes (os : List Int) (far k : Nat) (h : AreBytes os) : AreBytes (copyS os far k) := by
  induction k with
  | zero => exact h
  | succ k ih =>
    intro j
    show 0 ≤ (copyS os far k ++ [_])[j]?.getD 0 ∧ (copyS os far k ++ [_])[j]?.getD 0 ≤ 255
    rw [List.getElem?_append]
    split
    · exact ih j
    · cases j - (copyS os far k).length with
      | zero => exact ih _
      | succ m => simp
theorem push_bytes (os : List Int) (b : Int) (h : AreBytes os) (h0 : 0 ≤ b) (h1 : b ≤ 255) : AreBytes (os ++ [b]) := by
  intro j
  rw [List.getElem?_append]
  split
  · exact h j
  · cases j - os.length with
    | zero => exact ⟨h0, h1⟩
    | succ m => simp

/-- One item more. -/
def unpStep (os : List Int) (r : It) : Option (List Int) :=
  if r.fits os.length = true ∧ max 1 r.l ≤ 1048576 - (os.length : Int) then some (if r.l = 0 then os ++ [r.b] else copyS os r.d.toNat r.l.toNat) else none
def unpS : List It → List Int → Option (List Int)
  | [], os => some os
  | r :: rs, os => match unpStep os r with
    | some os' => unpS rs os'
    | none => none
theorem unpS_step {its : List It} {i : Nat} {r : It} (h : its[i]? = some r) (os : List Int) : unpS (its.drop i) os = match unpStep os r with
    | some os' => unpS (its.drop (i + 1)) os'
    | none => none := by
  obtain ⟨hi, rfl⟩ := List.getElem?_eq_some_iff.1 h
  rw [List.drop_eq_getElem_cons hi]
  rfl

/-- What has come: a row of the call's own. -/
def OutAt (B : Nat) (W : World) (v : Value) (os : List Int) : Prop := (∃ g c, v = .slice g os.length c) ∧ W.ownsRow B 5 1 v os.length (os.map (Value.int .u8))

theorem OutAt.nil (B : Nat) (W : World) : OutAt B W (.slice none 0 0) [] := ⟨⟨none, 0, rfl⟩, ⟨rfl, .inl ⟨rfl, rfl⟩⟩⟩

theorem OutAt.below {B : Nat} {W W' : World} {v : Value} {os : List Int} (h : OutAt B W v os) (hb : Below W.heap.size W W') : OutAt B W' v os := ⟨h.1, owns_kept (S := (· < W.heap.size)) h.2 (Kept.of_below hb (fun _ h => h)) (fun k hk => (h.2.lt k hk).2)⟩
theorem OutAt.alloc {B : Nat} {W : World} {v : Value} {os : List Int} (h : OutAt B W v os) (o : Obj) : OutAt B (W.alloc o) v os := h.below ((Below.refl _ W).alloc (Nat.le_refl _) o)

/-- What stands where the append is through. -/
theorem out_push {B : Nat} {W0 w w' : World} {v v' : Value} {os : List Int} {b : Int} (h : OutAt B w v os) (hB : Below B W0 w) (ho : w'.ownsRow B 5 1 v' (os.length + 1) (os.map (Value.int .u8) ++ [.int .u8 b])) (hg : w.grownBy w' v.ownBlock) (hBs : B ≤ w.heap.size) :
    OutAt B w' v' (os ++ [b]) ∧ Below B W0 w' ∧ ∀ K t cs, Row w K t cs → t ≠ 5 → Row w' K t cs := by
  refine ⟨⟨?_, ?_⟩, ?_, ?_⟩
  · obtain ⟨g, c, e⟩ := owns_form ho
    exact ⟨g, c, by rw [e, List.length_append]; rfl⟩
  · rw [List.length_append, List.map_append]
    exact ho
  · exact hB.trans ((((Kept.refl (· < B) w).grown hg (fun k hk => by have : k < B := hk; omega) (fun k hk hlt => by have := (h.2.lt k hk).1; have : k < B := hlt; omega))).below (fun _ h => h))
  · intro K t cs hR hne
    refine (hg.block K hR.lt ?_).trans hR
    intro e
    rcases h.2.2 with ⟨h0, _⟩ | ⟨g2, cap2, cur, hv, hb2, hgb, _⟩
    · rw [h0] at e; simp [Value.ownBlock] at e
    · rw [hv] at e
      simp [Value.ownBlock] at e
      subst e
      have := hgb.symm.trans hR
      simp at this
      exact hne this.2.symm
end Go.Proofs.YtijfjbpmlcmnmaaDoor
