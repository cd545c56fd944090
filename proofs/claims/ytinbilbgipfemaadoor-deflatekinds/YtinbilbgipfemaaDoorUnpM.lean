import Derived.Test.YtinbilbgipfemaaDoorItsM
import Derived.Test.YtinbilbgipfemaaDoorMemM
import Derived.Test.YtinbilbgipfemaaDoorTabM
/- Unparse of the program: which bytes items tell. -/
namespace Go.Proofs.YtinbilbgipfemaaDoor
open Go.RowKit

/-- What has come: a row of the call's own. -/
def OutAt (B : Nat) (W : World) (v : Value) (os : List Int) : Prop := (∃ g c, v = .slice g os.length c) ∧ W.ownsRow B 5 1 v os.length (os.map (Value.int .u8))

theorem OutAt.nil (B : Nat) (W : World) : OutAt B W (.slice none 0 0) [] := ⟨⟨none, 0, rfl⟩, ⟨rfl, .inl ⟨rfl, rfl⟩⟩⟩

theorem OutAt.below {B : Nat} {W W' : World} {v : Value} {os : List Int} (h : OutAt B W v os) (hb : Below W.heap.size W W') : OutAt B W' v os := ⟨h.1, owns_kept (S := (· < W.heap.size)) h.2 (Kept.of_below hb (fun _ h => h)) (fun k hk => (h.2.lt k hk).2)⟩
theorem OutAt.alloc {B : Nat} {W : World} {v : Value} {os : List Int} (h : OutAt B W v os) (o : Obj) : OutAt B (W.alloc o) v os := h.below ((Below.refl _ W).alloc (Nat.le_refl _) o)

end Go.Proofs.YtinbilbgipfemaaDoor
/- Items of the call's own: a row that grows item by item. -/
namespace Go.Proofs.YtinbilbgipfemaaDoor
open Go.RowKit

theorem Tryd.info32 : (Tryd.prog.info? 32).map (fun i => (i.zero, i.size, i.bytes)) = some (some (.agg #[.int .i64 0, .int .i64 0, .int .i64 0]), 3, 24) := by kernel_rfl

/-- The cells of items. -/
def itCells : List It → List Value
  | [] => []
  | r :: rs => .int .i64 r.b :: .int .i64 r.l :: .int .i64 r.d :: itCells rs
theorem itCells_append (a b : List It) : itCells (a ++ b) = itCells a ++ itCells b := by
  induction a with
  | nil => rfl
  | cons r rs ih => simp [itCells, ih]
theorem itCells_at (its : List It) : ∀ (j : Nat) (r : It), its[j]? = some r → (itCells its)[j * 3]? = some (.int .i64 r.b) ∧ (itCells its)[j * 3 + 1]? = some (.int .i64 r.l) ∧ (itCells its)[j * 3 + 2]? = some (.int .i64 r.d) := by
  induction its with
  | nil => intro j r h; simp at h
  | cons q qs ih =>
    intro j r h
    cases j with
    | zero => simp at h; subst h; exact ⟨rfl, rfl, rfl⟩
    | succ j =>
      have := ih j r (by simpa using h)
      rw [show (j + 1) * 3 = j * 3 + 1 + 1 + 1 by omega]
      simpa [itCells] using this

def OwnIts (B : Nat) (W : World) (v : Value) (its : List It) : Prop := (∃ g c, v = .slice g its.length c) ∧ W.ownsRow B 32 3 v its.length (itCells its)
theorem OwnIts.nil (B : Nat) (W : World) : OwnIts B W (.slice none 0 0) [] := ⟨⟨none, 0, rfl⟩, ⟨rfl, .inl ⟨rfl, rfl⟩⟩⟩
theorem OwnIts.below {B : Nat} {W W' : World} {v : Value} {its : List It} (h : OwnIts B W v its) (hb : Below W.heap.size W W') : OwnIts B W' v its := ⟨h.1, owns_kept (S := (· < W.heap.size)) h.2 (Kept.of_below hb (fun _ h => h)) (fun k hk => (h.2.lt k hk).2)⟩
theorem OwnIts.alloc {B : Nat} {W : World} {v : Value} {its : List It} (h : OwnIts B W v its) (o : Obj) : OwnIts B (W.alloc o) v its := h.below ((Below.refl _ W).alloc (Nat.le_refl _) o)
theorem OwnIts.push {B : Nat} {W0 w w' : World} {v v' : Value} {its : List It} {r : It} (h : OwnIts B w v its) (hB : Below B W0 w) (ho : w'.ownsRow B 32 3 v' (its.length + 1) (itCells its ++ [.int .i64 r.b, .int .i64 r.l, .int .i64 r.d])) (hg : w.grownBy w' v.ownBlock) (hBs : B ≤ w.heap.size) :
    OwnIts B w' v' (its ++ [r]) ∧ Below B W0 w' := by
  refine ⟨⟨?_, ?_⟩, ?_⟩
  · obtain ⟨g, c, e⟩ := owns_form ho
    exact ⟨g, c, by rw [e, List.length_append]; rfl⟩
  · rw [List.length_append, itCells_append]
    exact ho
  · exact hB.trans ((((Kept.refl (· < B) w).grown hg (fun k hk => by have : k < B := hk; omega) (fun k hk hlt => by have := (h.2.lt k hk).1; have : k < B := hlt; omega))).below (fun _ h => h))
theorem OwnIts.items {B : Nat} {W : World} {g : Option Addr} {c : Nat} {its : List It} (h : OwnIts B W (.slice g its.length c) its) : ItsIn (· < W.heap.size) W g its := by
  rcases h.2.2 with ⟨h0, h1⟩ | ⟨gb, cap', cur, hv, hb', hg', _⟩
  · exact .inl (List.eq_nil_of_length_eq_zero h1)
  · simp only [Value.slice.injEq] at hv
    obtain ⟨rfl, -, rfl⟩ := hv
    refine .inr ⟨gb, 0, rfl, (Array.getElem?_eq_some_iff.1 hg').1, fun j r hj => ?_⟩
    obtain ⟨e0, e1, e2⟩ := itCells_at its j r hj
    have c0 := h.2.cells (g := gb) rfl _ _ e0
    have c1 := h.2.cells (g := gb) rfl _ _ e1
    have c2 := h.2.cells (g := gb) rfl _ _ e2
    rw [Go.WideShapes.add_plain] at c0 c1 c2
    exact ⟨c0, by rw [show 0 + j * 3 + 1 = 0 + (j * 3 + 1) by omega]; exact c1, by rw [show 0 + j * 3 + 2 = 0 + (j * 3 + 2) by omega]; exact c2⟩
end Go.Proofs.YtinbilbgipfemaaDoor
