import Derived.Test.YtinbilbgipfemaaDoorRowkM
import Derived.Deep.Slices
import Derived.Lib.SmallJoins
/- Items that came in ([]Item), read item by item: three numbers each. -/
namespace Go.Proofs.YtinbilbgipfemaaDoor
open Go.ChangeShapes Go.WideShapes Go.ChangeAt Go.RowKit Go.Deep

/-- An item: a byte, or a copy. -/
structure It where
  b : Int
  l : Int
  d : Int

/-- The item r lies in three cells of block b, from o on. -/
structure ItAt (W : World) (b o : Nat) (r : It) : Prop where
  cb : W.cell? ⟨b, o, .none⟩ = some (.int .i64 r.b)
  cl : W.cell? ⟨b, o + 1, .none⟩ = some (.int .i64 r.l)
  cd : W.cell? ⟨b, o + 2, .none⟩ = some (.int .i64 r.d)

def It.wf (r : It) : Prop := (-9223372036854775808 ≤ r.b ∧ r.b ≤ 9223372036854775807) ∧ (-9223372036854775808 ≤ r.l ∧ r.l ≤ 9223372036854775807) ∧ (-9223372036854775808 ≤ r.d ∧ r.d ≤ 9223372036854775807)

theorem ItAt.kept {S : Nat → Prop} {A B : World} (h : Kept S A B) {b o : Nat} (hb : S b) {r : It} (x : ItAt A b o r) : ItAt B b o r :=
  ⟨(h.cell (p := ⟨b, o, .none⟩) hb).trans x.cb, (h.cell (p := ⟨b, o + 1, .none⟩) hb).trans x.cl, (h.cell (p := ⟨b, o + 2, .none⟩) hb).trans x.cd⟩

/-- Items, one behind the other, in a block of S. -/
def ItsIn (S : Nat → Prop) (W : World) (a : Option Addr) (its : List It) : Prop :=
  its = [] ∨ ∃ b off, a = some ⟨b, off, .none⟩ ∧ S b ∧ ∀ (j : Nat) (r : It), its[j]? = some r → ItAt W b (off + j * 3) r
theorem ItsIn.kept {S : Nat → Prop} {A B : World} (h : Kept S A B) {a : Option Addr} {its : List It} : ItsIn S A a its → ItsIn S B a its
  | .inl e => .inl e
  | .inr ⟨b, off, e, hb, hc⟩ => .inr ⟨b, off, e, hb, fun j r hj => (hc j r hj).kept h hb⟩

end Go.Proofs.YtinbilbgipfemaaDoor
/- Which items may stand behind so many bytes; which bytes items tell. -/
namespace Go.Proofs.YtinbilbgipfemaaDoor
open Go.RowKit

def It.val (r : It) : Value := .agg #[.int .i64 r.b, .int .i64 r.l, .int .i64 r.d]

set_option maxRecDepth 100000 in
set_option maxHeartbeats 1000000 in
theorem size_any (r : It) (w : World) : Calls Tryd.prog 25 #[r.val] w fun e w' => e = .returned (.int .i64 (max 1 r.l)) ∧ Below w.heap.size w w' := by
  obtain ⟨b, l, d⟩ := r
  unfold It.val
  simp only
  rcases Int.lt_trichotomy 1 l with h | h | h
  · have e1 : ¬ (l < 1) := by omega
    go_enter Tryd.func25, Tryd.ntmps25
    go_wp2
    go_ret
    exact ⟨by simp; omega, (Below.refl _ w).alloc (Nat.le_refl _) _⟩
  · subst h
    go_enter Tryd.func25, Tryd.ntmps25
    go_wp2
    go_ret
    exact ⟨by simp, (Below.refl _ w).alloc (Nat.le_refl _) _⟩
  · have e1 : ¬ (1 < l) := by omega
    go_enter Tryd.func25, Tryd.ntmps25
    go_wp2
    go_ret
    exact ⟨by simp; omega, (Below.refl _ w).alloc (Nat.le_refl _) _⟩
end Go.Proofs.YtinbilbgipfemaaDoor
