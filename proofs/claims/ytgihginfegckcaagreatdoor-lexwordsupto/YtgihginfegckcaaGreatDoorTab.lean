import Derived.Test.YtgihginfegckcaaGreatDoorRows
import Derived.Test.YtgihginfegckcaaGreatDoorBase
import Derived.WalkKit
import Derived.WalkSpells
import Derived.WalkLawsBesides
import Derived.Deep.QuietTactic
import Derived.BigQuiet
import Derived.Deep.WholeRow
import Derived.Laws.ResultCell
/- Counts of lengths: the table of fifteen numbers, how it is filled, loaded and stored whole. -/
namespace Go.Proofs.YtgihginfegckcaaGreatDoor
open Go.RowKit

/-- Block B is a row of cells. -/
def Row (W : World) (B : Nat) (t : TypeId) (cs : Array Value) : Prop := W.heap[B]? = some (.cells cs t (0, 0))
theorem Row.lt {W : World} {B : Nat} {t : TypeId} {cs : Array Value} (h : Row W B t cs) : B < W.heap.size := (Array.getElem?_eq_some_iff.1 h).1
theorem Row.cell {W : World} {B : Nat} {t : TypeId} {cs : Array Value} (h : Row W B t cs) {i : Nat} {v : Value} (hi : cs[i]? = some v) : W.cell? ⟨B, i, none⟩ = some v := by
  simp [World.cell?, show W.heap[B]? = _ from h, hi]
theorem Row.frozen {W : World} {B : Nat} {t : TypeId} {cs : Array Value} (h : Row W B t cs) (o : Nat) : W.frozen? ⟨B, o, none⟩ = false := by simp [World.frozen?, show W.heap[B]? = _ from h]
theorem Row.new (W : World) (t : TypeId) (cs : Array Value) : Row (W.alloc (.cells cs t)) W.heap.size t cs := World.alloc_heap_new W _
theorem Row.kept {S : Nat → Prop} {W W' : World} {B : Nat} {t : TypeId} {cs : Array Value} (h : Row W B t cs) (hk : Kept S W W') (hS : S B) : Row W' B t cs := (hk.block B hS).trans h
theorem Row.below {N : Nat} {W W' : World} {B : Nat} {t : TypeId} {cs : Array Value} (h : Row W B t cs) (hk : Below N W W') (hS : B < N) : Row W' B t cs := (hk.block B hS).trans h
theorem Row.alloc {W : World} {B : Nat} {t : TypeId} {cs : Array Value} (h : Row W B t cs) (o : Obj) : Row (W.alloc o) B t cs := (Below.heap_alloc W o B h.lt).trans h
theorem Row.set {W : World} {B : Nat} {t : TypeId} {cs : Array Value} (i : Nat) (v : Value) (h : Row W B t cs) : Row (W.setCell ⟨B, i, none⟩ v) B t (cs.setIfInBounds i v) := by
  obtain ⟨hlt, hk⟩ := Array.getElem?_eq_some_iff.1 h
  show (W.heap.modify B _)[B]? = _
  rw [Array.getElem?_eq_getElem (by rw [Array.size_modify]; exact hlt), Array.getElem_modify_self, hk]
  rfl
/-- The slice value sv holds the ints zs, in a block of S; or it has no element. -/
def IntsIn (S : Nat → Prop) (W : World) (sv : Value) (zs : List Int) : Prop :=
  (zs = [] ∧ ∃ a cap, sv = .slice a 0 cap) ∨
  ∃ b off cap, sv = .slice (some ⟨b, off, none⟩) zs.length cap ∧ S b ∧ ∀ j : Nat, j < zs.length → W.cell? ⟨b, off + j, none⟩ = some (.int .i64 (zs[j]?.getD 0))
theorem IntsIn.kept {S : Nat → Prop} {A B : World} (h : Kept S A B) {sv : Value} {zs : List Int} : IntsIn S A sv zs → IntsIn S B sv zs
  | .inl e => .inl e
  | .inr ⟨b, off, cap, e, hb, hc⟩ => .inr ⟨b, off, cap, e, hb, fun j hj => (h.cell (p := ⟨b, off + j, none⟩) hb).trans (hc j hj)⟩
theorem IntsIn.mono {S T : Nat → Prop} {A : World} (hT : ∀ k, S k → T k) {sv : Value} {zs : List Int} : IntsIn S A sv zs → IntsIn T A sv zs
  | .inl e => .inl e
  | .inr ⟨b, off, cap, e, hb, hc⟩ => .inr ⟨b, off, cap, e, hT _ hb, hc⟩
theorem IntsIn.below {N : Nat} {A B : World} (h : Below N A B) {sv : Value} {zs : List Int} (hi : IntsIn (· < N) A sv zs) : IntsIn (· < N) B sv zs := hi.kept (Kept.of_below h (fun _ h => h))
/-- The element at place k, as the walk asks it. -/
theorem IntsIn.at {S : Nat → Prop} {A : World} {a : Option Addr} {n cap : Nat} {zs : List Int} (h : IntsIn S A (.slice a n cap) zs) (k : Nat) (hk : k < zs.length) :
    ∃ b off, a = some ⟨b, off, none⟩ ∧ S b ∧ A.cell? ⟨b, off + k, none⟩ = some (.int .i64 (zs[k]?.getD 0)) := by
  rcases h with ⟨rfl, _⟩ | ⟨b, off, cap', e, hb, hc⟩
  · simp at hk
  · simp only [Value.slice.injEq] at e
    exact ⟨b, off, e.1, hb, hc k hk⟩

end Go.Proofs.YtgihginfegckcaaGreatDoor
