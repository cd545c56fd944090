/- Counts of lengths: the table of fifteen numbers, how it is filled, loaded and stored whole. -/
import Derived.Test.YtibnafngkcpafaaGreatDoorRows
import Derived.Test.YtibnafngkcpafaaGreatDoorBase
import Derived.WalkKit
import Derived.WalkSpells
import Derived.WalkLawsBesides
import Derived.Deep.QuietTactic
import Derived.BigQuiet
import Derived.Deep.WholeRow
import Derived.Laws.ResultCell
namespace Go.Proofs.YtibnafngkcpafaaGreatDoor
open Go.RowKit

/-- Block B is a row of cells. -/
def Row (W : World) (B : Nat) (t : TypeId) (cs : Array Value) : Prop := W.heap[B]? = some (.cells cs t (0, 0))
theorem Row.lt {W : World} {B : Nat} {t : TypeId} {cs : Array Value} (h : Row W B t cs) : B < W.heap.size := (Array.getElem?_eq_some_iff.1 h).1
theorem Row.cell {W : World} {B : Nat} {t : TypeId} {cs : Array Value} (h : Row W B t cs) {i : Nat} {v : Value} (hi : cs[i]? = some v) : W.cell? ⟨B, i, none⟩ = some v := by
  simp [World.cell?, show W.heap[B]? = _ from h, hi]
theorem Row.frozen {W : World} {B : Nat} {t : TypeId} {cs : Array Value} (h : Row W B t cs) (o : Nat) : W.frozen? ⟨B, o, none⟩ = false := by simp [World.frozen?, show W.heap[B]? = _ from h]
theorem Row.new (W : World) (t : TypeId) (cs : Array Value) : Row (W.alloc (.cells cs t)) W.heap.size t cs := World.alloc_heap_new W _
theorem Row.kept {S : Nat → Prop} {W W' : World} {B : Nat} {t : TypeId} {cs : Array Value} (h : Row W B t cs) (hk : Kept S W W') (hS : S B) : Row W' B t cs := (hk.block B hS).trans h
theorem Row.below {N : Nat} {W W' : World} {B : Nat} {t : TypeId} {cs : Array Value} (h : Row W B t cs) (hk : Below N W W') (hS : B < N) : Row W' B t cs := (hk.block B hS).trans h
theorem Row.alloc {W : World} {B : Nat} {t : TypeId} {cs : Array Value} (h : Row W B t cs) (o : Obj) : Row (W.alloc o) B t cs := (Below.heap_alloc W o B h.lt).trans h
theorem Row.set {W : World} {B : Nat} {t : TypeId} {cs : Array Value} (i : Nat) (v : Value) (h : Row W B t cs) : Row (W.setCell ⟨B, i, none⟩ v) B t (cs.setIfInBounds i v) := by
  obtain ⟨hlt, hk⟩ := Array.getElem?_eq_some_iff.1 h
  show (W.heap.modify B _)[B]? = _
  rw [Array.getElem?_eq_getElem (by rw [Array.size_modify]; exact hlt), Array.getElem_modify_self, hk]
  rfl
theorem Row.setRow {W : World} {B : Nat} {t : TypeId} {cs : Array Value} (cs' : Array Value) (h : Row W B t cs) : Row (W.setRow B cs') B t cs' := by
  obtain ⟨hlt, hk⟩ := Array.getElem?_eq_some_iff.1 h
  show (W.heap.modify B _)[B]? = _
  rw [Array.getElem?_eq_getElem (by rw [Array.size_modify]; exact hlt), Array.getElem_modify_self, hk]
theorem heap_setRow (W : World) (B : Nat) (cs : Array Value) (k : Nat) (hk : k ≠ B) : (W.setRow B cs).heap[k]? = W.heap[k]? := by
  show (W.heap.modify B _)[k]? = _
  rw [Array.getElem?_modify, if_neg (fun e => hk e.symm)]
theorem Kept.setRow {S : Nat → Prop} {a w : World} (h : Kept S a w) {B : Nat} (hB : ¬ S B) (cs : Array Value) : Kept S a (w.setRow B cs) :=
  h.trans ⟨rfl, rfl, rfl, by simp [World.setRow], fun k hk => heap_setRow w B cs k (fun e => hB (e ▸ hk))⟩
theorem below_setRow {N : Nat} {a w : World} (h : Below N a w) {B : Nat} (hB : N ≤ B) (cs : Array Value) : Below N a (w.setRow B cs) :=
  ((Kept.of_below (S := (· < N)) h (fun _ h => h)).setRow (fun (e : B < N) => absurd e (by omega)) cs).below (fun _ h => h)

/-- The slice value sv holds the ints zs, in a block of S; or it has no element. -/
def IntsIn (S : Nat → Prop) (W : World) (sv : Value) (zs : List Int) : Prop :=
  (zs = [] ∧ ∃ a cap, sv = .slice a 0 cap) ∨
  ∃ b off cap, sv = .slice (some ⟨b, off, none⟩) zs.length cap ∧ S b ∧ ∀ j : Nat, j < zs.length → W.cell? ⟨b, off + j, none⟩ = some (.int .i64 (zs[j]?.getD 0))
theorem IntsIn.kept {S : Nat → Prop} {A B : World} (h : Kept S A B) {sv : Value} {zs : List Int} : IntsIn S A sv zs → IntsIn S B sv zs
  | .inl e => .inl e
  | .inr ⟨b, off, cap, e, hb, hc⟩ => .inr ⟨b, off, cap, e, hb, fun j hj => (h.cell (p := ⟨b, off + j, none⟩) hb).trans (hc j hj)⟩
theorem IntsIn.mono {S T : Nat → Prop} {A : World} (hT : ∀ k, S k → T k) {sv : Value} {zs : List Int} : IntsIn S A sv zs → IntsIn T A sv zs
  | .inl e => .inl e
  | .inr ⟨b, off, cap, e, hb, hc⟩ => .inr ⟨b, off, cap, e, hT _ hb, hc⟩
theorem IntsIn.below {N : Nat} {A B : World} (h : Below N A B) {sv : Value} {zs : List Int} (hi : IntsIn (· < N) A sv zs) : IntsIn (· < N) B sv zs := hi.kept (Kept.of_below h (fun _ h => h))
/-- The element at place k, as the walk asks it. -/
theorem IntsIn.at {S : Nat → Prop} {A : World} {a : Option Addr} {n cap : Nat} {zs : List Int} (h : IntsIn S A (.slice a n cap) zs) (k : Nat) (hk : k < zs.length) :
    ∃ b off, a = some ⟨b, off, none⟩ ∧ S b ∧ A.cell? ⟨b, off + k, none⟩ = some (.int .i64 (zs[k]?.getD 0)) := by
  rcases h with ⟨rfl, _⟩ | ⟨b, off, cap', e, hb, hc⟩
  · simp at hk
  · simp only [Value.slice.injEq] at e
    exact ⟨b, off, e.1, hb, hc k hk⟩

/-- Ints of Go's range. -/
def AreInts (zs : List Int) : Prop := ∀ j : Nat, -9223372036854775808 ≤ zs[j]?.getD 0 ∧ zs[j]?.getD 0 ≤ 9223372036854775807

/-! ### the table -/
def cnt (zs : List Int) (n : Nat) : Nat := zs.countP (fun z => z == (n : Int))
def tabL (zs : List Int) : List Value := (List.range 15).map (fun i => Value.int .i64 (cnt zs (i + 1) : Int))
def tab (zs : List Int) : Array Value := (tabL zs).toArray
def inRange (zs : List Int) : Prop := ∀ z ∈ zs, 0 ≤ z ∧ z ≤ 15
instance (zs : List Int) : Decidable (inRange zs) := inferInstanceAs (Decidable (∀ z ∈ zs, _))
theorem tab_size (zs : List Int) : (tab zs).size = 15 := by simp [tab, tabL]
theorem tab_at (zs : List Int) (i : Nat) (h : i < 15) : (tab zs)[i]? = some (.int .i64 (cnt zs (i + 1))) := by simp [tab, tabL, h]
theorem tab_nil : tab [] = #[.int .i64 0, .int .i64 0, .int .i64 0, .int .i64 0, .int .i64 0, .int .i64 0, .int .i64 0, .int .i64 0, .int .i64 0, .int .i64 0, .int .i64 0, .int .i64 0, .int .i64 0, .int .i64 0, .int .i64 0] := rfl
theorem cnt_le (zs : List Int) (n : Nat) : cnt zs n ≤ zs.length := List.countP_le_length
theorem cnt_snoc (zs : List Int) (z : Int) (n : Nat) : cnt (zs ++ [z]) n = cnt zs n + if z = (n : Int) then 1 else 0 := by
  simp [cnt, List.countP_append, List.countP_cons]
theorem tab_snoc (zs : List Int) (m : Nat) (h0 : 0 < m) (h1 : m ≤ 15) : tab (zs ++ [(m : Int)]) = (tab zs).setIfInBounds (m - 1) (.int .i64 ((cnt zs m : Nat) + 1 : Int)) := by
  apply Array.ext_getElem?
  intro i
  rw [Array.getElem?_setIfInBounds]
  by_cases hi : i < 15
  · rw [tab_at _ i hi, tab_at _ i hi, cnt_snoc, tab_size]
    by_cases e : m - 1 = i
    · subst e
      rw [if_pos rfl, if_pos hi, show m - 1 + 1 = m by omega, if_pos rfl]
      rfl
    · rw [if_neg e, if_neg (by omega)]
      rfl
  · rw [if_neg (by omega), Array.getElem?_eq_none (by rw [tab_size]; omega), Array.getElem?_eq_none (by rw [tab_size]; omega)]
theorem tab_snoc0 (zs : List Int) : tab (zs ++ [0]) = tab zs := by
  apply Array.ext_getElem?
  intro i
  by_cases hi : i < 15
  · rw [tab_at _ i hi, tab_at _ i hi, cnt_snoc, if_neg (by omega)]
    rfl
  · rw [Array.getElem?_eq_none (by rw [tab_size]; omega), Array.getElem?_eq_none (by rw [tab_size]; omega)]
theorem tab_one (zs : List Int) : (tab zs).all (·.oneCell') = true := by
  rw [Array.all_eq_true]
  intro i hi
  have h := tab_at zs i (by rw [tab_size] at hi; exact hi)
  rw [Array.getElem?_eq_getElem hi] at h
  rw [Option.some.inj h]
  rfl

theorem Tryz.info53 : (Tryz.prog.info? 232).map (fun i => (i.zero, i.size)) = some (some (.agg (tab [])), 15) := by kernel_rfl
theorem Tryz.under53 : Tryz.prog.underlying 232 = some (.array 15 3) := by kernel_rfl
theorem size53 : (Tryz.prog.info? 232).map (·.size) = some 15 := (zero_of_info Tryz.info53).2
/-- The whole table out of a block, and into one, as the walk asks them. -/
theorem load53 {W : World} {B : Nat} {cs : Array Value} (h : Row W B 232 cs) (hs : cs.size = 15) : (loadCellsFrom ⟨B, 0, none⟩ 0 15 #[]).run Tryz.prog W = .ok cs W := by
  have := run_loadCells_list (P := Tryz.prog) W ⟨B, 0, none⟩ cs.toList (fun j v hv => by
    have hadd : (⟨B, 0, none⟩ : Addr).add j = ⟨B, j, none⟩ := by unfold Addr.add; split <;> simp_all
    rw [hadd]
    exact h.cell (by simpa using hv))
  simpa [loadCells, hs] using this
theorem store53 {W : World} {B : Nat} {cs : Array Value} (zs : List Int) (h : Row W B 232 cs) (hs : cs.size = 15) : (storeCells ⟨B, 0, none⟩ (tab zs).toList 0).run Tryz.prog W = .ok () (W.setRow B (tab zs)) := by
  have := run_storeVar_row (P := Tryz.prog) W B 232 232 cs (tab zs) h (by rw [size53, tab_size]) (by rw [tab_size, hs]) (tab_one zs)
  have hi := size53
  cases hq : Tryz.prog.info? 232 with
  | none => simp [hq] at hi
  | some i =>
    have hz : (tab zs).size = i.size := by rw [tab_size]; simp [hq] at hi; omega
    simpa [storeVar, sizeOf, typeInfo, hq, Value.cells, hz] using this
theorem tab_fold (zs : List Int) : (#[.int .i64 (cnt zs 1), .int .i64 (cnt zs 2), .int .i64 (cnt zs 3), .int .i64 (cnt zs 4), .int .i64 (cnt zs 5), .int .i64 (cnt zs 6), .int .i64 (cnt zs 7), .int .i64 (cnt zs 8), .int .i64 (cnt zs 9), .int .i64 (cnt zs 10), .int .i64 (cnt zs 11), .int .i64 (cnt zs 12), .int .i64 (cnt zs 13), .int .i64 (cnt zs 14), .int .i64 (cnt zs 15)] : Array Value) = tab zs := rfl
/-- The fifteen cells of a table that lies in a block. -/
theorem Row.tab {W : World} {B : Nat} {zs : List Int} (h : Row W B 232 (tab zs)) : W.cell? ⟨B, 0, none⟩ = some (.int .i64 (cnt zs 1)) ∧ W.cell? ⟨B, 1, none⟩ = some (.int .i64 (cnt zs 2)) ∧ W.cell? ⟨B, 2, none⟩ = some (.int .i64 (cnt zs 3)) ∧ W.cell? ⟨B, 3, none⟩ = some (.int .i64 (cnt zs 4)) ∧ W.cell? ⟨B, 4, none⟩ = some (.int .i64 (cnt zs 5)) ∧ W.cell? ⟨B, 5, none⟩ = some (.int .i64 (cnt zs 6)) ∧ W.cell? ⟨B, 6, none⟩ = some (.int .i64 (cnt zs 7)) ∧ W.cell? ⟨B, 7, none⟩ = some (.int .i64 (cnt zs 8)) ∧ W.cell? ⟨B, 8, none⟩ = some (.int .i64 (cnt zs 9)) ∧ W.cell? ⟨B, 9, none⟩ = some (.int .i64 (cnt zs 10)) ∧ W.cell? ⟨B, 10, none⟩ = some (.int .i64 (cnt zs 11)) ∧ W.cell? ⟨B, 11, none⟩ = some (.int .i64 (cnt zs 12)) ∧ W.cell? ⟨B, 12, none⟩ = some (.int .i64 (cnt zs 13)) ∧ W.cell? ⟨B, 13, none⟩ = some (.int .i64 (cnt zs 14)) ∧ W.cell? ⟨B, 14, none⟩ = some (.int .i64 (cnt zs 15)) :=
  ⟨h.cell (tab_at zs 0 (by omega)), h.cell (tab_at zs 1 (by omega)), h.cell (tab_at zs 2 (by omega)), h.cell (tab_at zs 3 (by omega)), h.cell (tab_at zs 4 (by omega)), h.cell (tab_at zs 5 (by omega)), h.cell (tab_at zs 6 (by omega)), h.cell (tab_at zs 7 (by omega)), h.cell (tab_at zs 8 (by omega)), h.cell (tab_at zs 9 (by omega)), h.cell (tab_at zs 10 (by omega)), h.cell (tab_at zs 11 (by omega)), h.cell (tab_at zs 12 (by omega)), h.cell (tab_at zs 13 (by omega)), h.cell (tab_at zs 14 (by omega))⟩
theorem load53v {W : World} {B : Nat} {cs : Array Value} (h : Row W B 232 cs) (hs : cs.size = 15) : (loadVar 232 ⟨B, 0, none⟩).run Tryz.prog W = .ok (.agg cs) W :=
  run_loadVar_row _ _ 232 232 cs (0, 0) _ h Tryz.under53 rfl (by rw [size53, hs])
end Go.Proofs.YtibnafngkcpafaaGreatDoor
