import Derived.Test.YtnblbakjfpfipaaGreatDoorWsmM
import Derived.Test.YtnblbakjfpfipaaGreatDoorBaseM
/- Rows of five cells: a reference, a text that is taken apart; boxes behind calls. -/
namespace Go.Proofs.YtnblbakjfpfipaaGreatDoor
open Go.RowKit

theorem Tryz.zero23 : (Tryz.prog.info? 23).map (fun i => (i.zero, i.size)) = some (some (.agg #[.string .empty, .int .i64 0, .int .i64 0, .bool false, .bool false]), 5) := by kernel_rfl
theorem Tryz.zero40 : (Tryz.prog.info? 54).map (fun i => (i.zero, i.size)) = some (some (.agg #[.string .empty, .string .empty, .string .empty, .bool false, .bool false]), 5) := by kernel_rfl
theorem load23 {W : World} {B : Nat} {cs : Array Value} (h : Row W B 23 cs) (hs : cs.size = 5) : (loadVar 23 ⟨B, 0, none⟩).run Tryz.prog W = .ok (.agg cs) W :=
  run_loadVar_row _ _ 23 23 cs (0, 0) _ h Tryz.underlying23 rfl (by rw [hs]; exact (zero_of_info Tryz.zero23).2)
theorem load40 {W : World} {B : Nat} {cs : Array Value} (h : Row W B 54 cs) (hs : cs.size = 5) : (loadVar 54 ⟨B, 0, none⟩).run Tryz.prog W = .ok (.agg cs) W :=
  run_loadVar_row _ _ 54 54 cs (0, 0) _ h Tryz.underlying54 rfl (by rw [hs]; exact (zero_of_info Tryz.zero40).2)
theorem ret_one {fn : Func} {p : Tmp} {ty : TypeId} (h : fn.results = #[.cell p ty]) {tmps : Array Value} {w : World} {g : Nat} {v : Value}
    (hp : tmps.getD p undef = .pointer (some ⟨g, 0, none⟩)) (hl : (loadVar ty ⟨g, 0, none⟩).run Tryz.prog w = .ok v w) : (results fn tmps).run Tryz.prog w = .ok v w := by
  have hp' : tmps[p]?.getD undef = .pointer (some ⟨g, 0, none⟩) := by simpa using hp
  simp [results, h, hp', asAddr, hl]
theorem ret_two {fn : Func} {p u : Tmp} {ty : TypeId} (h : fn.results = #[.cell p ty, .tmp u]) {tmps : Array Value} {w : World} {g : Nat} {v x : Value}
    (hp : tmps.getD p undef = .pointer (some ⟨g, 0, none⟩)) (hx : tmps.getD u undef = x) (hl : (loadVar ty ⟨g, 0, none⟩).run Tryz.prog w = .ok v w) : (results fn tmps).run Tryz.prog w = .ok (.tuple #[v, x]) w := by
  rw [results_cell_tmp h, hp, hx]
  simp [asAddr, Result.andThen, hl]
theorem Row.five {W : World} {B : Nat} {t : TypeId} {a b c d e : Value} (h : Row W B t #[a, b, c, d, e]) :
    W.cell? ⟨B, 0, none⟩ = some a ∧ W.cell? ⟨B, 1, none⟩ = some b ∧ W.cell? ⟨B, 2, none⟩ = some c ∧ W.cell? ⟨B, 3, none⟩ = some d ∧ W.cell? ⟨B, 4, none⟩ = some e :=
  ⟨h.cell rfl, h.cell rfl, h.cell rfl, h.cell rfl, h.cell rfl⟩
theorem Row.set5 {W : World} {B : Nat} {t : TypeId} {a b c d e : Value} (h : Row W B t #[a, b, c, d, e]) (a' b' c' d' e' : Value) :
    Row (((((W.setCell ⟨B, 0, none⟩ a').setCell ⟨B, 1, none⟩ b').setCell ⟨B, 2, none⟩ c').setCell ⟨B, 3, none⟩ d').setCell ⟨B, 4, none⟩ e') B t #[a', b', c', d', e'] :=
  ((((h.set 0 a').set 1 b').set 2 c').set 3 d').set 4 e'
theorem Row.off {W : World} {B : Nat} {t : TypeId} {cs : Array Value} (h : Row W B t cs) {B' : Nat} (i : Nat) (v : Value) (hne : B ≠ B') : Row (W.setCell ⟨B', i, none⟩ v) B t cs :=
  (Below.heap_setCell _ _ _ _ hne).trans h
theorem Row.off5 {W : World} {B : Nat} {t : TypeId} {cs : Array Value} (h : Row W B t cs) {B' : Nat} (hne : B ≠ B') (a b c d e : Value) :
    Row (((((W.setCell ⟨B', 0, none⟩ a).setCell ⟨B', 1, none⟩ b).setCell ⟨B', 2, none⟩ c).setCell ⟨B', 3, none⟩ d).setCell ⟨B', 4, none⟩ e) B t cs := ((((h.off 0 a hne).off 1 b hne).off 2 c hne).off 3 d hne).off 4 e hne
theorem below_set {N : Nat} {a w : World} (h : Below N a w) {B : Nat} (i : Nat) (v : Value) (hB : N ≤ B) : Below N a (w.setCell ⟨B, i, none⟩ v) :=
  ((Kept.of_below (S := (· < N)) h (fun _ h => h)).setCell (p := ⟨B, i, none⟩) (fun (e : B < N) => absurd e (by omega)) v).below (fun _ h => h)
theorem below_set5 {N : Nat} {x W : World} (h : Below N x W) {B' : Nat} (hN : N ≤ B') (a b c d e : Value) :
    Below N x (((((W.setCell ⟨B', 0, none⟩ a).setCell ⟨B', 1, none⟩ b).setCell ⟨B', 2, none⟩ c).setCell ⟨B', 3, none⟩ d).setCell ⟨B', 4, none⟩ e) := below_set (below_set (below_set (below_set (below_set h 0 a hN) 1 b hN) 2 c hN) 3 d hN) 4 e hN
theorem below_drewN {N : Nat} {a w : World} (h : Below N a w) (q : Nat) : Below N a (w.drewN q) := h.trans ⟨rfl, rfl, rfl, Nat.le_refl _, fun _ _ => rfl⟩
theorem Row.new1 (w : World) (o : Obj) (t : TypeId) (cs : Array Value) : Row ((w.alloc o).alloc (.cells cs t)) (w.heap.size + 1) t cs := by
  have := Row.new (w.alloc o) t cs
  simpa using this
theorem one_row (w w1 : World) (o1 : Array Value) (t1 : TypeId) (h : Below ((w.alloc (.cells o1 t1)).heap.size) (w.alloc (.cells o1 t1)) w1) :
    Row w1 w.heap.size t1 o1 ∧ Below w.heap.size w w1 :=
  ⟨(Row.new w t1 o1).below h (by simp), ((Below.refl _ w).alloc (Nat.le_refl _) _).trans (h.mono (by simp))⟩
theorem two_rows (w w1 : World) (o1 o2 : Array Value) (t1 t2 : TypeId) (h : Below (((w.alloc (.cells o1 t1)).alloc (.cells o2 t2)).heap.size) ((w.alloc (.cells o1 t1)).alloc (.cells o2 t2)) w1) :
    Row w1 w.heap.size t1 o1 ∧ Row w1 (w.heap.size + 1) t2 o2 ∧ Below w.heap.size w w1 := by
  refine ⟨((Row.new w t1 o1).alloc _).below h (by simp; omega), (Row.new1 w _ t2 o2).below h (by simp), ?_⟩
  exact (((Below.refl _ w).alloc (Nat.le_refl _) _).alloc (by simp) _).trans (h.mono (by simp; omega))
theorem three_rows (w w1 : World) (o1 o2 o3 : Array Value) (t1 t2 t3 : TypeId) (h : Below ((((w.alloc (.cells o1 t1)).alloc (.cells o2 t2)).alloc (.cells o3 t3)).heap.size) (((w.alloc (.cells o1 t1)).alloc (.cells o2 t2)).alloc (.cells o3 t3)) w1) :
    Row w1 w.heap.size t1 o1 ∧ Row w1 (w.heap.size + 1) t2 o2 ∧ Row w1 (w.heap.size + 2) t3 o3 ∧ Below w.heap.size w w1 := by
  have r1 := ((Row.new w t1 o1).alloc (.cells o2 t2)).alloc (.cells o3 t3)
  have r2 := (Row.new1 w (.cells o1 t1) t2 o2).alloc (.cells o3 t3)
  have r3 : Row (((w.alloc (.cells o1 t1)).alloc (.cells o2 t2)).alloc (.cells o3 t3)) (w.heap.size + 2) t3 o3 := by
    have := Row.new ((w.alloc (.cells o1 t1)).alloc (.cells o2 t2)) t3 o3
    simpa using this
  refine ⟨r1.below h r1.lt, r2.below h r2.lt, r3.below h r3.lt, ?_⟩
  exact ((((Below.refl _ w).alloc (Nat.le_refl _) _).alloc (by simp) _).alloc (by simp; omega) _).trans (h.mono (by simp; omega))
end Go.Proofs.YtnblbakjfpfipaaGreatDoor
