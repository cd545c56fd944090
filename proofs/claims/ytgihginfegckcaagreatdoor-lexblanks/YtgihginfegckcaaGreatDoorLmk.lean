import Derived.Test.YtgihginfegckcaaGreatDoorLqu
/- lex's mark: tokens, and the table of marks. -/
namespace Go.Proofs.YtgihginfegckcaaGreatDoor
open Go.RowKit

/-- A token: its kind, where it begins, its text, its number, its reference. -/
structure Tk where
  k : Int
  at' : Int
  s : List UInt8
  c : Int
  e : Int
  r : Rf
def Tk.cells (t : Tk) : Array Value := #[.int .i64 t.k, .int .i64 t.at', .string (bs t.s), .int .i64 t.c, .int .i64 t.e, .string t.r.s, .int .i64 t.r.c, .int .i64 t.r.r, .bool t.r.ac, .bool t.r.ar]
def Tk.v (t : Tk) : Value := .agg t.cells
def Tk.zero : Tk := ⟨0, 0, [], 0, 0, Rf.zero⟩
theorem Tryz.zero34 : (Tryz.prog.info? 34).map (fun i => (i.zero, i.size)) = some (some (.agg #[.int .i64 0, .int .i64 0, .string .empty, .int .i64 0, .int .i64 0, .string .empty, .int .i64 0, .int .i64 0, .bool false, .bool false]), 10) := by kernel_rfl
theorem load34 {W : World} {B : Nat} {cs : Array Value} (h : Row W B 34 cs) (hs : cs.size = 10) : (loadVar 34 ⟨B, 0, none⟩).run Tryz.prog W = .ok (.agg cs) W :=
  run_loadVar_row _ _ 34 34 cs (0, 0) _ h Tryz.underlying34 rfl (by rw [hs]; exact (zero_of_info Tryz.zero34).2)
theorem ret_three_b {fn : Func} {p u u2 : Tmp} {ty : TypeId} (h : fn.results = #[.cell p ty, .tmp u, .tmp u2]) {tmps : Array Value} {w : World} {g : Nat} {v x y : Value}
    (hp : tmps.getD p undef = .pointer (some ⟨g, 0, none⟩)) (hx : tmps.getD u undef = x) (hy : tmps.getD u2 undef = y) (hl : (loadVar ty ⟨g, 0, none⟩).run Tryz.prog w = .ok v w) :
    (results fn tmps).run Tryz.prog w = .ok (.tuple #[v, x, y]) w := by
  have hp' : tmps[p]?.getD undef = .pointer (some ⟨g, 0, none⟩) := by simpa using hp
  have hy' : tmps[u2]?.getD undef = y := by simpa using hy
  have hx' : tmps[u]?.getD undef = x := by simpa using hx
  simp [results, h, hp', hy', hx', asAddr, hl]
def marksL : List (List UInt8) := [[60, 62], [60, 61], [62, 61], [60], [62], [61], [43], [45], [42], [47], [94], [38], [37], [40], [41], [44], [58]]
/-- The mark that a text begins with. -/
def markR (l : List UInt8) : Option (List UInt8) := marksL.find? (fun m => Lib.hasPrefix l m)
/-- The table of marks lies as it lay. -/
structure Marks (w : World) : Prop where
  m0 : w.cell? ⟨0, 0, none⟩ = some (.string ⟨#[60, 62]⟩)
  m1 : w.cell? ⟨0, 1, none⟩ = some (.string ⟨#[60, 61]⟩)
  m2 : w.cell? ⟨0, 2, none⟩ = some (.string ⟨#[62, 61]⟩)
  m3 : w.cell? ⟨0, 3, none⟩ = some (.string ⟨#[60]⟩)
  m4 : w.cell? ⟨0, 4, none⟩ = some (.string ⟨#[62]⟩)
  m5 : w.cell? ⟨0, 5, none⟩ = some (.string ⟨#[61]⟩)
  m6 : w.cell? ⟨0, 6, none⟩ = some (.string ⟨#[43]⟩)
  m7 : w.cell? ⟨0, 7, none⟩ = some (.string ⟨#[45]⟩)
  m8 : w.cell? ⟨0, 8, none⟩ = some (.string ⟨#[42]⟩)
  m9 : w.cell? ⟨0, 9, none⟩ = some (.string ⟨#[47]⟩)
  m10 : w.cell? ⟨0, 10, none⟩ = some (.string ⟨#[94]⟩)
  m11 : w.cell? ⟨0, 11, none⟩ = some (.string ⟨#[38]⟩)
  m12 : w.cell? ⟨0, 12, none⟩ = some (.string ⟨#[37]⟩)
  m13 : w.cell? ⟨0, 13, none⟩ = some (.string ⟨#[40]⟩)
  m14 : w.cell? ⟨0, 14, none⟩ = some (.string ⟨#[41]⟩)
  m15 : w.cell? ⟨0, 15, none⟩ = some (.string ⟨#[44]⟩)
  m16 : w.cell? ⟨0, 16, none⟩ = some (.string ⟨#[58]⟩)
theorem cell_lt {w : World} {b o : Nat} {v : Value} (h : w.cell? ⟨b, o, none⟩ = some v) : b < w.heap.size := by
  by_cases hb : b < w.heap.size
  · exact hb
  · simp [World.cell?, Array.getElem?_eq_none (Nat.le_of_not_lt hb)] at h
def tokR (t : Tk) (n : Nat) (e : Int) : Ending := .returned (.tuple #[t.v, .int .i64 (n : Int), .int .i64 e])
theorem ix0 (W : World) : (Instr.index 61 (.agg #[.string ⟨#[60, 62]⟩, .string ⟨#[60, 61]⟩, .string ⟨#[62, 61]⟩, .string ⟨#[60]⟩, .string ⟨#[62]⟩, .string ⟨#[61]⟩, .string ⟨#[43]⟩, .string ⟨#[45]⟩, .string ⟨#[42]⟩, .string ⟨#[47]⟩, .string ⟨#[94]⟩, .string ⟨#[38]⟩, .string ⟨#[37]⟩, .string ⟨#[40]⟩, .string ⟨#[41]⟩, .string ⟨#[44]⟩, .string ⟨#[58]⟩]) (.int .i64 0)).run Tryz.prog W = .ok (.string ⟨#[60, 62]⟩) W := by simp [Instr.index, run_underlying Tryz.underlying61, asIntOf, go_sem]
theorem ix1 (W : World) : (Instr.index 61 (.agg #[.string ⟨#[60, 62]⟩, .string ⟨#[60, 61]⟩, .string ⟨#[62, 61]⟩, .string ⟨#[60]⟩, .string ⟨#[62]⟩, .string ⟨#[61]⟩, .string ⟨#[43]⟩, .string ⟨#[45]⟩, .string ⟨#[42]⟩, .string ⟨#[47]⟩, .string ⟨#[94]⟩, .string ⟨#[38]⟩, .string ⟨#[37]⟩, .string ⟨#[40]⟩, .string ⟨#[41]⟩, .string ⟨#[44]⟩, .string ⟨#[58]⟩]) (.int .i64 1)).run Tryz.prog W = .ok (.string ⟨#[60, 61]⟩) W := by simp [Instr.index, run_underlying Tryz.underlying61, asIntOf, go_sem]
theorem ix2 (W : World) : (Instr.index 61 (.agg #[.string ⟨#[60, 62]⟩, .string ⟨#[60, 61]⟩, .string ⟨#[62, 61]⟩, .string ⟨#[60]⟩, .string ⟨#[62]⟩, .string ⟨#[61]⟩, .string ⟨#[43]⟩, .string ⟨#[45]⟩, .string ⟨#[42]⟩, .string ⟨#[47]⟩, .string ⟨#[94]⟩, .string ⟨#[38]⟩, .string ⟨#[37]⟩, .string ⟨#[40]⟩, .string ⟨#[41]⟩, .string ⟨#[44]⟩, .string ⟨#[58]⟩]) (.int .i64 2)).run Tryz.prog W = .ok (.string ⟨#[62, 61]⟩) W := by simp [Instr.index, run_underlying Tryz.underlying61, asIntOf, go_sem]
theorem ix3 (W : World) : (Instr.index 61 (.agg #[.string ⟨#[60, 62]⟩, .string ⟨#[60, 61]⟩, .string ⟨#[62, 61]⟩, .string ⟨#[60]⟩, .string ⟨#[62]⟩, .string ⟨#[61]⟩, .string ⟨#[43]⟩, .string ⟨#[45]⟩, .string ⟨#[42]⟩, .string ⟨#[47]⟩, .string ⟨#[94]⟩, .string ⟨#[38]⟩, .string ⟨#[37]⟩, .string ⟨#[40]⟩, .string ⟨#[41]⟩, .string ⟨#[44]⟩, .string ⟨#[58]⟩]) (.int .i64 3)).run Tryz.prog W = .ok (.string ⟨#[60]⟩) W := by simp [Instr.index, run_underlying Tryz.underlying61, asIntOf, go_sem]
theorem ix4 (W : World) : (Instr.index 61 (.agg #[.string ⟨#[60, 62]⟩, .string ⟨#[60, 61]⟩, .string ⟨#[62, 61]⟩, .string ⟨#[60]⟩, .string ⟨#[62]⟩, .string ⟨#[61]⟩, .string ⟨#[43]⟩, .string ⟨#[45]⟩, .string ⟨#[42]⟩, .string ⟨#[47]⟩, .string ⟨#[94]⟩, .string ⟨#[38]⟩, .string ⟨#[37]⟩, .string ⟨#[40]⟩, .string ⟨#[41]⟩, .string ⟨#[44]⟩, .string ⟨#[58]⟩]) (.int .i64 4)).run Tryz.prog W = .ok (.string ⟨#[62]⟩) W := by simp [Instr.index, run_underlying Tryz.underlying61, asIntOf, go_sem]
theorem ix5 (W : World) : (Instr.index 61 (.agg #[.string ⟨#[60, 62]⟩, .string ⟨#[60, 61]⟩, .string ⟨#[62, 61]⟩, .string ⟨#[60]⟩, .string ⟨#[62]⟩, .string ⟨#[61]⟩, .string ⟨#[43]⟩, .string ⟨#[45]⟩, .string ⟨#[42]⟩, .string ⟨#[47]⟩, .string ⟨#[94]⟩, .string ⟨#[38]⟩, .string ⟨#[37]⟩, .string ⟨#[40]⟩, .string ⟨#[41]⟩, .string ⟨#[44]⟩, .string ⟨#[58]⟩]) (.int .i64 5)).run Tryz.prog W = .ok (.string ⟨#[61]⟩) W := by simp [Instr.index, run_underlying Tryz.underlying61, asIntOf, go_sem]
theorem ix6 (W : World) : (Instr.index 61 (.agg #[.string ⟨#[60, 62]⟩, .string ⟨#[60, 61]⟩, .string ⟨#[62, 61]⟩, .string ⟨#[60]⟩, .string ⟨#[62]⟩, .string ⟨#[61]⟩, .string ⟨#[43]⟩, .string ⟨#[45]⟩, .string ⟨#[42]⟩, .string ⟨#[47]⟩, .string ⟨#[94]⟩, .string ⟨#[38]⟩, .string ⟨#[37]⟩, .string ⟨#[40]⟩, .string ⟨#[41]⟩, .string ⟨#[44]⟩, .string ⟨#[58]⟩]) (.int .i64 6)).run Tryz.prog W = .ok (.string ⟨#[43]⟩) W := by simp [Instr.index, run_underlying Tryz.underlying61, asIntOf, go_sem]
theorem ix7 (W : World) : (Instr.index 61 (.agg #[.string ⟨#[60, 62]⟩, .string ⟨#[60, 61]⟩, .string ⟨#[62, 61]⟩, .string ⟨#[60]⟩, .string ⟨#[62]⟩, .string ⟨#[61]⟩, .string ⟨#[43]⟩, .string ⟨#[45]⟩, .string ⟨#[42]⟩, .string ⟨#[47]⟩, .string ⟨#[94]⟩, .string ⟨#[38]⟩, .string ⟨#[37]⟩, .string ⟨#[40]⟩, .string ⟨#[41]⟩, .string ⟨#[44]⟩, .string ⟨#[58]⟩]) (.int .i64 7)).run Tryz.prog W = .ok (.string ⟨#[45]⟩) W := by simp [Instr.index, run_underlying Tryz.underlying61, asIntOf, go_sem]
theorem ix8 (W : World) : (Instr.index 61 (.agg #[.string ⟨#[60, 62]⟩, .string ⟨#[60, 61]⟩, .string ⟨#[62, 61]⟩, .string ⟨#[60]⟩, .string ⟨#[62]⟩, .string ⟨#[61]⟩, .string ⟨#[43]⟩, .string ⟨#[45]⟩, .string ⟨#[42]⟩, .string ⟨#[47]⟩, .string ⟨#[94]⟩, .string ⟨#[38]⟩, .string ⟨#[37]⟩, .string ⟨#[40]⟩, .string ⟨#[41]⟩, .string ⟨#[44]⟩, .string ⟨#[58]⟩]) (.int .i64 8)).run Tryz.prog W = .ok (.string ⟨#[42]⟩) W := by simp [Instr.index, run_underlying Tryz.underlying61, asIntOf, go_sem]
theorem ix9 (W : World) : (Instr.index 61 (.agg #[.string ⟨#[60, 62]⟩, .string ⟨#[60, 61]⟩, .string ⟨#[62, 61]⟩, .string ⟨#[60]⟩, .string ⟨#[62]⟩, .string ⟨#[61]⟩, .string ⟨#[43]⟩, .string ⟨#[45]⟩, .string ⟨#[42]⟩, .string ⟨#[47]⟩, .string ⟨#[94]⟩, .string ⟨#[38]⟩, .string ⟨#[37]⟩, .string ⟨#[40]⟩, .string ⟨#[41]⟩, .string ⟨#[44]⟩, .string ⟨#[58]⟩]) (.int .i64 9)).run Tryz.prog W = .ok (.string ⟨#[47]⟩) W := by simp [Instr.index, run_underlying Tryz.underlying61, asIntOf, go_sem]
theorem ix10 (W : World) : (Instr.index 61 (.agg #[.string ⟨#[60, 62]⟩, .string ⟨#[60, 61]⟩, .string ⟨#[62, 61]⟩, .string ⟨#[60]⟩, .string ⟨#[62]⟩, .string ⟨#[61]⟩, .string ⟨#[43]⟩, .string ⟨#[45]⟩, .string ⟨#[42]⟩, .string ⟨#[47]⟩, .string ⟨#[94]⟩, .string ⟨#[38]⟩, .string ⟨#[37]⟩, .string ⟨#[40]⟩, .string ⟨#[41]⟩, .string ⟨#[44]⟩, .string ⟨#[58]⟩]) (.int .i64 10)).run Tryz.prog W = .ok (.string ⟨#[94]⟩) W := by simp [Instr.index, run_underlying Tryz.underlying61, asIntOf, go_sem]
theorem ix11 (W : World) : (Instr.index 61 (.agg #[.string ⟨#[60, 62]⟩, .string ⟨#[60, 61]⟩, .string ⟨#[62, 61]⟩, .string ⟨#[60]⟩, .string ⟨#[62]⟩, .string ⟨#[61]⟩, .string ⟨#[43]⟩, .string ⟨#[45]⟩, .string ⟨#[42]⟩, .string ⟨#[47]⟩, .string ⟨#[94]⟩, .string ⟨#[38]⟩, .string ⟨#[37]⟩, .string ⟨#[40]⟩, .string ⟨#[41]⟩, .string ⟨#[44]⟩, .string ⟨#[58]⟩]) (.int .i64 11)).run Tryz.prog W = .ok (.string ⟨#[38]⟩) W := by simp [Instr.index, run_underlying Tryz.underlying61, asIntOf, go_sem]
theorem ix12 (W : World) : (Instr.index 61 (.agg #[.string ⟨#[60, 62]⟩, .string ⟨#[60, 61]⟩, .string ⟨#[62, 61]⟩, .string ⟨#[60]⟩, .string ⟨#[62]⟩, .string ⟨#[61]⟩, .string ⟨#[43]⟩, .string ⟨#[45]⟩, .string ⟨#[42]⟩, .string ⟨#[47]⟩, .string ⟨#[94]⟩, .string ⟨#[38]⟩, .string ⟨#[37]⟩, .string ⟨#[40]⟩, .string ⟨#[41]⟩, .string ⟨#[44]⟩, .string ⟨#[58]⟩]) (.int .i64 12)).run Tryz.prog W = .ok (.string ⟨#[37]⟩) W := by simp [Instr.index, run_underlying Tryz.underlying61, asIntOf, go_sem]
theorem ix13 (W : World) : (Instr.index 61 (.agg #[.string ⟨#[60, 62]⟩, .string ⟨#[60, 61]⟩, .string ⟨#[62, 61]⟩, .string ⟨#[60]⟩, .string ⟨#[62]⟩, .string ⟨#[61]⟩, .string ⟨#[43]⟩, .string ⟨#[45]⟩, .string ⟨#[42]⟩, .string ⟨#[47]⟩, .string ⟨#[94]⟩, .string ⟨#[38]⟩, .string ⟨#[37]⟩, .string ⟨#[40]⟩, .string ⟨#[41]⟩, .string ⟨#[44]⟩, .string ⟨#[58]⟩]) (.int .i64 13)).run Tryz.prog W = .ok (.string ⟨#[40]⟩) W := by simp [Instr.index, run_underlying Tryz.underlying61, asIntOf, go_sem]
theorem ix14 (W : World) : (Instr.index 61 (.agg #[.string ⟨#[60, 62]⟩, .string ⟨#[60, 61]⟩, .string ⟨#[62, 61]⟩, .string ⟨#[60]⟩, .string ⟨#[62]⟩, .string ⟨#[61]⟩, .string ⟨#[43]⟩, .string ⟨#[45]⟩, .string ⟨#[42]⟩, .string ⟨#[47]⟩, .string ⟨#[94]⟩, .string ⟨#[38]⟩, .string ⟨#[37]⟩, .string ⟨#[40]⟩, .string ⟨#[41]⟩, .string ⟨#[44]⟩, .string ⟨#[58]⟩]) (.int .i64 14)).run Tryz.prog W = .ok (.string ⟨#[41]⟩) W := by simp [Instr.index, run_underlying Tryz.underlying61, asIntOf, go_sem]
theorem ix15 (W : World) : (Instr.index 61 (.agg #[.string ⟨#[60, 62]⟩, .string ⟨#[60, 61]⟩, .string ⟨#[62, 61]⟩, .string ⟨#[60]⟩, .string ⟨#[62]⟩, .string ⟨#[61]⟩, .string ⟨#[43]⟩, .string ⟨#[45]⟩, .string ⟨#[42]⟩, .string ⟨#[47]⟩, .string ⟨#[94]⟩, .string ⟨#[38]⟩, .string ⟨#[37]⟩, .string ⟨#[40]⟩, .string ⟨#[41]⟩, .string ⟨#[44]⟩, .string ⟨#[58]⟩]) (.int .i64 15)).run Tryz.prog W = .ok (.string ⟨#[44]⟩) W := by simp [Instr.index, run_underlying Tryz.underlying61, asIntOf, go_sem]
theorem ix16 (W : World) : (Instr.index 61 (.agg #[.string ⟨#[60, 62]⟩, .string ⟨#[60, 61]⟩, .string ⟨#[62, 61]⟩, .string ⟨#[60]⟩, .string ⟨#[62]⟩, .string ⟨#[61]⟩, .string ⟨#[43]⟩, .string ⟨#[45]⟩, .string ⟨#[42]⟩, .string ⟨#[47]⟩, .string ⟨#[94]⟩, .string ⟨#[38]⟩, .string ⟨#[37]⟩, .string ⟨#[40]⟩, .string ⟨#[41]⟩, .string ⟨#[44]⟩, .string ⟨#[58]⟩]) (.int .i64 16)).run Tryz.prog W = .ok (.string ⟨#[58]⟩) W := by simp [Instr.index, run_underlying Tryz.underlying61, asIntOf, go_sem]
attribute [local go_sem] ix0 ix1 ix2 ix3 ix4 ix5 ix6 ix7 ix8 ix9 ix10 ix11 ix12 ix13 ix14 ix15 ix16
set_option maxRecDepth 100000 in
set_option maxHeartbeats 2000000 in
theorem mark_any (l : List UInt8) (w : World) (hM : Marks w) :
    Calls Tryz.prog 21 #[.string (bs l)] w fun e w' => e = (match markR l with | some m => tokR ⟨5, 0, m, 0, 0, Rf.zero⟩ m.length 0 | none => tokR Tk.zero 0 40) ∧ Below w.heap.size w w' := by
  have HP : ∀ (m : List UInt8) W, Hid (Calls Tryz.prog 20 #[.string (bs l), .string (bs m)] W fun e w' => e = .returned (.bool (Lib.hasPrefix l m)) ∧ w' = W) := fun m W => Tryz.strings_HasPrefix (bs l) (bs m) W
  unfold markR marksL
  obtain ⟨m0, m1, m2, m3, m4, m5, m6, m7, m8, m9, m10, m11, m12, m13, m14, m15, m16⟩ := hM
  have hb := cell_lt m0
  have H0 : ∀ W, Hid (Calls Tryz.prog 20 #[.string (bs l), .string ⟨#[60, 62]⟩] W fun e w' => e = .returned (.bool (Lib.hasPrefix l [60, 62])) ∧ w' = W) := fun W => HP [60, 62] W
  obtain ⟨b0, e0⟩ : ∃ b, Lib.hasPrefix l [60, 62] = b := ⟨_, rfl⟩
  rw [e0] at H0
  have H1 : ∀ W, Hid (Calls Tryz.prog 20 #[.string (bs l), .string ⟨#[60, 61]⟩] W fun e w' => e = .returned (.bool (Lib.hasPrefix l [60, 61])) ∧ w' = W) := fun W => HP [60, 61] W
  obtain ⟨b1, e1⟩ : ∃ b, Lib.hasPrefix l [60, 61] = b := ⟨_, rfl⟩
  rw [e1] at H1
  have H2 : ∀ W, Hid (Calls Tryz.prog 20 #[.string (bs l), .string ⟨#[62, 61]⟩] W fun e w' => e = .returned (.bool (Lib.hasPrefix l [62, 61])) ∧ w' = W) := fun W => HP [62, 61] W
  obtain ⟨b2, e2⟩ : ∃ b, Lib.hasPrefix l [62, 61] = b := ⟨_, rfl⟩
  rw [e2] at H2
  have H3 : ∀ W, Hid (Calls Tryz.prog 20 #[.string (bs l), .string ⟨#[60]⟩] W fun e w' => e = .returned (.bool (Lib.hasPrefix l [60])) ∧ w' = W) := fun W => HP [60] W
  obtain ⟨b3, e3⟩ : ∃ b, Lib.hasPrefix l [60] = b := ⟨_, rfl⟩
  rw [e3] at H3
  have H4 : ∀ W, Hid (Calls Tryz.prog 20 #[.string (bs l), .string ⟨#[62]⟩] W fun e w' => e = .returned (.bool (Lib.hasPrefix l [62])) ∧ w' = W) := fun W => HP [62] W
  obtain ⟨b4, e4⟩ : ∃ b, Lib.hasPrefix l [62] = b := ⟨_, rfl⟩
  rw [e4] at H4
  have H5 : ∀ W, Hid (Calls Tryz.prog 20 #[.string (bs l), .string ⟨#[61]⟩] W fun e w' => e = .returned (.bool (Lib.hasPrefix l [61])) ∧ w' = W) := fun W => HP [61] W
  obtain ⟨b5, e5⟩ : ∃ b, Lib.hasPrefix l [61] = b := ⟨_, rfl⟩
  rw [e5] at H5
  have H6 : ∀ W, Hid (Calls Tryz.prog 20 #[.string (bs l), .string ⟨#[43]⟩] W fun e w' => e = .returned (.bool (Lib.hasPrefix l [43])) ∧ w' = W) := fun W => HP [43] W
  obtain ⟨b6, e6⟩ : ∃ b, Lib.hasPrefix l [43] = b := ⟨_, rfl⟩
  rw [e6] at H6
  have H7 : ∀ W, Hid (Calls Tryz.prog 20 #[.string (bs l), .string ⟨#[45]⟩] W fun e w' => e = .returned (.bool (Lib.hasPrefix l [45])) ∧ w' = W) := fun W => HP [45] W
  obtain ⟨b7, e7⟩ : ∃ b, Lib.hasPrefix l [45] = b := ⟨_, rfl⟩
  rw [e7] at H7
  have H8 : ∀ W, Hid (Calls Tryz.prog 20 #[.string (bs l), .string ⟨#[42]⟩] W fun e w' => e = .returned (.bool (Lib.hasPrefix l [42])) ∧ w' = W) := fun W => HP [42] W
  obtain ⟨b8, e8⟩ : ∃ b, Lib.hasPrefix l [42] = b := ⟨_, rfl⟩
  rw [e8] at H8
  have H9 : ∀ W, Hid (Calls Tryz.prog 20 #[.string (bs l), .string ⟨#[47]⟩] W fun e w' => e = .returned (.bool (Lib.hasPrefix l [47])) ∧ w' = W) := fun W => HP [47] W
  obtain ⟨b9, e9⟩ : ∃ b, Lib.hasPrefix l [47] = b := ⟨_, rfl⟩
  rw [e9] at H9
  have H10 : ∀ W, Hid (Calls Tryz.prog 20 #[.string (bs l), .string ⟨#[94]⟩] W fun e w' => e = .returned (.bool (Lib.hasPrefix l [94])) ∧ w' = W) := fun W => HP [94] W
  obtain ⟨b10, e10⟩ : ∃ b, Lib.hasPrefix l [94] = b := ⟨_, rfl⟩
  rw [e10] at H10
  have H11 : ∀ W, Hid (Calls Tryz.prog 20 #[.string (bs l), .string ⟨#[38]⟩] W fun e w' => e = .returned (.bool (Lib.hasPrefix l [38])) ∧ w' = W) := fun W => HP [38] W
  obtain ⟨b11, e11⟩ : ∃ b, Lib.hasPrefix l [38] = b := ⟨_, rfl⟩
  rw [e11] at H11
  have H12 : ∀ W, Hid (Calls Tryz.prog 20 #[.string (bs l), .string ⟨#[37]⟩] W fun e w' => e = .returned (.bool (Lib.hasPrefix l [37])) ∧ w' = W) := fun W => HP [37] W
  obtain ⟨b12, e12⟩ : ∃ b, Lib.hasPrefix l [37] = b := ⟨_, rfl⟩
  rw [e12] at H12
  have H13 : ∀ W, Hid (Calls Tryz.prog 20 #[.string (bs l), .string ⟨#[40]⟩] W fun e w' => e = .returned (.bool (Lib.hasPrefix l [40])) ∧ w' = W) := fun W => HP [40] W
  obtain ⟨b13, e13⟩ : ∃ b, Lib.hasPrefix l [40] = b := ⟨_, rfl⟩
  rw [e13] at H13
  have H14 : ∀ W, Hid (Calls Tryz.prog 20 #[.string (bs l), .string ⟨#[41]⟩] W fun e w' => e = .returned (.bool (Lib.hasPrefix l [41])) ∧ w' = W) := fun W => HP [41] W
  obtain ⟨b14, e14⟩ : ∃ b, Lib.hasPrefix l [41] = b := ⟨_, rfl⟩
  rw [e14] at H14
  have H15 : ∀ W, Hid (Calls Tryz.prog 20 #[.string (bs l), .string ⟨#[44]⟩] W fun e w' => e = .returned (.bool (Lib.hasPrefix l [44])) ∧ w' = W) := fun W => HP [44] W
  obtain ⟨b15, e15⟩ : ∃ b, Lib.hasPrefix l [44] = b := ⟨_, rfl⟩
  rw [e15] at H15
  have H16 : ∀ W, Hid (Calls Tryz.prog 20 #[.string (bs l), .string ⟨#[58]⟩] W fun e w' => e = .returned (.bool (Lib.hasPrefix l [58])) ∧ w' = W) := fun W => HP [58] W
  obtain ⟨b16, e16⟩ : ∃ b, Lib.hasPrefix l [58] = b := ⟨_, rfl⟩
  rw [e16] at H16
  clear HP
  simp only [List.find?_cons, e0, e1, e2, e3, e4, e5, e6, e7, e8, e9, e10, e11, e12, e13, e14, e15, e16, List.find?_nil]
  clear e0 e1 e2 e3 e4 e5 e6 e7 e8 e9 e10 e11 e12 e13 e14 e15 e16
  go_enter Tryz.func21, Tryz.ntmps21
  go_wp2_with fail
  refine wp_loop_rounds 18 ?_
  rw [rounds_succ]
  go_wp2_with fail
  refine Calls.mono (H0 _).out ?_
  rintro _ x0 ⟨rfl, hw⟩
  rw [hw]
  clear hw x0
  cases b0
  case true =>
    go_wp2
    exact bodyPost_ret (ret_three_b (u := 3) (u2 := 4) rfl (g := w.heap.size) rfl rfl rfl (load34 (Row.new w 34 _) rfl)) rfl ⟨rfl, (Below.refl _ w).alloc (Nat.le_refl _) _⟩
  go_wp2_with fail
  rw [rounds_succ]
  go_wp2_with fail
  refine Calls.mono (H1 _).out ?_
  rintro _ x1 ⟨rfl, hw⟩
  rw [hw]
  clear hw x1
  cases b1
  case true =>
    go_wp2
    exact bodyPost_ret (ret_three_b (u := 3) (u2 := 4) rfl (g := w.heap.size) rfl rfl rfl (load34 (Row.new w 34 _) rfl)) rfl ⟨rfl, (Below.refl _ w).alloc (Nat.le_refl _) _⟩
  go_wp2_with fail
  rw [rounds_succ]
  go_wp2_with fail
  refine Calls.mono (H2 _).out ?_
  rintro _ x2 ⟨rfl, hw⟩
  rw [hw]
  clear hw x2
  cases b2
  case true =>
    go_wp2
    exact bodyPost_ret (ret_three_b (u := 3) (u2 := 4) rfl (g := w.heap.size) rfl rfl rfl (load34 (Row.new w 34 _) rfl)) rfl ⟨rfl, (Below.refl _ w).alloc (Nat.le_refl _) _⟩
  go_wp2_with fail
  rw [rounds_succ]
  go_wp2_with fail
  refine Calls.mono (H3 _).out ?_
  rintro _ x3 ⟨rfl, hw⟩
  rw [hw]
  clear hw x3
  cases b3
  case true =>
    go_wp2
    exact bodyPost_ret (ret_three_b (u := 3) (u2 := 4) rfl (g := w.heap.size) rfl rfl rfl (load34 (Row.new w 34 _) rfl)) rfl ⟨rfl, (Below.refl _ w).alloc (Nat.le_refl _) _⟩
  go_wp2_with fail
  rw [rounds_succ]
  go_wp2_with fail
  refine Calls.mono (H4 _).out ?_
  rintro _ x4 ⟨rfl, hw⟩
  rw [hw]
  clear hw x4
  cases b4
  case true =>
    go_wp2
    exact bodyPost_ret (ret_three_b (u := 3) (u2 := 4) rfl (g := w.heap.size) rfl rfl rfl (load34 (Row.new w 34 _) rfl)) rfl ⟨rfl, (Below.refl _ w).alloc (Nat.le_refl _) _⟩
  go_wp2_with fail
  rw [rounds_succ]
  go_wp2_with fail
  refine Calls.mono (H5 _).out ?_
  rintro _ x5 ⟨rfl, hw⟩
  rw [hw]
  clear hw x5
  cases b5
  case true =>
    go_wp2
    exact bodyPost_ret (ret_three_b (u := 3) (u2 := 4) rfl (g := w.heap.size) rfl rfl rfl (load34 (Row.new w 34 _) rfl)) rfl ⟨rfl, (Below.refl _ w).alloc (Nat.le_refl _) _⟩
  go_wp2_with fail
  rw [rounds_succ]
  go_wp2_with fail
  refine Calls.mono (H6 _).out ?_
  rintro _ x6 ⟨rfl, hw⟩
  rw [hw]
  clear hw x6
  cases b6
  case true =>
    go_wp2
    exact bodyPost_ret (ret_three_b (u := 3) (u2 := 4) rfl (g := w.heap.size) rfl rfl rfl (load34 (Row.new w 34 _) rfl)) rfl ⟨rfl, (Below.refl _ w).alloc (Nat.le_refl _) _⟩
  go_wp2_with fail
  rw [rounds_succ]
  go_wp2_with fail
  refine Calls.mono (H7 _).out ?_
  rintro _ x7 ⟨rfl, hw⟩
  rw [hw]
  clear hw x7
  cases b7
  case true =>
    go_wp2
    exact bodyPost_ret (ret_three_b (u := 3) (u2 := 4) rfl (g := w.heap.size) rfl rfl rfl (load34 (Row.new w 34 _) rfl)) rfl ⟨rfl, (Below.refl _ w).alloc (Nat.le_refl _) _⟩
  go_wp2_with fail
  rw [rounds_succ]
  go_wp2_with fail
  refine Calls.mono (H8 _).out ?_
  rintro _ x8 ⟨rfl, hw⟩
  rw [hw]
  clear hw x8
  cases b8
  case true =>
    go_wp2
    exact bodyPost_ret (ret_three_b (u := 3) (u2 := 4) rfl (g := w.heap.size) rfl rfl rfl (load34 (Row.new w 34 _) rfl)) rfl ⟨rfl, (Below.refl _ w).alloc (Nat.le_refl _) _⟩
  go_wp2_with fail
  rw [rounds_succ]
  go_wp2_with fail
  refine Calls.mono (H9 _).out ?_
  rintro _ x9 ⟨rfl, hw⟩
  rw [hw]
  clear hw x9
  cases b9
  case true =>
    go_wp2
    exact bodyPost_ret (ret_three_b (u := 3) (u2 := 4) rfl (g := w.heap.size) rfl rfl rfl (load34 (Row.new w 34 _) rfl)) rfl ⟨rfl, (Below.refl _ w).alloc (Nat.le_refl _) _⟩
  go_wp2_with fail
  rw [rounds_succ]
  go_wp2_with fail
  refine Calls.mono (H10 _).out ?_
  rintro _ x10 ⟨rfl, hw⟩
  rw [hw]
  clear hw x10
  cases b10
  case true =>
    go_wp2
    exact bodyPost_ret (ret_three_b (u := 3) (u2 := 4) rfl (g := w.heap.size) rfl rfl rfl (load34 (Row.new w 34 _) rfl)) rfl ⟨rfl, (Below.refl _ w).alloc (Nat.le_refl _) _⟩
  go_wp2_with fail
  rw [rounds_succ]
  go_wp2_with fail
  refine Calls.mono (H11 _).out ?_
  rintro _ x11 ⟨rfl, hw⟩
  rw [hw]
  clear hw x11
  cases b11
  case true =>
    go_wp2
    exact bodyPost_ret (ret_three_b (u := 3) (u2 := 4) rfl (g := w.heap.size) rfl rfl rfl (load34 (Row.new w 34 _) rfl)) rfl ⟨rfl, (Below.refl _ w).alloc (Nat.le_refl _) _⟩
  go_wp2_with fail
  rw [rounds_succ]
  go_wp2_with fail
  refine Calls.mono (H12 _).out ?_
  rintro _ x12 ⟨rfl, hw⟩
  rw [hw]
  clear hw x12
  cases b12
  case true =>
    go_wp2
    exact bodyPost_ret (ret_three_b (u := 3) (u2 := 4) rfl (g := w.heap.size) rfl rfl rfl (load34 (Row.new w 34 _) rfl)) rfl ⟨rfl, (Below.refl _ w).alloc (Nat.le_refl _) _⟩
  go_wp2_with fail
  rw [rounds_succ]
  go_wp2_with fail
  refine Calls.mono (H13 _).out ?_
  rintro _ x13 ⟨rfl, hw⟩
  rw [hw]
  clear hw x13
  cases b13
  case true =>
    go_wp2
    exact bodyPost_ret (ret_three_b (u := 3) (u2 := 4) rfl (g := w.heap.size) rfl rfl rfl (load34 (Row.new w 34 _) rfl)) rfl ⟨rfl, (Below.refl _ w).alloc (Nat.le_refl _) _⟩
  go_wp2_with fail
  rw [rounds_succ]
  go_wp2_with fail
  refine Calls.mono (H14 _).out ?_
  rintro _ x14 ⟨rfl, hw⟩
  rw [hw]
  clear hw x14
  cases b14
  case true =>
    go_wp2
    exact bodyPost_ret (ret_three_b (u := 3) (u2 := 4) rfl (g := w.heap.size) rfl rfl rfl (load34 (Row.new w 34 _) rfl)) rfl ⟨rfl, (Below.refl _ w).alloc (Nat.le_refl _) _⟩
  go_wp2_with fail
  rw [rounds_succ]
  go_wp2_with fail
  refine Calls.mono (H15 _).out ?_
  rintro _ x15 ⟨rfl, hw⟩
  rw [hw]
  clear hw x15
  cases b15
  case true =>
    go_wp2
    exact bodyPost_ret (ret_three_b (u := 3) (u2 := 4) rfl (g := w.heap.size) rfl rfl rfl (load34 (Row.new w 34 _) rfl)) rfl ⟨rfl, (Below.refl _ w).alloc (Nat.le_refl _) _⟩
  go_wp2_with fail
  rw [rounds_succ]
  go_wp2_with fail
  refine Calls.mono (H16 _).out ?_
  rintro _ x16 ⟨rfl, hw⟩
  rw [hw]
  clear hw x16
  cases b16
  case true =>
    go_wp2
    exact bodyPost_ret (ret_three_b (u := 3) (u2 := 4) rfl (g := w.heap.size) rfl rfl rfl (load34 (Row.new w 34 _) rfl)) rfl ⟨rfl, (Below.refl _ w).alloc (Nat.le_refl _) _⟩
  go_wp2_with fail
  rw [rounds_succ]
  go_wp2
  exact bodyPost_ret (ret_three_b (u := 3) (u2 := 4) rfl (g := w.heap.size) rfl rfl rfl (load34 (Row.new w 34 _) rfl)) rfl ⟨rfl, (Below.refl _ w).alloc (Nat.le_refl _) _⟩
end Go.Proofs.YtgihginfegckcaaGreatDoor
