import Derived.Test.YtgihginfegckcaaGreatDoorLmk
import Derived.Test.YtgihginfegckcaaGreatDoorDpaM
import Derived.Test.YtgihginfegckcaaGreatDoorPvx
/- lex's number. -/
namespace Go.Proofs.YtgihginfegckcaaGreatDoor
open Go.RowKit

theorem Row.ten {W : World} {B : Nat} {t : TypeId} {a0 a1 a2 a3 a4 a5 a6 a7 a8 a9 : Value} (h : Row W B t #[a0, a1, a2, a3, a4, a5, a6, a7, a8, a9]) :
    W.cell? ⟨B, 0, none⟩ = some a0 ∧ W.cell? ⟨B, 1, none⟩ = some a1 ∧ W.cell? ⟨B, 2, none⟩ = some a2 ∧ W.cell? ⟨B, 3, none⟩ = some a3 ∧ W.cell? ⟨B, 4, none⟩ = some a4 ∧ W.cell? ⟨B, 5, none⟩ = some a5 ∧ W.cell? ⟨B, 6, none⟩ = some a6 ∧ W.cell? ⟨B, 7, none⟩ = some a7 ∧ W.cell? ⟨B, 8, none⟩ = some a8 ∧ W.cell? ⟨B, 9, none⟩ = some a9 :=
  ⟨h.cell rfl, h.cell rfl, h.cell rfl, h.cell rfl, h.cell rfl, h.cell rfl, h.cell rfl, h.cell rfl, h.cell rfl, h.cell rfl⟩
theorem Row.set10 {W : World} {B : Nat} {t : TypeId} {a0 a1 a2 a3 a4 a5 a6 a7 a8 a9 : Value} (h : Row W B t #[a0, a1, a2, a3, a4, a5, a6, a7, a8, a9]) (b0 b1 b2 b3 b4 b5 b6 b7 b8 b9 : Value) :
    Row ((((((((((W.setCell ⟨B, 0, none⟩ b0).setCell ⟨B, 1, none⟩ b1).setCell ⟨B, 2, none⟩ b2).setCell ⟨B, 3, none⟩ b3).setCell ⟨B, 4, none⟩ b4).setCell ⟨B, 5, none⟩ b5).setCell ⟨B, 6, none⟩ b6).setCell ⟨B, 7, none⟩ b7).setCell ⟨B, 8, none⟩ b8).setCell ⟨B, 9, none⟩ b9) B t #[b0, b1, b2, b3, b4, b5, b6, b7, b8, b9] := by
  have h0 := h
  have h1 : Row (W.setCell ⟨B, 0, none⟩ b0) B t #[b0, a1, a2, a3, a4, a5, a6, a7, a8, a9] := h0.set 0 b0
  have h2 : Row ((W.setCell ⟨B, 0, none⟩ b0).setCell ⟨B, 1, none⟩ b1) B t #[b0, b1, a2, a3, a4, a5, a6, a7, a8, a9] := h1.set 1 b1
  have h3 : Row (((W.setCell ⟨B, 0, none⟩ b0).setCell ⟨B, 1, none⟩ b1).setCell ⟨B, 2, none⟩ b2) B t #[b0, b1, b2, a3, a4, a5, a6, a7, a8, a9] := h2.set 2 b2
  have h4 : Row ((((W.setCell ⟨B, 0, none⟩ b0).setCell ⟨B, 1, none⟩ b1).setCell ⟨B, 2, none⟩ b2).setCell ⟨B, 3, none⟩ b3) B t #[b0, b1, b2, b3, a4, a5, a6, a7, a8, a9] := h3.set 3 b3
  have h5 : Row (((((W.setCell ⟨B, 0, none⟩ b0).setCell ⟨B, 1, none⟩ b1).setCell ⟨B, 2, none⟩ b2).setCell ⟨B, 3, none⟩ b3).setCell ⟨B, 4, none⟩ b4) B t #[b0, b1, b2, b3, b4, a5, a6, a7, a8, a9] := h4.set 4 b4
  have h6 : Row ((((((W.setCell ⟨B, 0, none⟩ b0).setCell ⟨B, 1, none⟩ b1).setCell ⟨B, 2, none⟩ b2).setCell ⟨B, 3, none⟩ b3).setCell ⟨B, 4, none⟩ b4).setCell ⟨B, 5, none⟩ b5) B t #[b0, b1, b2, b3, b4, b5, a6, a7, a8, a9] := h5.set 5 b5
  have h7 : Row (((((((W.setCell ⟨B, 0, none⟩ b0).setCell ⟨B, 1, none⟩ b1).setCell ⟨B, 2, none⟩ b2).setCell ⟨B, 3, none⟩ b3).setCell ⟨B, 4, none⟩ b4).setCell ⟨B, 5, none⟩ b5).setCell ⟨B, 6, none⟩ b6) B t #[b0, b1, b2, b3, b4, b5, b6, a7, a8, a9] := h6.set 6 b6
  have h8 : Row ((((((((W.setCell ⟨B, 0, none⟩ b0).setCell ⟨B, 1, none⟩ b1).setCell ⟨B, 2, none⟩ b2).setCell ⟨B, 3, none⟩ b3).setCell ⟨B, 4, none⟩ b4).setCell ⟨B, 5, none⟩ b5).setCell ⟨B, 6, none⟩ b6).setCell ⟨B, 7, none⟩ b7) B t #[b0, b1, b2, b3, b4, b5, b6, b7, a8, a9] := h7.set 7 b7
  have h9 : Row (((((((((W.setCell ⟨B, 0, none⟩ b0).setCell ⟨B, 1, none⟩ b1).setCell ⟨B, 2, none⟩ b2).setCell ⟨B, 3, none⟩ b3).setCell ⟨B, 4, none⟩ b4).setCell ⟨B, 5, none⟩ b5).setCell ⟨B, 6, none⟩ b6).setCell ⟨B, 7, none⟩ b7).setCell ⟨B, 8, none⟩ b8) B t #[b0, b1, b2, b3, b4, b5, b6, b7, b8, a9] := h8.set 8 b8
  have h10 : Row ((((((((((W.setCell ⟨B, 0, none⟩ b0).setCell ⟨B, 1, none⟩ b1).setCell ⟨B, 2, none⟩ b2).setCell ⟨B, 3, none⟩ b3).setCell ⟨B, 4, none⟩ b4).setCell ⟨B, 5, none⟩ b5).setCell ⟨B, 6, none⟩ b6).setCell ⟨B, 7, none⟩ b7).setCell ⟨B, 8, none⟩ b8).setCell ⟨B, 9, none⟩ b9) B t #[b0, b1, b2, b3, b4, b5, b6, b7, b8, b9] := h9.set 9 b9
  exact h10
theorem below_set10 {N : Nat} {x W : World} (h : Below N x W) {B : Nat} (hN : N ≤ B) (b0 b1 b2 b3 b4 b5 b6 b7 b8 b9 : Value) :
    Below N x ((((((((((W.setCell ⟨B, 0, none⟩ b0).setCell ⟨B, 1, none⟩ b1).setCell ⟨B, 2, none⟩ b2).setCell ⟨B, 3, none⟩ b3).setCell ⟨B, 4, none⟩ b4).setCell ⟨B, 5, none⟩ b5).setCell ⟨B, 6, none⟩ b6).setCell ⟨B, 7, none⟩ b7).setCell ⟨B, 8, none⟩ b8).setCell ⟨B, 9, none⟩ b9) := below_set (below_set (below_set (below_set (below_set (below_set (below_set (below_set (below_set (below_set h 0 b0 hN) 1 b1 hN) 2 b2 hN) 3 b3 hN) 4 b4 hN) 5 b5 hN) 6 b6 hN) 7 b7 hN) 8 b8 hN) 9 b9 hN
/-- What dec's Parse tells: number and error. -/
def decT (l : List UInt8) : Int × Int × Int := if decide (255 < l.length) || !(readR l).2 then (0, 0, 40) else match parsedD l with
  | some p => (p.1, p.2, 0)
  | none => (0, 0, 30)
theorem decPv_eq (l : List UInt8) : decPv l = .tuple #[.agg #[.int .i64 (decT l).1, .int .i64 (decT l).2.1], .int .i64 (decT l).2.2] := by
  unfold decPv decT
  split
  · rfl
  · cases parsedD l <;> rfl
/-- What stands behind a number, step by step. -/
def numA (l : List UInt8) : List UInt8 := pastD l l
def numB (l : List UInt8) : List UInt8 := if (cutO (numA l) [46]).2 then pastD (cutO (numA l) [46]).1 (numA l) else numA l
def numC (l : List UInt8) : List UInt8 := if (cutO (numB l) [69, 101]).2 then pastD (cutO (cutO (numB l) [69, 101]).1 [43, 45]).1 (numB l) else numB l
def numN (l : List UInt8) : Nat := l.length - (numC l).length
def numberR (l : List UInt8) : Tk × Nat × Int := (⟨1, 0, [], (decT (l.take (numN l))).1, (decT (l.take (numN l))).2.1, Rf.zero⟩, numN l, (decT (l.take (numN l))).2.2)
def z10 : Array Value := #[.int .i64 0, .int .i64 0, .string .empty, .int .i64 0, .int .i64 0, .string .empty, .int .i64 0, .int .i64 0, .bool false, .bool false]
set_option maxRecDepth 100000 in
set_option maxHeartbeats 1000000 in
theorem number_tt (l b0 p1 b1 p2 p3 b2 : List UInt8) (x3 : Bool) (n : Nat) (dc de er : Int) (w : World)
    (h1 : ∀ W, Hid (Calls Tryz.prog 25 #[.string (bs l), .string (bs l)] W fun e w' => e = .returned (.string (bs b0)) ∧ Below W.heap.size W w'))
    (h2 : ∀ W, Hid (Calls Tryz.prog 26 #[.string (bs b0), .string ⟨#[46]⟩] W fun e w' => e = .returned (.tuple #[.string (bs p1), .bool true]) ∧ w' = W))
    (h3 : ∀ W, Hid (Calls Tryz.prog 25 #[.string (bs p1), .string (bs b0)] W fun e w' => e = .returned (.string (bs b1)) ∧ Below W.heap.size W w'))
    (h4 : ∀ W, Hid (Calls Tryz.prog 26 #[.string (bs b1), .string ⟨#[69, 101]⟩] W fun e w' => e = .returned (.tuple #[.string (bs p2), .bool true]) ∧ w' = W))
    (h5 : ∀ W, Hid (Calls Tryz.prog 26 #[.string (bs p2), .string ⟨#[43, 45]⟩] W fun e w' => e = .returned (.tuple #[.string (bs p3), .bool x3]) ∧ w' = W))
    (h6 : ∀ W, Hid (Calls Tryz.prog 25 #[.string (bs p3), .string (bs b1)] W fun e w' => e = .returned (.string (bs b2)) ∧ Below W.heap.size W w'))
    (hn1 : ((bs l).size : Int) - ((bs b2).size : Int) = (n : Int)) (hn2 : n ≤ (bs l).size) (hsz : (bs l).size ≤ 140737488351232)
    (h7 : ∀ W, Hid (Calls Tryz.prog 27 #[.string ((bs l).extract 0 n)] W fun e w' => e = .returned (.tuple #[.agg #[.int .i64 dc, .int .i64 de], .int .i64 er]) ∧ Below W.heap.size W w')) :
    Calls Tryz.prog 15 #[.string (bs l)] w fun e w' => e = tokR ⟨1, 0, [], dc, de, Rf.zero⟩ n er ∧ Below w.heap.size w w' := by
  have HZ : ∀ W, Below (w.alloc (.cells z10 34)).heap.size (w.alloc (.cells z10 34)) W → Hid (Row W w.heap.size 34 z10 ∧ Below w.heap.size w W) := fun W hW => one_row w W _ _ hW
  unfold z10 at HZ
  have hn3 : (n : Int) ≤ ((bs l).size : Int) := by omega
  go_enter Tryz.func15, Tryz.ntmps15
  go_wp2_with fail
  refine Calls.mono (h1 _).out ?_
  rintro _ w1 ⟨rfl, q1⟩
  clear h1
  go_wp2_with fail
  refine Calls.mono (h2 _).out ?_
  rintro _ w0 ⟨rfl, hw⟩
  rw [hw]
  clear hw w0 h2
  go_wp2_with fail
  refine Calls.mono (h3 _).out ?_
  rintro _ w2 ⟨rfl, q2⟩
  have q1 := q1.trans (q2.mono q1.size)
  clear h3 q2
  go_wp2_with fail
  refine Calls.mono (h4 _).out ?_
  rintro _ w0 ⟨rfl, hw⟩
  rw [hw]
  clear hw w0 h4
  go_wp2_with fail
  refine Calls.mono (h5 _).out ?_
  rintro _ w0 ⟨rfl, hw⟩
  rw [hw]
  clear hw w0 h5
  go_wp2_with fail
  refine Calls.mono (h6 _).out ?_
  rintro _ w4 ⟨rfl, q4⟩
  have q1 := q1.trans (q4.mono q1.size)
  clear h6 q4
  go_wp2_with fail
  refine Calls.mono (h7 _).out ?_
  rintro _ w5 ⟨rfl, q5⟩
  obtain ⟨hZ, hB⟩ := (HZ _ (q1.trans (q5.mono q1.size))).out
  clear h7 q1 q5 HZ
  obtain ⟨c0, c1, c2, c3, c4, c5, c6, c7, c8, c9⟩ := hZ.ten
  have fZ := hZ.frozen
  have lZ := hZ.lt
  have hE := (Row.set10 hZ (.int .i64 1) (.int .i64 0) (.string .empty) (.int .i64 dc) (.int .i64 de) (.string .empty) (.int .i64 0) (.int .i64 0) (.bool false) (.bool false)).alloc (.cells #[.int .i64 dc, .int .i64 de] 30)
  have hF := below_allocS (below_set10 hB (B := w.heap.size) (Nat.le_refl _) (.int .i64 1) (.int .i64 0) (.string .empty) (.int .i64 dc) (.int .i64 de) (.string .empty) (.int .i64 0) (.int .i64 0) (.bool false) (.bool false)) (.cells #[.int .i64 dc, .int .i64 de] 30)
  clear hZ hB
  go_wp2
  exact bodyPost_ret (ret_three_b (u := 3) (u2 := 4) rfl (g := w.heap.size) rfl rfl rfl (load34 hE rfl)) rfl ⟨rfl, hF⟩
set_option maxRecDepth 100000 in
set_option maxHeartbeats 1000000 in
theorem number_tf (l b0 p1 b1 p2 : List UInt8) (n : Nat) (dc de er : Int) (w : World)
    (h1 : ∀ W, Hid (Calls Tryz.prog 25 #[.string (bs l), .string (bs l)] W fun e w' => e = .returned (.string (bs b0)) ∧ Below W.heap.size W w'))
    (h2 : ∀ W, Hid (Calls Tryz.prog 26 #[.string (bs b0), .string ⟨#[46]⟩] W fun e w' => e = .returned (.tuple #[.string (bs p1), .bool true]) ∧ w' = W))
    (h3 : ∀ W, Hid (Calls Tryz.prog 25 #[.string (bs p1), .string (bs b0)] W fun e w' => e = .returned (.string (bs b1)) ∧ Below W.heap.size W w'))
    (h4 : ∀ W, Hid (Calls Tryz.prog 26 #[.string (bs b1), .string ⟨#[69, 101]⟩] W fun e w' => e = .returned (.tuple #[.string (bs p2), .bool false]) ∧ w' = W))
    (hn1 : ((bs l).size : Int) - ((bs b1).size : Int) = (n : Int)) (hn2 : n ≤ (bs l).size) (hsz : (bs l).size ≤ 140737488351232)
    (h7 : ∀ W, Hid (Calls Tryz.prog 27 #[.string ((bs l).extract 0 n)] W fun e w' => e = .returned (.tuple #[.agg #[.int .i64 dc, .int .i64 de], .int .i64 er]) ∧ Below W.heap.size W w')) :
    Calls Tryz.prog 15 #[.string (bs l)] w fun e w' => e = tokR ⟨1, 0, [], dc, de, Rf.zero⟩ n er ∧ Below w.heap.size w w' := by
  have HZ : ∀ W, Below (w.alloc (.cells z10 34)).heap.size (w.alloc (.cells z10 34)) W → Hid (Row W w.heap.size 34 z10 ∧ Below w.heap.size w W) := fun W hW => one_row w W _ _ hW
  unfold z10 at HZ
  have hn3 : (n : Int) ≤ ((bs l).size : Int) := by omega
  go_enter Tryz.func15, Tryz.ntmps15
  go_wp2_with fail
  refine Calls.mono (h1 _).out ?_
  rintro _ w1 ⟨rfl, q1⟩
  clear h1
  go_wp2_with fail
  refine Calls.mono (h2 _).out ?_
  rintro _ w0 ⟨rfl, hw⟩
  rw [hw]
  clear hw w0 h2
  go_wp2_with fail
  refine Calls.mono (h3 _).out ?_
  rintro _ w2 ⟨rfl, q2⟩
  have q1 := q1.trans (q2.mono q1.size)
  clear h3 q2
  go_wp2_with fail
  refine Calls.mono (h4 _).out ?_
  rintro _ w0 ⟨rfl, hw⟩
  rw [hw]
  clear hw w0 h4
  go_wp2_with fail
  refine Calls.mono (h7 _).out ?_
  rintro _ w5 ⟨rfl, q5⟩
  obtain ⟨hZ, hB⟩ := (HZ _ (q1.trans (q5.mono q1.size))).out
  clear h7 q1 q5 HZ
  obtain ⟨c0, c1, c2, c3, c4, c5, c6, c7, c8, c9⟩ := hZ.ten
  have fZ := hZ.frozen
  have lZ := hZ.lt
  have hE := (Row.set10 hZ (.int .i64 1) (.int .i64 0) (.string .empty) (.int .i64 dc) (.int .i64 de) (.string .empty) (.int .i64 0) (.int .i64 0) (.bool false) (.bool false)).alloc (.cells #[.int .i64 dc, .int .i64 de] 30)
  have hF := below_allocS (below_set10 hB (B := w.heap.size) (Nat.le_refl _) (.int .i64 1) (.int .i64 0) (.string .empty) (.int .i64 dc) (.int .i64 de) (.string .empty) (.int .i64 0) (.int .i64 0) (.bool false) (.bool false)) (.cells #[.int .i64 dc, .int .i64 de] 30)
  clear hZ hB
  go_wp2
  exact bodyPost_ret (ret_three_b (u := 3) (u2 := 4) rfl (g := w.heap.size) rfl rfl rfl (load34 hE rfl)) rfl ⟨rfl, hF⟩
set_option maxRecDepth 100000 in
set_option maxHeartbeats 1000000 in
theorem number_ft (l b0 p1 p2 p3 b2 : List UInt8) (x3 : Bool) (n : Nat) (dc de er : Int) (w : World)
    (h1 : ∀ W, Hid (Calls Tryz.prog 25 #[.string (bs l), .string (bs l)] W fun e w' => e = .returned (.string (bs b0)) ∧ Below W.heap.size W w'))
    (h2 : ∀ W, Hid (Calls Tryz.prog 26 #[.string (bs b0), .string ⟨#[46]⟩] W fun e w' => e = .returned (.tuple #[.string (bs p1), .bool false]) ∧ w' = W))
    (h4 : ∀ W, Hid (Calls Tryz.prog 26 #[.string (bs b0), .string ⟨#[69, 101]⟩] W fun e w' => e = .returned (.tuple #[.string (bs p2), .bool true]) ∧ w' = W))
    (h5 : ∀ W, Hid (Calls Tryz.prog 26 #[.string (bs p2), .string ⟨#[43, 45]⟩] W fun e w' => e = .returned (.tuple #[.string (bs p3), .bool x3]) ∧ w' = W))
    (h6 : ∀ W, Hid (Calls Tryz.prog 25 #[.string (bs p3), .string (bs b0)] W fun e w' => e = .returned (.string (bs b2)) ∧ Below W.heap.size W w'))
    (hn1 : ((bs l).size : Int) - ((bs b2).size : Int) = (n : Int)) (hn2 : n ≤ (bs l).size) (hsz : (bs l).size ≤ 140737488351232)
    (h7 : ∀ W, Hid (Calls Tryz.prog 27 #[.string ((bs l).extract 0 n)] W fun e w' => e = .returned (.tuple #[.agg #[.int .i64 dc, .int .i64 de], .int .i64 er]) ∧ Below W.heap.size W w')) :
    Calls Tryz.prog 15 #[.string (bs l)] w fun e w' => e = tokR ⟨1, 0, [], dc, de, Rf.zero⟩ n er ∧ Below w.heap.size w w' := by
  have HZ : ∀ W, Below (w.alloc (.cells z10 34)).heap.size (w.alloc (.cells z10 34)) W → Hid (Row W w.heap.size 34 z10 ∧ Below w.heap.size w W) := fun W hW => one_row w W _ _ hW
  unfold z10 at HZ
  have hn3 : (n : Int) ≤ ((bs l).size : Int) := by omega
  go_enter Tryz.func15, Tryz.ntmps15
  go_wp2_with fail
  refine Calls.mono (h1 _).out ?_
  rintro _ w1 ⟨rfl, q1⟩
  clear h1
  go_wp2_with fail
  refine Calls.mono (h2 _).out ?_
  rintro _ w0 ⟨rfl, hw⟩
  rw [hw]
  clear hw w0 h2
  go_wp2_with fail
  refine Calls.mono (h4 _).out ?_
  rintro _ w0 ⟨rfl, hw⟩
  rw [hw]
  clear hw w0 h4
  go_wp2_with fail
  refine Calls.mono (h5 _).out ?_
  rintro _ w0 ⟨rfl, hw⟩
  rw [hw]
  clear hw w0 h5
  go_wp2_with fail
  refine Calls.mono (h6 _).out ?_
  rintro _ w4 ⟨rfl, q4⟩
  have q1 := q1.trans (q4.mono q1.size)
  clear h6 q4
  go_wp2_with fail
  refine Calls.mono (h7 _).out ?_
  rintro _ w5 ⟨rfl, q5⟩
  obtain ⟨hZ, hB⟩ := (HZ _ (q1.trans (q5.mono q1.size))).out
  clear h7 q1 q5 HZ
  obtain ⟨c0, c1, c2, c3, c4, c5, c6, c7, c8, c9⟩ := hZ.ten
  have fZ := hZ.frozen
  have lZ := hZ.lt
  have hE := (Row.set10 hZ (.int .i64 1) (.int .i64 0) (.string .empty) (.int .i64 dc) (.int .i64 de) (.string .empty) (.int .i64 0) (.int .i64 0) (.bool false) (.bool false)).alloc (.cells #[.int .i64 dc, .int .i64 de] 30)
  have hF := below_allocS (below_set10 hB (B := w.heap.size) (Nat.le_refl _) (.int .i64 1) (.int .i64 0) (.string .empty) (.int .i64 dc) (.int .i64 de) (.string .empty) (.int .i64 0) (.int .i64 0) (.bool false) (.bool false)) (.cells #[.int .i64 dc, .int .i64 de] 30)
  clear hZ hB
  go_wp2
  exact bodyPost_ret (ret_three_b (u := 3) (u2 := 4) rfl (g := w.heap.size) rfl rfl rfl (load34 hE rfl)) rfl ⟨rfl, hF⟩
set_option maxRecDepth 100000 in
set_option maxHeartbeats 1000000 in
theorem number_ff (l b0 p1 p2 : List UInt8) (n : Nat) (dc de er : Int) (w : World)
    (h1 : ∀ W, Hid (Calls Tryz.prog 25 #[.string (bs l), .string (bs l)] W fun e w' => e = .returned (.string (bs b0)) ∧ Below W.heap.size W w'))
    (h2 : ∀ W, Hid (Calls Tryz.prog 26 #[.string (bs b0), .string ⟨#[46]⟩] W fun e w' => e = .returned (.tuple #[.string (bs p1), .bool false]) ∧ w' = W))
    (h4 : ∀ W, Hid (Calls Tryz.prog 26 #[.string (bs b0), .string ⟨#[69, 101]⟩] W fun e w' => e = .returned (.tuple #[.string (bs p2), .bool false]) ∧ w' = W))
    (hn1 : ((bs l).size : Int) - ((bs b0).size : Int) = (n : Int)) (hn2 : n ≤ (bs l).size) (hsz : (bs l).size ≤ 140737488351232)
    (h7 : ∀ W, Hid (Calls Tryz.prog 27 #[.string ((bs l).extract 0 n)] W fun e w' => e = .returned (.tuple #[.agg #[.int .i64 dc, .int .i64 de], .int .i64 er]) ∧ Below W.heap.size W w')) :
    Calls Tryz.prog 15 #[.string (bs l)] w fun e w' => e = tokR ⟨1, 0, [], dc, de, Rf.zero⟩ n er ∧ Below w.heap.size w w' := by
  have HZ : ∀ W, Below (w.alloc (.cells z10 34)).heap.size (w.alloc (.cells z10 34)) W → Hid (Row W w.heap.size 34 z10 ∧ Below w.heap.size w W) := fun W hW => one_row w W _ _ hW
  unfold z10 at HZ
  have hn3 : (n : Int) ≤ ((bs l).size : Int) := by omega
  go_enter Tryz.func15, Tryz.ntmps15
  go_wp2_with fail
  refine Calls.mono (h1 _).out ?_
  rintro _ w1 ⟨rfl, q1⟩
  clear h1
  go_wp2_with fail
  refine Calls.mono (h2 _).out ?_
  rintro _ w0 ⟨rfl, hw⟩
  rw [hw]
  clear hw w0 h2
  go_wp2_with fail
  refine Calls.mono (h4 _).out ?_
  rintro _ w0 ⟨rfl, hw⟩
  rw [hw]
  clear hw w0 h4
  go_wp2_with fail
  refine Calls.mono (h7 _).out ?_
  rintro _ w5 ⟨rfl, q5⟩
  obtain ⟨hZ, hB⟩ := (HZ _ (q1.trans (q5.mono q1.size))).out
  clear h7 q1 q5 HZ
  obtain ⟨c0, c1, c2, c3, c4, c5, c6, c7, c8, c9⟩ := hZ.ten
  have fZ := hZ.frozen
  have lZ := hZ.lt
  have hE := (Row.set10 hZ (.int .i64 1) (.int .i64 0) (.string .empty) (.int .i64 dc) (.int .i64 de) (.string .empty) (.int .i64 0) (.int .i64 0) (.bool false) (.bool false)).alloc (.cells #[.int .i64 dc, .int .i64 de] 30)
  have hF := below_allocS (below_set10 hB (B := w.heap.size) (Nat.le_refl _) (.int .i64 1) (.int .i64 0) (.string .empty) (.int .i64 dc) (.int .i64 de) (.string .empty) (.int .i64 0) (.int .i64 0) (.bool false) (.bool false)) (.cells #[.int .i64 dc, .int .i64 de] 30)
  clear hZ hB
  go_wp2
  exact bodyPost_ret (ret_three_b (u := 3) (u2 := 4) rfl (g := w.heap.size) rfl rfl rfl (load34 hE rfl)) rfl ⟨rfl, hF⟩
theorem pastD_len (l o : List UInt8) (h : l.length ≤ o.length) : (pastD l o).length ≤ o.length := by
  unfold pastD
  split
  · exact Nat.le_refl _
  · have := ahead_len l digL; omega
theorem cutO_len (l cs : List UInt8) : (cutO l cs).1.length ≤ l.length := by
  cases l with
  | nil => simp [cutO]
  | cons a r => unfold cutO; simp only; split <;> simp
theorem number_any (l : List UInt8) (hl : l.length ≤ 140737488351232) (w : World) :
    Calls Tryz.prog 15 #[.string (bs l)] w fun e w' => e = tokR (numberR l).1 (numberR l).2.1 (numberR l).2.2 ∧ Below w.heap.size w w' := by
  have g0 : (numA l).length ≤ l.length := pastD_len l l (Nat.le_refl _)
  have g1 := cutO_len (numA l) [46]
  have g2 : (numB l).length ≤ (numA l).length := by
    unfold numB
    split
    · exact pastD_len _ _ g1
    · exact Nat.le_refl _
  have g3 := cutO_len (numB l) [69, 101]
  have g4 := cutO_len (cutO (numB l) [69, 101]).1 [43, 45]
  have g5 : (numC l).length ≤ (numB l).length := by
    unfold numC
    split
    · exact pastD_len _ _ (by omega)
    · exact Nat.le_refl _
  have h1 : ∀ W, Hid (Calls Tryz.prog 25 #[.string (bs l), .string (bs l)] W fun e w' => e = .returned (.string (bs (numA l))) ∧ Below W.heap.size W w') := fun W => pastDigits_any l l (by omega) W
  have h2 : ∀ W, Hid (Calls Tryz.prog 26 #[.string (bs (numA l)), .string ⟨#[46]⟩] W fun e w' => e = .returned (.tuple #[.string (bs (cutO (numA l) [46]).1), .bool (cutO (numA l) [46]).2]) ∧ w' = W) := fun W => cutOne_any (numA l) [46] W
  have h3 : ∀ W, Hid _ := fun W => pastDigits_any (cutO (numA l) [46]).1 (numA l) (by omega) W
  have h4 : ∀ W, Hid (Calls Tryz.prog 26 #[.string (bs (numB l)), .string ⟨#[69, 101]⟩] W fun e w' => e = .returned (.tuple #[.string (bs (cutO (numB l) [69, 101]).1), .bool (cutO (numB l) [69, 101]).2]) ∧ w' = W) := fun W => cutOne_any (numB l) [69, 101] W
  have h5 : ∀ W, Hid (Calls Tryz.prog 26 #[.string (bs (cutO (numB l) [69, 101]).1), .string ⟨#[43, 45]⟩] W fun e w' => e = .returned (.tuple #[.string (bs (cutO (cutO (numB l) [69, 101]).1 [43, 45]).1), .bool (cutO (cutO (numB l) [69, 101]).1 [43, 45]).2]) ∧ w' = W) := fun W => cutOne_any (cutO (numB l) [69, 101]).1 [43, 45] W
  have h6 : ∀ W, Hid _ := fun W => pastDigits_any (cutO (cutO (numB l) [69, 101]).1 [43, 45]).1 (numB l) (by omega) W
  have h7 : ∀ W, Hid (Calls Tryz.prog 27 #[.string ((bs l).extract 0 (numN l))] W fun e w' => e = .returned (.tuple #[.agg #[.int .i64 (decT (l.take (numN l))).1, .int .i64 (decT (l.take (numN l))).2.1], .int .i64 (decT (l.take (numN l))).2.2]) ∧ Below W.heap.size W w') := fun W => by
    rw [bs_take, ← decPv_eq]
    exact dparse_any _ (by simp; omega) W
  have hn1 : ((bs l).size : Int) - ((bs (numC l)).size : Int) = (numN l : Int) := by rw [bs_size, bs_size]; unfold numN; omega
  have hn2 : numN l ≤ (bs l).size := by rw [bs_size]; unfold numN; omega
  have hsz : (bs l).size ≤ 140737488351232 := by rw [bs_size]; exact hl
  unfold numberR
  simp only
  cases i1 : (cutO (numA l) [46]).2
  · rw [i1] at h2
    have eB : numB l = numA l := by unfold numB; rw [i1]; rfl
    rw [eB] at h4 h5 h6
    cases i2 : (cutO (numA l) [69, 101]).2
    · rw [i2] at h4
      have eC : numC l = numA l := by unfold numC; rw [eB, i2]; rfl
      rw [eC] at hn1
      exact number_ff l _ _ _ _ _ _ _ w h1 h2 h4 hn1 hn2 hsz h7
    · rw [i2] at h4
      have eC : numC l = pastD (cutO (cutO (numA l) [69, 101]).1 [43, 45]).1 (numA l) := by unfold numC; rw [eB, i2]; rfl
      rw [eC] at hn1
      exact number_ft l _ _ _ _ _ _ _ _ _ _ w h1 h2 h4 h5 h6 hn1 hn2 hsz h7
  · rw [i1] at h2
    have eB : numB l = pastD (cutO (numA l) [46]).1 (numA l) := by unfold numB; rw [i1]; rfl
    rw [← eB] at h3
    cases i2 : (cutO (numB l) [69, 101]).2
    · rw [i2] at h4
      have eC : numC l = numB l := by unfold numC; rw [i2]; rfl
      rw [eC] at hn1
      exact number_tf l _ _ _ _ _ _ _ _ w h1 h2 h3 h4 hn1 hn2 hsz h7
    · rw [i2] at h4
      have eC : numC l = pastD (cutO (cutO (numB l) [69, 101]).1 [43, 45]).1 (numB l) := by unfold numC; rw [i2]; rfl
      rw [eC] at hn1
      exact number_tt l _ _ _ _ _ _ _ _ _ _ _ w h1 h2 h3 h4 h5 h6 hn1 hn2 hsz h7
end Go.Proofs.YtgihginfegckcaaGreatDoor
