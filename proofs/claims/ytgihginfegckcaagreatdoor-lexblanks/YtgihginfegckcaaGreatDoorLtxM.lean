import Derived.Test.YtgihginfegckcaaGreatDoorLnu
import Derived.Lib.SplitLaws
/- lex's text, onSheet, run. -/
namespace Go.Proofs.YtgihginfegckcaaGreatDoor
open Go.RowKit

/-- What the table of marks and the library's variable hold. -/
structure LexE (w : World) : Prop where
  marks : Marks w
  max : ∃ m, w.cell? ⟨1, 0, none⟩ = some (.int .i64 m)
theorem LexE.below {w w' : World} (h : LexE w) (hB : Below w.heap.size w w') : LexE w' := by
  have hc : ∀ {b o : Nat} {v : Value}, w.cell? ⟨b, o, none⟩ = some v → w'.cell? ⟨b, o, none⟩ = some v := fun {b o v} hv => (World.cell?_of_block (w := w) (hB.block b (cell_lt hv))).trans hv
  obtain ⟨⟨m0, m1, m2, m3, m4, m5, m6, m7, m8, m9, m10, m11, m12, m13, m14, m15, m16⟩, m, hm⟩ := h
  exact ⟨⟨hc m0, hc m1, hc m2, hc m3, hc m4, hc m5, hc m6, hc m7, hc m8, hc m9, hc m10, hc m11, hc m12, hc m13, hc m14, hc m15, hc m16⟩, m, hc hm⟩
/-- What a text between two quotes stands for. -/
def innerL (l : List UInt8) : List UInt8 := Lib.replaceAll ((l.take (quotedN l - 1)).drop 1) [34, 34] [34]
def textR (l : List UInt8) : Tk × Nat × Int := if quotedN l = 0 then (Tk.zero, 0, 40) else if 255 < (innerL l).length then (Tk.zero, 0, 3) else (⟨2, 0, innerL l, 0, 0, Rf.zero⟩, quotedN l, errX (xmlL (natsOf (bs (innerL l)))))
set_option maxRecDepth 100000 in
set_option maxHeartbeats 1000000 in
theorem text_no (l : List UInt8) (w : World)
    (h1 : ∀ W, Hid (Calls Tryz.prog 18 #[.string (bs l)] W fun e w' => e = .returned (.int .i64 0) ∧ w' = W)) :
    Calls Tryz.prog 16 #[.string (bs l)] w fun e w' => e = tokR Tk.zero 0 40 ∧ Below w.heap.size w w' := by
  go_enter Tryz.func16, Tryz.ntmps16
  go_wp2_with fail
  refine Calls.mono (h1 _).out ?_
  rintro _ w0 ⟨rfl, hw⟩
  rw [hw]
  clear hw w0 h1
  go_wp2
  exact bodyPost_ret (ret_three_b (u := 3) (u2 := 4) rfl (g := w.heap.size) rfl rfl rfl (load34 (Row.new w 34 _) rfl)) rfl ⟨rfl, (Below.refl _ w).alloc (Nat.le_refl _) _⟩
set_option maxRecDepth 100000 in
set_option maxHeartbeats 1000000 in
theorem text_big (l I : List UInt8) (n : Nat) (w : World) (hn : 2 ≤ n) (hn2 : n ≤ (bs l).size) (hsz : (bs l).size ≤ 1000000)
    (h1 : ∀ W, Hid (Calls Tryz.prog 18 #[.string (bs l)] W fun e w' => e = .returned (.int .i64 (n : Int)) ∧ w' = W))
    (h2 : ∀ W, Below w.heap.size w W → Hid (Calls Tryz.prog 23 #[.string ((bs l).extract 1 (n - 1)), .string ⟨#[34, 34]⟩, .string ⟨#[34]⟩] W fun e w' => e = .returned (.string (bs I)) ∧ Below W.heap.size W w'))
    (hI : 255 < (bs I).size) :
    Calls Tryz.prog 16 #[.string (bs l)] w fun e w' => e = tokR Tk.zero 0 3 ∧ Below w.heap.size w w' := by
  have t1 : ((n : Int) == 0) = false := beq_eq_false_iff_ne.2 (by omega)
  have t2 : (n : Int) - 1 = ((n - 1 : Nat) : Int) := by omega
  have t3 : (1 : Int) ≤ ((n - 1 : Nat) : Int) := by omega
  have t4 : ((n - 1 : Nat) : Int) ≤ ((bs l).size : Int) := by omega
  have t5 : (255 : Int) < ((bs I).size : Int) := by omega
  have t6 : n - 1 ≤ (bs l).size := by omega
  generalize n - 1 = k at *
  have HZ : ∀ W, Below (w.alloc (.cells z10 34)).heap.size (w.alloc (.cells z10 34)) W → Hid (Row W w.heap.size 34 z10 ∧ Below w.heap.size w W) := fun W hW => one_row w W _ _ hW
  unfold z10 at HZ
  clear hI
  go_enter Tryz.func16, Tryz.ntmps16
  go_wp2_with fail
  refine Calls.mono (h1 _).out ?_
  rintro _ w0 ⟨rfl, hw⟩
  rw [hw]
  clear hw w0 h1
  go_wp2_with fail
  refine Calls.mono (h2 _ ((Below.refl _ w).alloc (Nat.le_refl _) _)).out ?_
  rintro _ w1 ⟨rfl, q1⟩
  clear h2
  obtain ⟨hZ, hB⟩ := (HZ _ q1).out
  clear q1 HZ
  obtain ⟨c0, c1, c2, c3, c4, c5, c6, c7, c8, c9⟩ := hZ.ten
  have fZ := hZ.frozen
  have lZ := hZ.lt
  have hE := (Row.set10 hZ (.int .i64 0) (.int .i64 0) (.string .empty) (.int .i64 0) (.int .i64 0) (.string .empty) (.int .i64 0) (.int .i64 0) (.bool false) (.bool false))
  have hF := below_set10 hB (B := w.heap.size) (Nat.le_refl _) (.int .i64 0) (.int .i64 0) (.string .empty) (.int .i64 0) (.int .i64 0) (.string .empty) (.int .i64 0) (.int .i64 0) (.bool false) (.bool false)
  clear hZ hB
  go_wp2
  exact bodyPost_ret (ret_three_b (u := 3) (u2 := 4) rfl (g := w.heap.size) rfl rfl rfl (load34 hE rfl)) rfl ⟨rfl, hF⟩
set_option maxRecDepth 100000 in
set_option maxHeartbeats 1000000 in
theorem text_ok (l I : List UInt8) (n : Nat) (er : Int) (w : World) (hn : 2 ≤ n) (hn2 : n ≤ (bs l).size) (hsz : (bs l).size ≤ 1000000)
    (h1 : ∀ W, Hid (Calls Tryz.prog 18 #[.string (bs l)] W fun e w' => e = .returned (.int .i64 (n : Int)) ∧ w' = W))
    (h2 : ∀ W, Below w.heap.size w W → Hid (Calls Tryz.prog 23 #[.string ((bs l).extract 1 (n - 1)), .string ⟨#[34, 34]⟩, .string ⟨#[34]⟩] W fun e w' => e = .returned (.string (bs I)) ∧ Below W.heap.size W w'))
    (h3 : ∀ W, Hid (Calls Tryz.prog 28 #[.string (bs I)] W fun e w' => e = .returned (.int .i64 er) ∧ Below W.heap.size W w')) (hI : (bs I).size ≤ 255) :
    Calls Tryz.prog 16 #[.string (bs l)] w fun e w' => e = tokR ⟨2, 0, I, 0, 0, Rf.zero⟩ n er ∧ Below w.heap.size w w' := by
  have t1 : ((n : Int) == 0) = false := beq_eq_false_iff_ne.2 (by omega)
  have t2 : (n : Int) - 1 = ((n - 1 : Nat) : Int) := by omega
  have t3 : (1 : Int) ≤ ((n - 1 : Nat) : Int) := by omega
  have t4 : ((n - 1 : Nat) : Int) ≤ ((bs l).size : Int) := by omega
  have t5 : decide ((255 : Int) < ((bs I).size : Int)) = false := decide_eq_false (by omega)
  have t6 : n - 1 ≤ (bs l).size := by omega
  generalize n - 1 = k at *
  have HZ : ∀ W, Below (w.alloc (.cells z10 34)).heap.size (w.alloc (.cells z10 34)) W → Hid (Row W w.heap.size 34 z10 ∧ Below w.heap.size w W) := fun W hW => one_row w W _ _ hW
  unfold z10 at HZ
  clear hI
  go_enter Tryz.func16, Tryz.ntmps16
  go_wp2_with fail
  refine Calls.mono (h1 _).out ?_
  rintro _ w0 ⟨rfl, hw⟩
  rw [hw]
  clear hw w0 h1
  go_wp2_with fail
  refine Calls.mono (h2 _ ((Below.refl _ w).alloc (Nat.le_refl _) _)).out ?_
  rintro _ w1 ⟨rfl, q1⟩
  clear h2
  go_wp2_with fail
  refine Calls.mono (h3 _).out ?_
  rintro _ w2 ⟨rfl, q2⟩
  obtain ⟨hZ, hB⟩ := (HZ _ (q1.trans (q2.mono q1.size))).out
  clear q1 q2 h3 HZ
  obtain ⟨c0, c1, c2, c3, c4, c5, c6, c7, c8, c9⟩ := hZ.ten
  have fZ := hZ.frozen
  have lZ := hZ.lt
  have hE := (Row.set10 hZ (.int .i64 2) (.int .i64 0) (.string (bs I)) (.int .i64 0) (.int .i64 0) (.string .empty) (.int .i64 0) (.int .i64 0) (.bool false) (.bool false))
  have hF := below_set10 hB (B := w.heap.size) (Nat.le_refl _) (.int .i64 2) (.int .i64 0) (.string (bs I)) (.int .i64 0) (.int .i64 0) (.string .empty) (.int .i64 0) (.int .i64 0) (.bool false) (.bool false)
  clear hZ hB
  go_wp2
  exact bodyPost_ret (ret_three_b (u := 3) (u2 := 4) rfl (g := w.heap.size) rfl rfl rfl (load34 hE rfl)) rfl ⟨rfl, hF⟩
/-- The signs of a cell behind a sheet's name. -/
def plcL : List UInt8 := [65, 66, 67, 68, 69, 70, 71, 72, 73, 74, 75, 76, 77, 78, 79, 80, 81, 82, 83, 84, 85, 86, 87, 88, 89, 90, 48, 49, 50, 51, 52, 53, 54, 55, 56, 57, 36]
def shN (l : List UInt8) (n : Nat) : Nat := n + 1 + (aheadL (Lib.trimPrefix (l.drop n) [33]) plcL).length
def onSheetR (l : List UInt8) (n : Nat) : Tk × Nat × Int := if Lib.hasPrefix (l.drop n) [33] then (⟨3, 0, [], 0, 0, (parseR (l.take (shN l n))).1⟩, shN l n, (parseR (l.take (shN l n))).2) else (Tk.zero, 0, 40)
set_option maxRecDepth 100000 in
set_option maxHeartbeats 1000000 in
theorem onSheet_no (l m : List UInt8) (n : Nat) (w : World) (hn2 : n ≤ (bs l).size)
    (h1 : ∀ W, Hid (Calls Tryz.prog 29 #[.string ((bs l).extract n (bs l).size), .string ⟨#[33]⟩] W fun e w' => e = .returned (.tuple #[.string (bs m), .bool false]) ∧ w' = W)) :
    Calls Tryz.prog 17 #[.string (bs l), .int .i64 (n : Int)] w fun e w' => e = tokR Tk.zero 0 40 ∧ Below w.heap.size w w' := by
  have t1 : (n : Int) ≤ ((bs l).size : Int) := by omega
  go_enter Tryz.func17, Tryz.ntmps17
  go_wp2_with fail
  refine Calls.mono (h1 _).out ?_
  rintro _ w0 ⟨rfl, hw⟩
  rw [hw]
  clear hw w0 h1
  go_wp2
  exact bodyPost_ret (ret_three_b (u := 5) (u2 := 6) rfl (g := w.heap.size) rfl rfl rfl (load34 (Row.new w 34 _) rfl)) rfl ⟨rfl, (Below.refl _ w).alloc (Nat.le_refl _) _⟩
set_option maxRecDepth 100000 in
set_option maxHeartbeats 1000000 in
theorem onSheet_ok (l m C D : List UInt8) (n k : Nat) (xs : ByteArray) (xc xr : Int) (xa xb : Bool) (er : Int) (w : World) (hn2 : n ≤ (bs l).size) (hsz : (bs l).size ≤ 1000000) (hk : (n : Int) + 1 + ((bs C).size : Int) = (k : Int)) (hk2 : k ≤ (bs l).size)
    (h1 : ∀ W, Hid (Calls Tryz.prog 29 #[.string ((bs l).extract n (bs l).size), .string ⟨#[33]⟩] W fun e w' => e = .returned (.tuple #[.string (bs m), .bool true]) ∧ w' = W))
    (h2 : ∀ W, Hid (Calls Tryz.prog 30 #[.string (bs m), .string ⟨#[65, 66, 67, 68, 69, 70, 71, 72, 73, 74, 75, 76, 77, 78, 79, 80, 81, 82, 83, 84, 85, 86, 87, 88, 89, 90, 48, 49, 50, 51, 52, 53, 54, 55, 56, 57, 36]⟩] W fun e w' => e = .returned (.tuple #[.string (bs C), .string (bs D)]) ∧ Below W.heap.size W w'))
    (h3 : ∀ W, Hid (Calls Tryz.prog 31 #[.string ((bs l).extract 0 k)] W fun e w' => e = .returned (.tuple #[.agg #[.string xs, .int .i64 xc, .int .i64 xr, .bool xa, .bool xb], .int .i64 er]) ∧ Below W.heap.size W w')) :
    Calls Tryz.prog 17 #[.string (bs l), .int .i64 (n : Int)] w fun e w' => e = tokR ⟨3, 0, [], 0, 0, ⟨xs, xc, xr, xa, xb⟩⟩ k er ∧ Below w.heap.size w w' := by
  have t1 : (n : Int) ≤ ((bs l).size : Int) := by omega
  have t2 : (k : Int) ≤ ((bs l).size : Int) := by omega
  have HZ : ∀ W, Below (w.alloc (.cells z10 34)).heap.size (w.alloc (.cells z10 34)) W → Hid (Row W w.heap.size 34 z10 ∧ Below w.heap.size w W) := fun W hW => one_row w W _ _ hW
  unfold z10 at HZ
  go_enter Tryz.func17, Tryz.ntmps17
  go_wp2_with fail
  refine Calls.mono (h1 _).out ?_
  rintro _ w0 ⟨rfl, hw⟩
  rw [hw]
  clear hw w0 h1
  go_wp2_with fail
  refine Calls.mono (h2 _).out ?_
  rintro _ w1 ⟨rfl, q1⟩
  clear h2
  go_wp2_with fail
  refine Calls.mono (h3 _).out ?_
  rintro _ w2 ⟨rfl, q2⟩
  obtain ⟨hZ, hB⟩ := (HZ _ (q1.trans (q2.mono q1.size))).out
  clear q1 q2 h3 HZ
  obtain ⟨c0, c1, c2, c3, c4, c5, c6, c7, c8, c9⟩ := hZ.ten
  have fZ := hZ.frozen
  have lZ := hZ.lt
  have hE := (Row.set10 hZ (.int .i64 3) (.int .i64 0) (.string .empty) (.int .i64 0) (.int .i64 0) (.string xs) (.int .i64 xc) (.int .i64 xr) (.bool xa) (.bool xb)).alloc (.cells #[.string xs, .int .i64 xc, .int .i64 xr, .bool xa, .bool xb] 32)
  have hF := below_allocS (below_set10 hB (B := w.heap.size) (Nat.le_refl _) (.int .i64 3) (.int .i64 0) (.string .empty) (.int .i64 0) (.int .i64 0) (.string xs) (.int .i64 xc) (.int .i64 xr) (.bool xa) (.bool xb)) (.cells #[.string xs, .int .i64 xc, .int .i64 xr, .bool xa, .bool xb] 32)
  clear hZ hB
  go_wp2
  exact bodyPost_ret (ret_three_b (u := 5) (u2 := 6) rfl (g := w.heap.size) rfl rfl rfl (load34 hE rfl)) rfl ⟨rfl, hF⟩
end Go.Proofs.YtgihginfegckcaaGreatDoor
/- lex's run, way by way. -/
namespace Go.Proofs.YtgihginfegckcaaGreatDoor
open Go.RowKit

/-- The signs of a word. -/
def wthL : List UInt8 := [65, 66, 67, 68, 69, 70, 71, 72, 73, 74, 75, 76, 77, 78, 79, 80, 81, 82, 83, 84, 85, 86, 87, 88, 89, 90, 97, 98, 99, 100, 101, 102, 103, 104, 105, 106, 107, 108, 109, 110, 111, 112, 113, 114, 115, 116, 117, 118, 119, 120, 121, 122, 95, 36, 48, 49, 50, 51, 52, 53, 54, 55, 56, 57, 46]
def runR (l : List UInt8) : Tk × Nat × Int :=
  if Lib.hasPrefix (behindL l wthL) [33] && !Lib.containsAny (aheadL l wthL) [36, 46] then onSheetR l (aheadL l wthL).length
  else if !decide ((parseR (aheadL l wthL)).2 = 40) && !Lib.hasPrefix (behindL l wthL) [40] then (⟨3, 0, [], 0, 0, (parseR (aheadL l wthL)).1⟩, (aheadL l wthL).length, (parseR (aheadL l wthL)).2)
  else if (aheadL l wthL).contains 36 then (Tk.zero, 0, 40) else (⟨4, 0, aheadL l wthL, 0, 0, Rf.zero⟩, (aheadL l wthL).length, 0)
set_option maxRecDepth 100000 in
set_option maxHeartbeats 1000000 in
theorem run_sheet (l C D : List UInt8) (t : Tk) (k : Nat) (er : Int) (w : World)
    (h1 : ∀ W, Hid (Calls Tryz.prog 30 #[.string (bs l), .string ⟨([65, 66, 67, 68, 69, 70, 71, 72, 73, 74, 75, 76, 77, 78, 79, 80, 81, 82, 83, 84, 85, 86, 87, 88, 89, 90, 97, 98, 99, 100, 101, 102, 103, 104, 105, 106, 107, 108, 109, 110, 111, 112, 113, 114, 115, 116, 117, 118, 119, 120, 121, 122, 95, 36, 48, 49, 50, 51, 52, 53, 54, 55, 56, 57, 46].toArray)⟩] W fun e w' => e = .returned (.tuple #[.string (bs C), .string (bs D)]) ∧ Below W.heap.size W w'))
    (h2 : ∀ W, Hid (Calls Tryz.prog 20 #[.string (bs D), .string ⟨#[33]⟩] W fun e w' => e = .returned (.bool true) ∧ w' = W))
    (h3 : ∀ W, Hid (Calls Tryz.prog 32 #[.string (bs C), .string ⟨#[36, 46]⟩] W fun e w' => e = .returned (.bool false) ∧ Below W.heap.size W w'))
    (h4 : ∀ W, Hid (Calls Tryz.prog 17 #[.string (bs l), .int .i64 ((bs C).size : Int)] W fun e w' => e = tokR t k er ∧ Below W.heap.size W w')) :
    Calls Tryz.prog 19 #[.string (bs l)] w fun e w' => e = tokR t k er ∧ Below w.heap.size w w' := by
  unfold tokR Tk.v Tk.cells at h4
  have HZ : ∀ W, Below (w.alloc (.cells z10 34)).heap.size (w.alloc (.cells z10 34)) W → Hid (Row W w.heap.size 34 z10 ∧ Below w.heap.size w W) := fun W hW => one_row w W _ _ hW
  unfold z10 at HZ
  go_enter Tryz.func19, Tryz.ntmps19
  go_wp2_with fail
  refine Calls.mono (h1 _).out ?_
  rintro _ w1 ⟨rfl, q1⟩
  clear h1
  go_wp2_with fail
  refine Calls.mono (h2 _).out ?_
  rintro _ w0 ⟨rfl, hw⟩
  rw [hw]
  clear hw w0 h2
  go_wp2_with fail
  refine Calls.mono (h3 _).out ?_
  rintro _ w2 ⟨rfl, q2⟩
  clear h3
  go_wp2_with fail
  refine Calls.mono (h4 _).out ?_
  rintro _ w3 ⟨rfl, q3⟩
  have q1 := q1.trans (q2.mono q1.size)
  obtain ⟨hZ, hB⟩ := (HZ _ (q1.trans (q3.mono q1.size))).out
  clear q1 q2 q3 h4 HZ
  obtain ⟨c0, c1, c2, c3, c4, c5, c6, c7, c8, c9⟩ := hZ.ten
  have fZ := hZ.frozen
  have lZ := hZ.lt
  have hE := (Row.set10 hZ (.int .i64 t.k) (.int .i64 t.at') (.string (bs t.s)) (.int .i64 t.c) (.int .i64 t.e) (.string t.r.s) (.int .i64 t.r.c) (.int .i64 t.r.r) (.bool t.r.ac) (.bool t.r.ar))
  have hF := below_set10 hB (B := w.heap.size) (Nat.le_refl _) (.int .i64 t.k) (.int .i64 t.at') (.string (bs t.s)) (.int .i64 t.c) (.int .i64 t.e) (.string t.r.s) (.int .i64 t.r.c) (.int .i64 t.r.r) (.bool t.r.ac) (.bool t.r.ar)
  clear hZ hB
  go_wp2
  exact bodyPost_ret (ret_three_b (u := 3) (u2 := 4) rfl (g := w.heap.size) rfl rfl rfl (load34 hE rfl)) rfl ⟨rfl, hF⟩
set_option maxRecDepth 100000 in
set_option maxHeartbeats 1000000 in
theorem run_ref_n (l C D : List UInt8) (xs : ByteArray) (xc xr : Int) (xa xb : Bool) (er : Int) (w : World)
    (h1 : ∀ W, Hid (Calls Tryz.prog 30 #[.string (bs l), .string ⟨([65, 66, 67, 68, 69, 70, 71, 72, 73, 74, 75, 76, 77, 78, 79, 80, 81, 82, 83, 84, 85, 86, 87, 88, 89, 90, 97, 98, 99, 100, 101, 102, 103, 104, 105, 106, 107, 108, 109, 110, 111, 112, 113, 114, 115, 116, 117, 118, 119, 120, 121, 122, 95, 36, 48, 49, 50, 51, 52, 53, 54, 55, 56, 57, 46].toArray)⟩] W fun e w' => e = .returned (.tuple #[.string (bs C), .string (bs D)]) ∧ Below W.heap.size W w'))
    (h2 : ∀ W, Hid (Calls Tryz.prog 20 #[.string (bs D), .string ⟨#[33]⟩] W fun e w' => e = .returned (.bool false) ∧ w' = W))
    (h5 : ∀ W, Hid (Calls Tryz.prog 31 #[.string (bs C)] W fun e w' => e = .returned (.tuple #[.agg #[.string xs, .int .i64 xc, .int .i64 xr, .bool xa, .bool xb], .int .i64 er]) ∧ Below W.heap.size W w'))
    (hne : (er != 40) = true) (h6 : ∀ W, Hid (Calls Tryz.prog 20 #[.string (bs D), .string ⟨#[40]⟩] W fun e w' => e = .returned (.bool false) ∧ w' = W)) :
    Calls Tryz.prog 19 #[.string (bs l)] w fun e w' => e = tokR ⟨3, 0, [], 0, 0, ⟨xs, xc, xr, xa, xb⟩⟩ (bs C).size er ∧ Below w.heap.size w w' := by
  have HZ : ∀ W, Below (w.alloc (.cells z10 34)).heap.size (w.alloc (.cells z10 34)) W → Hid (Row W w.heap.size 34 z10 ∧ Below w.heap.size w W) := fun W hW => one_row w W _ _ hW
  unfold z10 at HZ
  go_enter Tryz.func19, Tryz.ntmps19
  go_wp2_with fail
  refine Calls.mono (h1 _).out ?_
  rintro _ w1 ⟨rfl, q1⟩
  clear h1
  go_wp2_with fail
  refine Calls.mono (h2 _).out ?_
  rintro _ w0 ⟨rfl, hw⟩
  rw [hw]
  clear hw w0 h2
  go_wp2_with fail
  refine Calls.mono (h5 _).out ?_
  rintro _ w3 ⟨rfl, q3⟩
  obtain ⟨hZ, hB⟩ := (HZ _ (q1.trans (q3.mono q1.size))).out
  clear q1 q3 h5 HZ
  go_wp2_with fail
  refine Calls.mono (h6 _).out ?_
  rintro _ w0 ⟨rfl, hw⟩
  rw [hw]
  clear hw w0 h6
  obtain ⟨c0, c1, c2, c3, c4, c5, c6, c7, c8, c9⟩ := hZ.ten
  have fZ := hZ.frozen
  have lZ := hZ.lt
  have hE := (Row.set10 hZ (.int .i64 3) (.int .i64 0) (.string .empty) (.int .i64 0) (.int .i64 0) (.string xs) (.int .i64 xc) (.int .i64 xr) (.bool xa) (.bool xb)).alloc (.cells #[.string xs, .int .i64 xc, .int .i64 xr, .bool xa, .bool xb] 32)
  have hF := below_allocS (below_set10 hB (B := w.heap.size) (Nat.le_refl _) (.int .i64 3) (.int .i64 0) (.string .empty) (.int .i64 0) (.int .i64 0) (.string xs) (.int .i64 xc) (.int .i64 xr) (.bool xa) (.bool xb)) (.cells #[.string xs, .int .i64 xc, .int .i64 xr, .bool xa, .bool xb] 32)
  clear hZ hB
  go_wp2
  exact bodyPost_ret (ret_three_b (u := 3) (u2 := 4) rfl (g := w.heap.size) rfl rfl rfl (load34 hE rfl)) rfl ⟨rfl, hF⟩
set_option maxRecDepth 100000 in
set_option maxHeartbeats 1000000 in
theorem run_ed_n (l C D : List UInt8) (xs : ByteArray) (xc xr : Int) (xa xb : Bool) (er : Int) (w : World)
    (h1 : ∀ W, Hid (Calls Tryz.prog 30 #[.string (bs l), .string ⟨([65, 66, 67, 68, 69, 70, 71, 72, 73, 74, 75, 76, 77, 78, 79, 80, 81, 82, 83, 84, 85, 86, 87, 88, 89, 90, 97, 98, 99, 100, 101, 102, 103, 104, 105, 106, 107, 108, 109, 110, 111, 112, 113, 114, 115, 116, 117, 118, 119, 120, 121, 122, 95, 36, 48, 49, 50, 51, 52, 53, 54, 55, 56, 57, 46].toArray)⟩] W fun e w' => e = .returned (.tuple #[.string (bs C), .string (bs D)]) ∧ Below W.heap.size W w'))
    (h2 : ∀ W, Hid (Calls Tryz.prog 20 #[.string (bs D), .string ⟨#[33]⟩] W fun e w' => e = .returned (.bool false) ∧ w' = W))
    (h5 : ∀ W, Hid (Calls Tryz.prog 31 #[.string (bs C)] W fun e w' => e = .returned (.tuple #[.agg #[.string xs, .int .i64 xc, .int .i64 xr, .bool xa, .bool xb], .int .i64 er]) ∧ Below W.heap.size W w'))
    (hne : (er != 40) = false) (h7 : ∀ W, Hid (Calls Tryz.prog 33 #[.string (bs C), .string ⟨#[36]⟩] W fun e w' => e = .returned (.bool true) ∧ w' = W)) :
    Calls Tryz.prog 19 #[.string (bs l)] w fun e w' => e = tokR Tk.zero 0 40 ∧ Below w.heap.size w w' := by
  have HZ : ∀ W, Below (w.alloc (.cells z10 34)).heap.size (w.alloc (.cells z10 34)) W → Hid (Row W w.heap.size 34 z10 ∧ Below w.heap.size w W) := fun W hW => one_row w W _ _ hW
  unfold z10 at HZ
  go_enter Tryz.func19, Tryz.ntmps19
  go_wp2_with fail
  refine Calls.mono (h1 _).out ?_
  rintro _ w1 ⟨rfl, q1⟩
  clear h1
  go_wp2_with fail
  refine Calls.mono (h2 _).out ?_
  rintro _ w0 ⟨rfl, hw⟩
  rw [hw]
  clear hw w0 h2
  go_wp2_with fail
  refine Calls.mono (h5 _).out ?_
  rintro _ w3 ⟨rfl, q3⟩
  obtain ⟨hZ, hB⟩ := (HZ _ (q1.trans (q3.mono q1.size))).out
  clear q1 q3 h5 HZ
  go_wp2_with fail
  refine Calls.mono (h7 _).out ?_
  rintro _ w0 ⟨rfl, hw⟩
  rw [hw]
  clear hw w0 h7
  obtain ⟨c0, c1, c2, c3, c4, c5, c6, c7, c8, c9⟩ := hZ.ten
  have fZ := hZ.frozen
  have lZ := hZ.lt
  have hE := (Row.set10 hZ (.int .i64 0) (.int .i64 0) (.string .empty) (.int .i64 0) (.int .i64 0) (.string .empty) (.int .i64 0) (.int .i64 0) (.bool false) (.bool false)).alloc (.cells #[.string xs, .int .i64 xc, .int .i64 xr, .bool xa, .bool xb] 32)
  have hF := below_allocS (below_set10 hB (B := w.heap.size) (Nat.le_refl _) (.int .i64 0) (.int .i64 0) (.string .empty) (.int .i64 0) (.int .i64 0) (.string .empty) (.int .i64 0) (.int .i64 0) (.bool false) (.bool false)) (.cells #[.string xs, .int .i64 xc, .int .i64 xr, .bool xa, .bool xb] 32)
  clear hZ hB
  go_wp2
  exact bodyPost_ret (ret_three_b (u := 3) (u2 := 4) rfl (g := w.heap.size) rfl rfl rfl (load34 hE rfl)) rfl ⟨rfl, hF⟩
set_option maxRecDepth 100000 in
set_option maxHeartbeats 1000000 in
theorem run_ew_n (l C D : List UInt8) (xs : ByteArray) (xc xr : Int) (xa xb : Bool) (er : Int) (w : World)
    (h1 : ∀ W, Hid (Calls Tryz.prog 30 #[.string (bs l), .string ⟨([65, 66, 67, 68, 69, 70, 71, 72, 73, 74, 75, 76, 77, 78, 79, 80, 81, 82, 83, 84, 85, 86, 87, 88, 89, 90, 97, 98, 99, 100, 101, 102, 103, 104, 105, 106, 107, 108, 109, 110, 111, 112, 113, 114, 115, 116, 117, 118, 119, 120, 121, 122, 95, 36, 48, 49, 50, 51, 52, 53, 54, 55, 56, 57, 46].toArray)⟩] W fun e w' => e = .returned (.tuple #[.string (bs C), .string (bs D)]) ∧ Below W.heap.size W w'))
    (h2 : ∀ W, Hid (Calls Tryz.prog 20 #[.string (bs D), .string ⟨#[33]⟩] W fun e w' => e = .returned (.bool false) ∧ w' = W))
    (h5 : ∀ W, Hid (Calls Tryz.prog 31 #[.string (bs C)] W fun e w' => e = .returned (.tuple #[.agg #[.string xs, .int .i64 xc, .int .i64 xr, .bool xa, .bool xb], .int .i64 er]) ∧ Below W.heap.size W w'))
    (hne : (er != 40) = false) (h7 : ∀ W, Hid (Calls Tryz.prog 33 #[.string (bs C), .string ⟨#[36]⟩] W fun e w' => e = .returned (.bool false) ∧ w' = W)) :
    Calls Tryz.prog 19 #[.string (bs l)] w fun e w' => e = tokR ⟨4, 0, C, 0, 0, Rf.zero⟩ (bs C).size 0 ∧ Below w.heap.size w w' := by
  have HZ : ∀ W, Below (w.alloc (.cells z10 34)).heap.size (w.alloc (.cells z10 34)) W → Hid (Row W w.heap.size 34 z10 ∧ Below w.heap.size w W) := fun W hW => one_row w W _ _ hW
  unfold z10 at HZ
  go_enter Tryz.func19, Tryz.ntmps19
  go_wp2_with fail
  refine Calls.mono (h1 _).out ?_
  rintro _ w1 ⟨rfl, q1⟩
  clear h1
  go_wp2_with fail
  refine Calls.mono (h2 _).out ?_
  rintro _ w0 ⟨rfl, hw⟩
  rw [hw]
  clear hw w0 h2
  go_wp2_with fail
  refine Calls.mono (h5 _).out ?_
  rintro _ w3 ⟨rfl, q3⟩
  obtain ⟨hZ, hB⟩ := (HZ _ (q1.trans (q3.mono q1.size))).out
  clear q1 q3 h5 HZ
  go_wp2_with fail
  refine Calls.mono (h7 _).out ?_
  rintro _ w0 ⟨rfl, hw⟩
  rw [hw]
  clear hw w0 h7
  obtain ⟨c0, c1, c2, c3, c4, c5, c6, c7, c8, c9⟩ := hZ.ten
  have fZ := hZ.frozen
  have lZ := hZ.lt
  have hE := (Row.set10 hZ (.int .i64 4) (.int .i64 0) (.string (bs C)) (.int .i64 0) (.int .i64 0) (.string .empty) (.int .i64 0) (.int .i64 0) (.bool false) (.bool false)).alloc (.cells #[.string xs, .int .i64 xc, .int .i64 xr, .bool xa, .bool xb] 32)
  have hF := below_allocS (below_set10 hB (B := w.heap.size) (Nat.le_refl _) (.int .i64 4) (.int .i64 0) (.string (bs C)) (.int .i64 0) (.int .i64 0) (.string .empty) (.int .i64 0) (.int .i64 0) (.bool false) (.bool false)) (.cells #[.string xs, .int .i64 xc, .int .i64 xr, .bool xa, .bool xb] 32)
  clear hZ hB
  go_wp2
  exact bodyPost_ret (ret_three_b (u := 3) (u2 := 4) rfl (g := w.heap.size) rfl rfl rfl (load34 hE rfl)) rfl ⟨rfl, hF⟩
set_option maxRecDepth 100000 in
set_option maxHeartbeats 1000000 in
theorem run_pd_n (l C D : List UInt8) (xs : ByteArray) (xc xr : Int) (xa xb : Bool) (er : Int) (w : World)
    (h1 : ∀ W, Hid (Calls Tryz.prog 30 #[.string (bs l), .string ⟨([65, 66, 67, 68, 69, 70, 71, 72, 73, 74, 75, 76, 77, 78, 79, 80, 81, 82, 83, 84, 85, 86, 87, 88, 89, 90, 97, 98, 99, 100, 101, 102, 103, 104, 105, 106, 107, 108, 109, 110, 111, 112, 113, 114, 115, 116, 117, 118, 119, 120, 121, 122, 95, 36, 48, 49, 50, 51, 52, 53, 54, 55, 56, 57, 46].toArray)⟩] W fun e w' => e = .returned (.tuple #[.string (bs C), .string (bs D)]) ∧ Below W.heap.size W w'))
    (h2 : ∀ W, Hid (Calls Tryz.prog 20 #[.string (bs D), .string ⟨#[33]⟩] W fun e w' => e = .returned (.bool false) ∧ w' = W))
    (h5 : ∀ W, Hid (Calls Tryz.prog 31 #[.string (bs C)] W fun e w' => e = .returned (.tuple #[.agg #[.string xs, .int .i64 xc, .int .i64 xr, .bool xa, .bool xb], .int .i64 er]) ∧ Below W.heap.size W w'))
    (hne : (er != 40) = true) (h6 : ∀ W, Hid (Calls Tryz.prog 20 #[.string (bs D), .string ⟨#[40]⟩] W fun e w' => e = .returned (.bool true) ∧ w' = W)) (h7 : ∀ W, Hid (Calls Tryz.prog 33 #[.string (bs C), .string ⟨#[36]⟩] W fun e w' => e = .returned (.bool true) ∧ w' = W)) :
    Calls Tryz.prog 19 #[.string (bs l)] w fun e w' => e = tokR Tk.zero 0 40 ∧ Below w.heap.size w w' := by
  have HZ : ∀ W, Below (w.alloc (.cells z10 34)).heap.size (w.alloc (.cells z10 34)) W → Hid (Row W w.heap.size 34 z10 ∧ Below w.heap.size w W) := fun W hW => one_row w W _ _ hW
  unfold z10 at HZ
  go_enter Tryz.func19, Tryz.ntmps19
  go_wp2_with fail
  refine Calls.mono (h1 _).out ?_
  rintro _ w1 ⟨rfl, q1⟩
  clear h1
  go_wp2_with fail
  refine Calls.mono (h2 _).out ?_
  rintro _ w0 ⟨rfl, hw⟩
  rw [hw]
  clear hw w0 h2
  go_wp2_with fail
  refine Calls.mono (h5 _).out ?_
  rintro _ w3 ⟨rfl, q3⟩
  obtain ⟨hZ, hB⟩ := (HZ _ (q1.trans (q3.mono q1.size))).out
  clear q1 q3 h5 HZ
  go_wp2_with fail
  refine Calls.mono (h6 _).out ?_
  rintro _ w0 ⟨rfl, hw⟩
  rw [hw]
  clear hw w0 h6
  go_wp2_with fail
  refine Calls.mono (h7 _).out ?_
  rintro _ w0 ⟨rfl, hw⟩
  rw [hw]
  clear hw w0 h7
  obtain ⟨c0, c1, c2, c3, c4, c5, c6, c7, c8, c9⟩ := hZ.ten
  have fZ := hZ.frozen
  have lZ := hZ.lt
  have hE := (Row.set10 hZ (.int .i64 0) (.int .i64 0) (.string .empty) (.int .i64 0) (.int .i64 0) (.string .empty) (.int .i64 0) (.int .i64 0) (.bool false) (.bool false)).alloc (.cells #[.string xs, .int .i64 xc, .int .i64 xr, .bool xa, .bool xb] 32)
  have hF := below_allocS (below_set10 hB (B := w.heap.size) (Nat.le_refl _) (.int .i64 0) (.int .i64 0) (.string .empty) (.int .i64 0) (.int .i64 0) (.string .empty) (.int .i64 0) (.int .i64 0) (.bool false) (.bool false)) (.cells #[.string xs, .int .i64 xc, .int .i64 xr, .bool xa, .bool xb] 32)
  clear hZ hB
  go_wp2
  exact bodyPost_ret (ret_three_b (u := 3) (u2 := 4) rfl (g := w.heap.size) rfl rfl rfl (load34 hE rfl)) rfl ⟨rfl, hF⟩
set_option maxRecDepth 100000 in
set_option maxHeartbeats 1000000 in
theorem run_pw_n (l C D : List UInt8) (xs : ByteArray) (xc xr : Int) (xa xb : Bool) (er : Int) (w : World)
    (h1 : ∀ W, Hid (Calls Tryz.prog 30 #[.string (bs l), .string ⟨([65, 66, 67, 68, 69, 70, 71, 72, 73, 74, 75, 76, 77, 78, 79, 80, 81, 82, 83, 84, 85, 86, 87, 88, 89, 90, 97, 98, 99, 100, 101, 102, 103, 104, 105, 106, 107, 108, 109, 110, 111, 112, 113, 114, 115, 116, 117, 118, 119, 120, 121, 122, 95, 36, 48, 49, 50, 51, 52, 53, 54, 55, 56, 57, 46].toArray)⟩] W fun e w' => e = .returned (.tuple #[.string (bs C), .string (bs D)]) ∧ Below W.heap.size W w'))
    (h2 : ∀ W, Hid (Calls Tryz.prog 20 #[.string (bs D), .string ⟨#[33]⟩] W fun e w' => e = .returned (.bool false) ∧ w' = W))
    (h5 : ∀ W, Hid (Calls Tryz.prog 31 #[.string (bs C)] W fun e w' => e = .returned (.tuple #[.agg #[.string xs, .int .i64 xc, .int .i64 xr, .bool xa, .bool xb], .int .i64 er]) ∧ Below W.heap.size W w'))
    (hne : (er != 40) = true) (h6 : ∀ W, Hid (Calls Tryz.prog 20 #[.string (bs D), .string ⟨#[40]⟩] W fun e w' => e = .returned (.bool true) ∧ w' = W)) (h7 : ∀ W, Hid (Calls Tryz.prog 33 #[.string (bs C), .string ⟨#[36]⟩] W fun e w' => e = .returned (.bool false) ∧ w' = W)) :
    Calls Tryz.prog 19 #[.string (bs l)] w fun e w' => e = tokR ⟨4, 0, C, 0, 0, Rf.zero⟩ (bs C).size 0 ∧ Below w.heap.size w w' := by
  have HZ : ∀ W, Below (w.alloc (.cells z10 34)).heap.size (w.alloc (.cells z10 34)) W → Hid (Row W w.heap.size 34 z10 ∧ Below w.heap.size w W) := fun W hW => one_row w W _ _ hW
  unfold z10 at HZ
  go_enter Tryz.func19, Tryz.ntmps19
  go_wp2_with fail
  refine Calls.mono (h1 _).out ?_
  rintro _ w1 ⟨rfl, q1⟩
  clear h1
  go_wp2_with fail
  refine Calls.mono (h2 _).out ?_
  rintro _ w0 ⟨rfl, hw⟩
  rw [hw]
  clear hw w0 h2
  go_wp2_with fail
  refine Calls.mono (h5 _).out ?_
  rintro _ w3 ⟨rfl, q3⟩
  obtain ⟨hZ, hB⟩ := (HZ _ (q1.trans (q3.mono q1.size))).out
  clear q1 q3 h5 HZ
  go_wp2_with fail
  refine Calls.mono (h6 _).out ?_
  rintro _ w0 ⟨rfl, hw⟩
  rw [hw]
  clear hw w0 h6
  go_wp2_with fail
  refine Calls.mono (h7 _).out ?_
  rintro _ w0 ⟨rfl, hw⟩
  rw [hw]
  clear hw w0 h7
  obtain ⟨c0, c1, c2, c3, c4, c5, c6, c7, c8, c9⟩ := hZ.ten
  have fZ := hZ.frozen
  have lZ := hZ.lt
  have hE := (Row.set10 hZ (.int .i64 4) (.int .i64 0) (.string (bs C)) (.int .i64 0) (.int .i64 0) (.string .empty) (.int .i64 0) (.int .i64 0) (.bool false) (.bool false)).alloc (.cells #[.string xs, .int .i64 xc, .int .i64 xr, .bool xa, .bool xb] 32)
  have hF := below_allocS (below_set10 hB (B := w.heap.size) (Nat.le_refl _) (.int .i64 4) (.int .i64 0) (.string (bs C)) (.int .i64 0) (.int .i64 0) (.string .empty) (.int .i64 0) (.int .i64 0) (.bool false) (.bool false)) (.cells #[.string xs, .int .i64 xc, .int .i64 xr, .bool xa, .bool xb] 32)
  clear hZ hB
  go_wp2
  exact bodyPost_ret (ret_three_b (u := 3) (u2 := 4) rfl (g := w.heap.size) rfl rfl rfl (load34 hE rfl)) rfl ⟨rfl, hF⟩
set_option maxRecDepth 100000 in
set_option maxHeartbeats 1000000 in
theorem run_ref_y (l C D : List UInt8) (xs : ByteArray) (xc xr : Int) (xa xb : Bool) (er : Int) (w : World)
    (h1 : ∀ W, Hid (Calls Tryz.prog 30 #[.string (bs l), .string ⟨([65, 66, 67, 68, 69, 70, 71, 72, 73, 74, 75, 76, 77, 78, 79, 80, 81, 82, 83, 84, 85, 86, 87, 88, 89, 90, 97, 98, 99, 100, 101, 102, 103, 104, 105, 106, 107, 108, 109, 110, 111, 112, 113, 114, 115, 116, 117, 118, 119, 120, 121, 122, 95, 36, 48, 49, 50, 51, 52, 53, 54, 55, 56, 57, 46].toArray)⟩] W fun e w' => e = .returned (.tuple #[.string (bs C), .string (bs D)]) ∧ Below W.heap.size W w'))
    (h2 : ∀ W, Hid (Calls Tryz.prog 20 #[.string (bs D), .string ⟨#[33]⟩] W fun e w' => e = .returned (.bool true) ∧ w' = W))
    (h3 : ∀ W, Hid (Calls Tryz.prog 32 #[.string (bs C), .string ⟨#[36, 46]⟩] W fun e w' => e = .returned (.bool true) ∧ Below W.heap.size W w'))
    (h5 : ∀ W, Hid (Calls Tryz.prog 31 #[.string (bs C)] W fun e w' => e = .returned (.tuple #[.agg #[.string xs, .int .i64 xc, .int .i64 xr, .bool xa, .bool xb], .int .i64 er]) ∧ Below W.heap.size W w'))
    (hne : (er != 40) = true) (h6 : ∀ W, Hid (Calls Tryz.prog 20 #[.string (bs D), .string ⟨#[40]⟩] W fun e w' => e = .returned (.bool false) ∧ w' = W)) :
    Calls Tryz.prog 19 #[.string (bs l)] w fun e w' => e = tokR ⟨3, 0, [], 0, 0, ⟨xs, xc, xr, xa, xb⟩⟩ (bs C).size er ∧ Below w.heap.size w w' := by
  have HZ : ∀ W, Below (w.alloc (.cells z10 34)).heap.size (w.alloc (.cells z10 34)) W → Hid (Row W w.heap.size 34 z10 ∧ Below w.heap.size w W) := fun W hW => one_row w W _ _ hW
  unfold z10 at HZ
  go_enter Tryz.func19, Tryz.ntmps19
  go_wp2_with fail
  refine Calls.mono (h1 _).out ?_
  rintro _ w1 ⟨rfl, q1⟩
  clear h1
  go_wp2_with fail
  refine Calls.mono (h2 _).out ?_
  rintro _ w0 ⟨rfl, hw⟩
  rw [hw]
  clear hw w0 h2
  go_wp2_with fail
  refine Calls.mono (h3 _).out ?_
  rintro _ w2 ⟨rfl, q2⟩
  have q1 := q1.trans (q2.mono q1.size)
  clear h3 q2
  go_wp2_with fail
  refine Calls.mono (h5 _).out ?_
  rintro _ w3 ⟨rfl, q3⟩
  obtain ⟨hZ, hB⟩ := (HZ _ (q1.trans (q3.mono q1.size))).out
  clear q1 q3 h5 HZ
  go_wp2_with fail
  refine Calls.mono (h6 _).out ?_
  rintro _ w0 ⟨rfl, hw⟩
  rw [hw]
  clear hw w0 h6
  obtain ⟨c0, c1, c2, c3, c4, c5, c6, c7, c8, c9⟩ := hZ.ten
  have fZ := hZ.frozen
  have lZ := hZ.lt
  have hE := (Row.set10 hZ (.int .i64 3) (.int .i64 0) (.string .empty) (.int .i64 0) (.int .i64 0) (.string xs) (.int .i64 xc) (.int .i64 xr) (.bool xa) (.bool xb)).alloc (.cells #[.string xs, .int .i64 xc, .int .i64 xr, .bool xa, .bool xb] 32)
  have hF := below_allocS (below_set10 hB (B := w.heap.size) (Nat.le_refl _) (.int .i64 3) (.int .i64 0) (.string .empty) (.int .i64 0) (.int .i64 0) (.string xs) (.int .i64 xc) (.int .i64 xr) (.bool xa) (.bool xb)) (.cells #[.string xs, .int .i64 xc, .int .i64 xr, .bool xa, .bool xb] 32)
  clear hZ hB
  go_wp2
  exact bodyPost_ret (ret_three_b (u := 3) (u2 := 4) rfl (g := w.heap.size) rfl rfl rfl (load34 hE rfl)) rfl ⟨rfl, hF⟩
set_option maxRecDepth 100000 in
set_option maxHeartbeats 1000000 in
theorem run_ed_y (l C D : List UInt8) (xs : ByteArray) (xc xr : Int) (xa xb : Bool) (er : Int) (w : World)
    (h1 : ∀ W, Hid (Calls Tryz.prog 30 #[.string (bs l), .string ⟨([65, 66, 67, 68, 69, 70, 71, 72, 73, 74, 75, 76, 77, 78, 79, 80, 81, 82, 83, 84, 85, 86, 87, 88, 89, 90, 97, 98, 99, 100, 101, 102, 103, 104, 105, 106, 107, 108, 109, 110, 111, 112, 113, 114, 115, 116, 117, 118, 119, 120, 121, 122, 95, 36, 48, 49, 50, 51, 52, 53, 54, 55, 56, 57, 46].toArray)⟩] W fun e w' => e = .returned (.tuple #[.string (bs C), .string (bs D)]) ∧ Below W.heap.size W w'))
    (h2 : ∀ W, Hid (Calls Tryz.prog 20 #[.string (bs D), .string ⟨#[33]⟩] W fun e w' => e = .returned (.bool true) ∧ w' = W))
    (h3 : ∀ W, Hid (Calls Tryz.prog 32 #[.string (bs C), .string ⟨#[36, 46]⟩] W fun e w' => e = .returned (.bool true) ∧ Below W.heap.size W w'))
    (h5 : ∀ W, Hid (Calls Tryz.prog 31 #[.string (bs C)] W fun e w' => e = .returned (.tuple #[.agg #[.string xs, .int .i64 xc, .int .i64 xr, .bool xa, .bool xb], .int .i64 er]) ∧ Below W.heap.size W w'))
    (hne : (er != 40) = false) (h7 : ∀ W, Hid (Calls Tryz.prog 33 #[.string (bs C), .string ⟨#[36]⟩] W fun e w' => e = .returned (.bool true) ∧ w' = W)) :
    Calls Tryz.prog 19 #[.string (bs l)] w fun e w' => e = tokR Tk.zero 0 40 ∧ Below w.heap.size w w' := by
  have HZ : ∀ W, Below (w.alloc (.cells z10 34)).heap.size (w.alloc (.cells z10 34)) W → Hid (Row W w.heap.size 34 z10 ∧ Below w.heap.size w W) := fun W hW => one_row w W _ _ hW
  unfold z10 at HZ
  go_enter Tryz.func19, Tryz.ntmps19
  go_wp2_with fail
  refine Calls.mono (h1 _).out ?_
  rintro _ w1 ⟨rfl, q1⟩
  clear h1
  go_wp2_with fail
  refine Calls.mono (h2 _).out ?_
  rintro _ w0 ⟨rfl, hw⟩
  rw [hw]
  clear hw w0 h2
  go_wp2_with fail
  refine Calls.mono (h3 _).out ?_
  rintro _ w2 ⟨rfl, q2⟩
  have q1 := q1.trans (q2.mono q1.size)
  clear h3 q2
  go_wp2_with fail
  refine Calls.mono (h5 _).out ?_
  rintro _ w3 ⟨rfl, q3⟩
  obtain ⟨hZ, hB⟩ := (HZ _ (q1.trans (q3.mono q1.size))).out
  clear q1 q3 h5 HZ
  go_wp2_with fail
  refine Calls.mono (h7 _).out ?_
  rintro _ w0 ⟨rfl, hw⟩
  rw [hw]
  clear hw w0 h7
  obtain ⟨c0, c1, c2, c3, c4, c5, c6, c7, c8, c9⟩ := hZ.ten
  have fZ := hZ.frozen
  have lZ := hZ.lt
  have hE := (Row.set10 hZ (.int .i64 0) (.int .i64 0) (.string .empty) (.int .i64 0) (.int .i64 0) (.string .empty) (.int .i64 0) (.int .i64 0) (.bool false) (.bool false)).alloc (.cells #[.string xs, .int .i64 xc, .int .i64 xr, .bool xa, .bool xb] 32)
  have hF := below_allocS (below_set10 hB (B := w.heap.size) (Nat.le_refl _) (.int .i64 0) (.int .i64 0) (.string .empty) (.int .i64 0) (.int .i64 0) (.string .empty) (.int .i64 0) (.int .i64 0) (.bool false) (.bool false)) (.cells #[.string xs, .int .i64 xc, .int .i64 xr, .bool xa, .bool xb] 32)
  clear hZ hB
  go_wp2
  exact bodyPost_ret (ret_three_b (u := 3) (u2 := 4) rfl (g := w.heap.size) rfl rfl rfl (load34 hE rfl)) rfl ⟨rfl, hF⟩
set_option maxRecDepth 100000 in
set_option maxHeartbeats 1000000 in
theorem run_ew_y (l C D : List UInt8) (xs : ByteArray) (xc xr : Int) (xa xb : Bool) (er : Int) (w : World)
    (h1 : ∀ W, Hid (Calls Tryz.prog 30 #[.string (bs l), .string ⟨([65, 66, 67, 68, 69, 70, 71, 72, 73, 74, 75, 76, 77, 78, 79, 80, 81, 82, 83, 84, 85, 86, 87, 88, 89, 90, 97, 98, 99, 100, 101, 102, 103, 104, 105, 106, 107, 108, 109, 110, 111, 112, 113, 114, 115, 116, 117, 118, 119, 120, 121, 122, 95, 36, 48, 49, 50, 51, 52, 53, 54, 55, 56, 57, 46].toArray)⟩] W fun e w' => e = .returned (.tuple #[.string (bs C), .string (bs D)]) ∧ Below W.heap.size W w'))
    (h2 : ∀ W, Hid (Calls Tryz.prog 20 #[.string (bs D), .string ⟨#[33]⟩] W fun e w' => e = .returned (.bool true) ∧ w' = W))
    (h3 : ∀ W, Hid (Calls Tryz.prog 32 #[.string (bs C), .string ⟨#[36, 46]⟩] W fun e w' => e = .returned (.bool true) ∧ Below W.heap.size W w'))
    (h5 : ∀ W, Hid (Calls Tryz.prog 31 #[.string (bs C)] W fun e w' => e = .returned (.tuple #[.agg #[.string xs, .int .i64 xc, .int .i64 xr, .bool xa, .bool xb], .int .i64 er]) ∧ Below W.heap.size W w'))
    (hne : (er != 40) = false) (h7 : ∀ W, Hid (Calls Tryz.prog 33 #[.string (bs C), .string ⟨#[36]⟩] W fun e w' => e = .returned (.bool false) ∧ w' = W)) :
    Calls Tryz.prog 19 #[.string (bs l)] w fun e w' => e = tokR ⟨4, 0, C, 0, 0, Rf.zero⟩ (bs C).size 0 ∧ Below w.heap.size w w' := by
  have HZ : ∀ W, Below (w.alloc (.cells z10 34)).heap.size (w.alloc (.cells z10 34)) W → Hid (Row W w.heap.size 34 z10 ∧ Below w.heap.size w W) := fun W hW => one_row w W _ _ hW
  unfold z10 at HZ
  go_enter Tryz.func19, Tryz.ntmps19
  go_wp2_with fail
  refine Calls.mono (h1 _).out ?_
  rintro _ w1 ⟨rfl, q1⟩
  clear h1
  go_wp2_with fail
  refine Calls.mono (h2 _).out ?_
  rintro _ w0 ⟨rfl, hw⟩
  rw [hw]
  clear hw w0 h2
  go_wp2_with fail
  refine Calls.mono (h3 _).out ?_
  rintro _ w2 ⟨rfl, q2⟩
  have q1 := q1.trans (q2.mono q1.size)
  clear h3 q2
  go_wp2_with fail
  refine Calls.mono (h5 _).out ?_
  rintro _ w3 ⟨rfl, q3⟩
  obtain ⟨hZ, hB⟩ := (HZ _ (q1.trans (q3.mono q1.size))).out
  clear q1 q3 h5 HZ
  go_wp2_with fail
  refine Calls.mono (h7 _).out ?_
  rintro _ w0 ⟨rfl, hw⟩
  rw [hw]
  clear hw w0 h7
  obtain ⟨c0, c1, c2, c3, c4, c5, c6, c7, c8, c9⟩ := hZ.ten
  have fZ := hZ.frozen
  have lZ := hZ.lt
  have hE := (Row.set10 hZ (.int .i64 4) (.int .i64 0) (.string (bs C)) (.int .i64 0) (.int .i64 0) (.string .empty) (.int .i64 0) (.int .i64 0) (.bool false) (.bool false)).alloc (.cells #[.string xs, .int .i64 xc, .int .i64 xr, .bool xa, .bool xb] 32)
  have hF := below_allocS (below_set10 hB (B := w.heap.size) (Nat.le_refl _) (.int .i64 4) (.int .i64 0) (.string (bs C)) (.int .i64 0) (.int .i64 0) (.string .empty) (.int .i64 0) (.int .i64 0) (.bool false) (.bool false)) (.cells #[.string xs, .int .i64 xc, .int .i64 xr, .bool xa, .bool xb] 32)
  clear hZ hB
  go_wp2
  exact bodyPost_ret (ret_three_b (u := 3) (u2 := 4) rfl (g := w.heap.size) rfl rfl rfl (load34 hE rfl)) rfl ⟨rfl, hF⟩
set_option maxRecDepth 100000 in
set_option maxHeartbeats 1000000 in
theorem run_pd_y (l C D : List UInt8) (xs : ByteArray) (xc xr : Int) (xa xb : Bool) (er : Int) (w : World)
    (h1 : ∀ W, Hid (Calls Tryz.prog 30 #[.string (bs l), .string ⟨([65, 66, 67, 68, 69, 70, 71, 72, 73, 74, 75, 76, 77, 78, 79, 80, 81, 82, 83, 84, 85, 86, 87, 88, 89, 90, 97, 98, 99, 100, 101, 102, 103, 104, 105, 106, 107, 108, 109, 110, 111, 112, 113, 114, 115, 116, 117, 118, 119, 120, 121, 122, 95, 36, 48, 49, 50, 51, 52, 53, 54, 55, 56, 57, 46].toArray)⟩] W fun e w' => e = .returned (.tuple #[.string (bs C), .string (bs D)]) ∧ Below W.heap.size W w'))
    (h2 : ∀ W, Hid (Calls Tryz.prog 20 #[.string (bs D), .string ⟨#[33]⟩] W fun e w' => e = .returned (.bool true) ∧ w' = W))
    (h3 : ∀ W, Hid (Calls Tryz.prog 32 #[.string (bs C), .string ⟨#[36, 46]⟩] W fun e w' => e = .returned (.bool true) ∧ Below W.heap.size W w'))
    (h5 : ∀ W, Hid (Calls Tryz.prog 31 #[.string (bs C)] W fun e w' => e = .returned (.tuple #[.agg #[.string xs, .int .i64 xc, .int .i64 xr, .bool xa, .bool xb], .int .i64 er]) ∧ Below W.heap.size W w'))
    (hne : (er != 40) = true) (h6 : ∀ W, Hid (Calls Tryz.prog 20 #[.string (bs D), .string ⟨#[40]⟩] W fun e w' => e = .returned (.bool true) ∧ w' = W)) (h7 : ∀ W, Hid (Calls Tryz.prog 33 #[.string (bs C), .string ⟨#[36]⟩] W fun e w' => e = .returned (.bool true) ∧ w' = W)) :
    Calls Tryz.prog 19 #[.string (bs l)] w fun e w' => e = tokR Tk.zero 0 40 ∧ Below w.heap.size w w' := by
  have HZ : ∀ W, Below (w.alloc (.cells z10 34)).heap.size (w.alloc (.cells z10 34)) W → Hid (Row W w.heap.size 34 z10 ∧ Below w.heap.size w W) := fun W hW => one_row w W _ _ hW
  unfold z10 at HZ
  go_enter Tryz.func19, Tryz.ntmps19
  go_wp2_with fail
  refine Calls.mono (h1 _).out ?_
  rintro _ w1 ⟨rfl, q1⟩
  clear h1
  go_wp2_with fail
  refine Calls.mono (h2 _).out ?_
  rintro _ w0 ⟨rfl, hw⟩
  rw [hw]
  clear hw w0 h2
  go_wp2_with fail
  refine Calls.mono (h3 _).out ?_
  rintro _ w2 ⟨rfl, q2⟩
  have q1 := q1.trans (q2.mono q1.size)
  clear h3 q2
  go_wp2_with fail
  refine Calls.mono (h5 _).out ?_
  rintro _ w3 ⟨rfl, q3⟩
  obtain ⟨hZ, hB⟩ := (HZ _ (q1.trans (q3.mono q1.size))).out
  clear q1 q3 h5 HZ
  go_wp2_with fail
  refine Calls.mono (h6 _).out ?_
  rintro _ w0 ⟨rfl, hw⟩
  rw [hw]
  clear hw w0 h6
  go_wp2_with fail
  refine Calls.mono (h7 _).out ?_
  rintro _ w0 ⟨rfl, hw⟩
  rw [hw]
  clear hw w0 h7
  obtain ⟨c0, c1, c2, c3, c4, c5, c6, c7, c8, c9⟩ := hZ.ten
  have fZ := hZ.frozen
  have lZ := hZ.lt
  have hE := (Row.set10 hZ (.int .i64 0) (.int .i64 0) (.string .empty) (.int .i64 0) (.int .i64 0) (.string .empty) (.int .i64 0) (.int .i64 0) (.bool false) (.bool false)).alloc (.cells #[.string xs, .int .i64 xc, .int .i64 xr, .bool xa, .bool xb] 32)
  have hF := below_allocS (below_set10 hB (B := w.heap.size) (Nat.le_refl _) (.int .i64 0) (.int .i64 0) (.string .empty) (.int .i64 0) (.int .i64 0) (.string .empty) (.int .i64 0) (.int .i64 0) (.bool false) (.bool false)) (.cells #[.string xs, .int .i64 xc, .int .i64 xr, .bool xa, .bool xb] 32)
  clear hZ hB
  go_wp2
  exact bodyPost_ret (ret_three_b (u := 3) (u2 := 4) rfl (g := w.heap.size) rfl rfl rfl (load34 hE rfl)) rfl ⟨rfl, hF⟩
set_option maxRecDepth 100000 in
set_option maxHeartbeats 1000000 in
theorem run_pw_y (l C D : List UInt8) (xs : ByteArray) (xc xr : Int) (xa xb : Bool) (er : Int) (w : World)
    (h1 : ∀ W, Hid (Calls Tryz.prog 30 #[.string (bs l), .string ⟨([65, 66, 67, 68, 69, 70, 71, 72, 73, 74, 75, 76, 77, 78, 79, 80, 81, 82, 83, 84, 85, 86, 87, 88, 89, 90, 97, 98, 99, 100, 101, 102, 103, 104, 105, 106, 107, 108, 109, 110, 111, 112, 113, 114, 115, 116, 117, 118, 119, 120, 121, 122, 95, 36, 48, 49, 50, 51, 52, 53, 54, 55, 56, 57, 46].toArray)⟩] W fun e w' => e = .returned (.tuple #[.string (bs C), .string (bs D)]) ∧ Below W.heap.size W w'))
    (h2 : ∀ W, Hid (Calls Tryz.prog 20 #[.string (bs D), .string ⟨#[33]⟩] W fun e w' => e = .returned (.bool true) ∧ w' = W))
    (h3 : ∀ W, Hid (Calls Tryz.prog 32 #[.string (bs C), .string ⟨#[36, 46]⟩] W fun e w' => e = .returned (.bool true) ∧ Below W.heap.size W w'))
    (h5 : ∀ W, Hid (Calls Tryz.prog 31 #[.string (bs C)] W fun e w' => e = .returned (.tuple #[.agg #[.string xs, .int .i64 xc, .int .i64 xr, .bool xa, .bool xb], .int .i64 er]) ∧ Below W.heap.size W w'))
    (hne : (er != 40) = true) (h6 : ∀ W, Hid (Calls Tryz.prog 20 #[.string (bs D), .string ⟨#[40]⟩] W fun e w' => e = .returned (.bool true) ∧ w' = W)) (h7 : ∀ W, Hid (Calls Tryz.prog 33 #[.string (bs C), .string ⟨#[36]⟩] W fun e w' => e = .returned (.bool false) ∧ w' = W)) :
    Calls Tryz.prog 19 #[.string (bs l)] w fun e w' => e = tokR ⟨4, 0, C, 0, 0, Rf.zero⟩ (bs C).size 0 ∧ Below w.heap.size w w' := by
  have HZ : ∀ W, Below (w.alloc (.cells z10 34)).heap.size (w.alloc (.cells z10 34)) W → Hid (Row W w.heap.size 34 z10 ∧ Below w.heap.size w W) := fun W hW => one_row w W _ _ hW
  unfold z10 at HZ
  go_enter Tryz.func19, Tryz.ntmps19
  go_wp2_with fail
  refine Calls.mono (h1 _).out ?_
  rintro _ w1 ⟨rfl, q1⟩
  clear h1
  go_wp2_with fail
  refine Calls.mono (h2 _).out ?_
  rintro _ w0 ⟨rfl, hw⟩
  rw [hw]
  clear hw w0 h2
  go_wp2_with fail
  refine Calls.mono (h3 _).out ?_
  rintro _ w2 ⟨rfl, q2⟩
  have q1 := q1.trans (q2.mono q1.size)
  clear h3 q2
  go_wp2_with fail
  refine Calls.mono (h5 _).out ?_
  rintro _ w3 ⟨rfl, q3⟩
  obtain ⟨hZ, hB⟩ := (HZ _ (q1.trans (q3.mono q1.size))).out
  clear q1 q3 h5 HZ
  go_wp2_with fail
  refine Calls.mono (h6 _).out ?_
  rintro _ w0 ⟨rfl, hw⟩
  rw [hw]
  clear hw w0 h6
  go_wp2_with fail
  refine Calls.mono (h7 _).out ?_
  rintro _ w0 ⟨rfl, hw⟩
  rw [hw]
  clear hw w0 h7
  obtain ⟨c0, c1, c2, c3, c4, c5, c6, c7, c8, c9⟩ := hZ.ten
  have fZ := hZ.frozen
  have lZ := hZ.lt
  have hE := (Row.set10 hZ (.int .i64 4) (.int .i64 0) (.string (bs C)) (.int .i64 0) (.int .i64 0) (.string .empty) (.int .i64 0) (.int .i64 0) (.bool false) (.bool false)).alloc (.cells #[.string xs, .int .i64 xc, .int .i64 xr, .bool xa, .bool xb] 32)
  have hF := below_allocS (below_set10 hB (B := w.heap.size) (Nat.le_refl _) (.int .i64 4) (.int .i64 0) (.string (bs C)) (.int .i64 0) (.int .i64 0) (.string .empty) (.int .i64 0) (.int .i64 0) (.bool false) (.bool false)) (.cells #[.string xs, .int .i64 xc, .int .i64 xr, .bool xa, .bool xb] 32)
  clear hZ hB
  go_wp2
  exact bodyPost_ret (ret_three_b (u := 3) (u2 := 4) rfl (g := w.heap.size) rfl rfl rfl (load34 hE rfl)) rfl ⟨rfl, hF⟩
end Go.Proofs.YtgihginfegckcaaGreatDoor
/- lex's text, onSheet, run, whole. -/
namespace Go.Proofs.YtgihginfegckcaaGreatDoor
open Go.RowKit

theorem qEnd_le (c : UInt8) : ∀ (n : Nat) (l : List UInt8), l.length ≤ n → ∀ k, qEnd c l = some k → 1 ≤ k ∧ k ≤ l.length
  | 0, l, hn, k, h => by
    have : l = [] := List.eq_nil_of_length_eq_zero (by omega)
    subst this
    simp [qEnd] at h
  | n + 1, [], _, k, h => by simp [qEnd] at h
  | n + 1, a :: r, hn, k, h => by
    by_cases e : a = c
    · subst e
      cases r with
      | nil => rw [qEnd_end (by intro b r' h; cases h)] at h; cases h; simp
      | cons b r' =>
        by_cases e2 : b = a
        · subst e2
          rw [qEnd_two] at h
          obtain ⟨j, hj, rfl⟩ := Option.map_eq_some_iff.1 h
          have := qEnd_le b n r' (by simp at hn; omega) j hj
          simp; omega
        · rw [qEnd_end (by intro x y h; cases h; exact e2)] at h; cases h; simp
    · rw [qEnd_other e] at h
      obtain ⟨j, hj, rfl⟩ := Option.map_eq_some_iff.1 h
      have := qEnd_le c n r (by simp at hn; omega) j hj
      simp; omega
theorem quotedN_bd (l : List UInt8) : quotedN l = 0 ∨ (2 ≤ quotedN l ∧ quotedN l ≤ l.length) := by
  unfold quotedN
  cases l with
  | nil => left; rfl
  | cons c r =>
    simp only
    cases h : qEnd c r with
    | none => left; rfl
    | some k =>
      right
      have := qEnd_le c r.length r (Nat.le_refl _) k h
      simp; omega
theorem text_any (c : UInt8) (r : List UInt8) (hl : (c :: r).length ≤ 1000000) (w : World) (hE : LexE w) :
    Calls Tryz.prog 16 #[.string (bs (c :: r))] w fun e w' => e = tokR (textR (c :: r)).1 (textR (c :: r)).2.1 (textR (c :: r)).2.2 ∧ Below w.heap.size w w' := by
  have h1 : ∀ W, Hid (Calls Tryz.prog 18 #[.string (bs (c :: r))] W fun e w' => e = .returned (.int .i64 ((quotedN (c :: r) : Nat) : Int)) ∧ w' = W) := fun W => quoted_any c r (by omega) W
  have hb := quotedN_bd (c :: r)
  unfold textR
  by_cases h0 : quotedN (c :: r) = 0
  · rw [if_pos h0]
    rw [h0] at h1
    exact text_no (c :: r) w h1
  · rw [if_neg h0]
    have hn : 2 ≤ quotedN (c :: r) ∧ quotedN (c :: r) ≤ (c :: r).length := by omega
    have h2 : ∀ W, Below w.heap.size w W → Hid (Calls Tryz.prog 23 #[.string ((bs (c :: r)).extract 1 (quotedN (c :: r) - 1)), .string ⟨#[34, 34]⟩, .string ⟨#[34]⟩] W fun e w' => e = .returned (.string (bs (innerL (c :: r)))) ∧ Below W.heap.size W w') := fun W hW => by
      have ex : (bs (c :: r)).extract 1 (quotedN (c :: r) - 1) = bs (((c :: r).take (quotedN (c :: r) - 1)).drop 1) := by
        refine bs_ext ?_
        rw [Lib.extract_data]
        show List.take (quotedN (c :: r) - 1 - 1) (List.drop 1 (c :: r)) = _
        rw [List.drop_take]
      rw [ex]
      obtain ⟨m, hm⟩ := (hE.below hW).max
      have hlen : (((c :: r).take (quotedN (c :: r) - 1)).drop 1).length ≤ 1000000 := by simp; simp at hl; omega
      generalize hX : ((c :: r).take (quotedN (c :: r) - 1)).drop 1 = X at hlen
      have hc := Lib.countB_le ⟨#[34, 34]⟩ (by decide) (bs X).size (bs X) (Nat.le_refl _)
      have hs := bs_size X
      have := Tryz.strings_ReplaceAll (bs X) ⟨#[34, 34]⟩ ⟨#[34]⟩ m W (by omega) hm (by decide) (by
        have : (⟨#[34]⟩ : ByteArray).size = 1 := rfl
        rw [this]; omega)
      unfold innerL
      rw [hX]
      exact this
    have hsz : (bs (c :: r)).size ≤ 1000000 := by rw [bs_size]; exact hl
    by_cases hI : 255 < (innerL (c :: r)).length
    · rw [if_pos hI]
      exact text_big (c :: r) (innerL (c :: r)) _ w hn.1 (by rw [bs_size]; exact hn.2) hsz h1 h2 (by rw [bs_size]; exact hI)
    · rw [if_neg hI]
      exact text_ok (c :: r) (innerL (c :: r)) _ _ w hn.1 (by rw [bs_size]; exact hn.2) hsz h1 h2 (fun W => pxml_any (bs (innerL (c :: r))) W) (by rw [bs_size]; omega)
theorem onSheet_any (l : List UInt8) (n : Nat) (hn : n ≤ l.length) (hl : l.length ≤ 1000000) (w : World) :
    Calls Tryz.prog 17 #[.string (bs l), .int .i64 (n : Int)] w fun e w' => e = tokR (onSheetR l n).1 (onSheetR l n).2.1 (onSheetR l n).2.2 ∧ Below w.heap.size w w' := by
  have h1 : ∀ W, Hid (Calls Tryz.prog 29 #[.string ((bs l).extract n (bs l).size), .string ⟨#[33]⟩] W fun e w' => e = .returned (.tuple #[.string (bs (Lib.trimPrefix (l.drop n) [33])), .bool (Lib.hasPrefix (l.drop n) [33])]) ∧ w' = W) := fun W => by
    rw [bs_drop]
    exact Tryz.strings_CutPrefix (bs (l.drop n)) (bs [33]) W
  have hs := bs_size l
  unfold onSheetR
  cases hp : Lib.hasPrefix (l.drop n) [33]
  · rw [hp] at h1
    exact onSheet_no l _ n w (by omega) h1
  · rw [hp] at h1
    simp only [if_true]
    have ht : (Lib.trimPrefix (l.drop n) [33]).length + n + 1 = l.length := by
      unfold Lib.trimPrefix
      rw [hp]
      simp only [if_true, List.length_drop, List.length_cons, List.length_nil]
      have : l.drop n ≠ [] := by intro e; rw [e] at hp; simp [Lib.hasPrefix] at hp
      have : n < l.length := by
        by_cases h : n < l.length
        · exact h
        · exact absurd (List.drop_eq_nil_of_le (by omega)) this
      omega
    have ha := ahead_len (Lib.trimPrefix (l.drop n) [33]) plcL
    have hk : (n : Int) + 1 + ((bs (aheadL (Lib.trimPrefix (l.drop n) [33]) plcL)).size : Int) = (shN l n : Int) := by rw [bs_size]; unfold shN; omega
    have hk2 : shN l n ≤ (bs l).size := by rw [bs_size]; unfold shN; omega
    refine onSheet_ok l _ _ _ n (shN l n) _ _ _ _ _ _ w (by omega) (by omega) hk hk2 h1 (fun W => lexAhead_any _ plcL (by omega) (by decide) (by decide) W) (fun W => ?_)
    rw [bs_take]
    exact parse_any (l.take (shN l n)) (by simp; omega) W
theorem wth_ascii {l : List UInt8} : ∀ (j : Nat) b, (aheadL l wthL)[j]? = some b → b.toNat < 128 := by
  intro j b hb
  have h1 := ahead_mem (List.mem_of_getElem? hb)
  have h2 : wthL.all (fun b => decide (b.toNat < 128)) = true := by decide
  have := List.all_eq_true.1 h2 b (by simpa using h1)
  simpa using this
theorem run_any (l : List UInt8) (hl : l.length ≤ 1000000) (w : World) :
    Calls Tryz.prog 19 #[.string (bs l)] w fun e w' => e = tokR (runR l).1 (runR l).2.1 (runR l).2.2 ∧ Below w.heap.size w w' := by
  have ha := ahead_len l wthL
  have h1 : ∀ W, Hid (Calls Tryz.prog 30 #[.string (bs l), .string (bs wthL)] W fun e w' => e = .returned (.tuple #[.string (bs (aheadL l wthL)), .string (bs (behindL l wthL))]) ∧ Below W.heap.size W w') := fun W => lexAhead_any l wthL (by omega) (by decide) (by decide) W
  have h2 : ∀ W, Hid (Calls Tryz.prog 20 #[.string (bs (behindL l wthL)), .string ⟨#[33]⟩] W fun e w' => e = .returned (.bool (Lib.hasPrefix (behindL l wthL) [33])) ∧ w' = W) := fun W => Tryz.strings_HasPrefix (bs (behindL l wthL)) (bs [33]) W
  have h6 : ∀ W, Hid (Calls Tryz.prog 20 #[.string (bs (behindL l wthL)), .string ⟨#[40]⟩] W fun e w' => e = .returned (.bool (Lib.hasPrefix (behindL l wthL) [40])) ∧ w' = W) := fun W => Tryz.strings_HasPrefix (bs (behindL l wthL)) (bs [40]) W
  have h3 : ∀ W, Hid (Calls Tryz.prog 32 #[.string (bs (aheadL l wthL)), .string ⟨#[36, 46]⟩] W fun e w' => e = .returned (.bool (Lib.containsAny (aheadL l wthL) [36, 46])) ∧ Below W.heap.size W w') := fun W => Tryz.strings_ContainsAny_laid (bs (aheadL l wthL)) (bs [36, 46]) W (by rw [bs_size]; omega) (by decide) wth_ascii (fun j b hb => by
    have := List.all_eq_true.1 (show ([36, 46] : List UInt8).all (fun b => decide (b.toNat < 128)) = true by decide) b (List.mem_of_getElem? hb)
    simpa using this)
  have h5 : ∀ W, Hid (Calls Tryz.prog 31 #[.string (bs (aheadL l wthL))] W fun e w' => e = .returned (.tuple #[(parseR (aheadL l wthL)).1.v, .int .i64 (parseR (aheadL l wthL)).2]) ∧ Below W.heap.size W w') := fun W => parse_any (aheadL l wthL) (by omega) W
  have h7 : ∀ W, Hid (Calls Tryz.prog 33 #[.string (bs (aheadL l wthL)), .string ⟨#[36]⟩] W fun e w' => e = .returned (.bool ((aheadL l wthL).contains 36)) ∧ w' = W) := fun W => by
    rw [← indexByte_has]
    exact Tryz.strings_Contains_one (bs (aheadL l wthL)) 36 W
  have hsh : ∀ W, Hid (Calls Tryz.prog 17 #[.string (bs l), .int .i64 ((bs (aheadL l wthL)).size : Int)] W fun e w' => e = tokR (onSheetR l (aheadL l wthL).length).1 (onSheetR l (aheadL l wthL).length).2.1 (onSheetR l (aheadL l wthL).length).2.2 ∧ Below W.heap.size W w') := fun W => by
    rw [bs_size]
    exact onSheet_any l _ (by omega) hl W
  have hbs : (bs (aheadL l wthL)).size = (aheadL l wthL).length := bs_size _
  unfold runR
  rw [← hbs]
  rw [hbs]
  generalize onSheetR l (aheadL l wthL).length = O at *
  generalize Lib.hasPrefix (behindL l wthL) [33] = g2 at *
  generalize Lib.hasPrefix (behindL l wthL) [40] = g6 at *
  generalize Lib.containsAny (aheadL l wthL) [36, 46] = g3 at *
  generalize (aheadL l wthL).contains 36 = g7 at *
  generalize parseR (aheadL l wthL) = p at *
  generalize aheadL l wthL = C at *
  generalize behindL l wthL = D at *
  rw [← hbs]
  have e4 : (p.2 != 40) = !decide (p.2 = 40) := by
    by_cases h : p.2 = 40
    · rw [h]; rfl
    · rw [decide_eq_false h]; simpa using h
  obtain ⟨⟨xs, xc, xr, xa, xb⟩, er⟩ := p
  simp only at *
  unfold Rf.v at h5
  simp only at h5
  cases g2
  · simp only [Bool.false_and, Bool.false_eq_true, if_false]
    cases hq : decide (er = 40)
    · rw [hq] at e4
      cases g6
      · exact run_ref_n l C D xs xc xr xa xb er w h1 h2 h5 e4 h6
      · cases g7
        · exact run_pw_n l C D xs xc xr xa xb er w h1 h2 h5 e4 h6 h7
        · exact run_pd_n l C D xs xc xr xa xb er w h1 h2 h5 e4 h6 h7
    · rw [hq] at e4
      cases g7
      · exact run_ew_n l C D xs xc xr xa xb er w h1 h2 h5 e4 h7
      · exact run_ed_n l C D xs xc xr xa xb er w h1 h2 h5 e4 h7
  · cases g3
    · exact run_sheet l C D _ _ _ w h1 h2 h3 hsh
    · simp only [Bool.not_true, Bool.and_false, Bool.false_eq_true, if_false]
      cases hq : decide (er = 40)
      · rw [hq] at e4
        cases g6
        · exact run_ref_y l C D xs xc xr xa xb er w h1 h2 h3 h5 e4 h6
        · cases g7
          · exact run_pw_y l C D xs xc xr xa xb er w h1 h2 h3 h5 e4 h6 h7
          · exact run_pd_y l C D xs xc xr xa xb er w h1 h2 h3 h5 e4 h6 h7
      · rw [hq] at e4
        cases g7
        · exact run_ew_y l C D xs xc xr xa xb er w h1 h2 h3 h5 e4 h7
        · exact run_ed_y l C D xs xc xr xa xb er w h1 h2 h3 h5 e4 h7
end Go.Proofs.YtgihginfegckcaaGreatDoor
