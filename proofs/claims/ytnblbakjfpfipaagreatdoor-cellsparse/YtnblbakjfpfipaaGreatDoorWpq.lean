import Derived.Test.YtnblbakjfpfipaaGreatDoorWpa
/- ParseRange. -/
namespace Go.Proofs.YtnblbakjfpfipaaGreatDoor
open Go.RowKit

theorem ret_three {fn : Func} {p q u : Tmp} {ty : TypeId} (h : fn.results = #[.cell p ty, .cell q ty, .tmp u]) {tmps : Array Value} {w : World} {g g2 : Nat} {v v2 x : Value}
    (hp : tmps.getD p undef = .pointer (some ⟨g, 0, none⟩)) (hq : tmps.getD q undef = .pointer (some ⟨g2, 0, none⟩)) (hx : tmps.getD u undef = x) (hl : (loadVar ty ⟨g, 0, none⟩).run Tryz.prog w = .ok v w) (hl2 : (loadVar ty ⟨g2, 0, none⟩).run Tryz.prog w = .ok v2 w) :
    (results fn tmps).run Tryz.prog w = .ok (.tuple #[v, v2, x]) w := by
  have hp' : tmps[p]?.getD undef = .pointer (some ⟨g, 0, none⟩) := by simpa using hp
  have hq' : tmps[q]?.getD undef = .pointer (some ⟨g2, 0, none⟩) := by simpa using hq
  have hx' : tmps[u]?.getD undef = x := by simpa using hx
  simp [results, h, hp', hq', hx', asAddr, hl, hl2]
theorem Row.drewR {W : World} {B : Nat} {t : TypeId} {cs : Array Value} (h : Row W B t cs) : Row W.drew B t cs := h
/-- The two references of a range; else why it is none. -/
def parseRangeR (l : List UInt8) : Rf × Rf × Int :=
  if readOk (cutB l 58).1 && (placeP (cutB l 58).2.1).ok then
    (match foundR (bs (sheetC (cutB l 58).1).1) (placeP (sheetC (cutB l 58).1).2.1), foundR (bs (sheetC (cutB l 58).1).1) (placeP (cutB l 58).2.1) with
      | some a, some b => (a, b, 0)
      | _, _ => (Rf.zero, Rf.zero, 41))
  else (Rf.zero, Rf.zero, 40)
set_option maxRecDepth 100000 in
set_option maxHeartbeats 2000000 in
theorem pgr_a (l A1 B1 S L D L2 D2 : List UInt8) (f ac ar ac2 ar2 : Bool) (k2 : Bool) (w : World)
    (HCut : ∀ W, Hid (Calls Tryz.prog 45 #[.string (bs l), .string ⟨#[58]⟩] W fun e w' => e = .returned (.tuple #[.string (bs A1), .string (bs B1), .bool f]) ∧ Below W.heap.size W w'))
    (HRead : ∀ W, Hid (Calls Tryz.prog 41 #[.string (bs A1)] W fun e w' => e = .returned (.tuple #[.agg #[.string (bs S), .string (bs L), .string (bs D), .bool ac, .bool ar], .bool false]) ∧ Below W.heap.size W w'))
    (HPl : ∀ W, Hid (Calls Tryz.prog 46 #[.string (bs B1)] W fun e w' => e = .returned (.tuple #[.agg #[.string .empty, .string (bs L2), .string (bs D2), .bool ac2, .bool ar2], .bool k2]) ∧ Below W.heap.size W w')) :
    Calls Tryz.prog 23 #[.string (bs l)] w fun e w' => e = .returned (.tuple #[.agg #[.string .empty, .int .i64 0, .int .i64 0, .bool false, .bool false], .agg #[.string .empty, .int .i64 0, .int .i64 0, .bool false, .bool false], .int .i64 40]) ∧ Below w.heap.size w w' := by
  go_enter Tryz.func23, Tryz.ntmps23
  go_wp2_with fail
  refine Calls.mono (HCut _).out ?_
  rintro _ w1 ⟨rfl, b1⟩
  go_wp2_with fail
  refine Calls.mono (HRead _).out ?_
  rintro _ w2 ⟨rfl, b2⟩
  obtain ⟨hZ2, hY2, hB2⟩ := two_rows w w2 _ _ _ _ (b1.trans (b2.mono b1.size))
  have hZ2 := hZ2.alloc (.cells #[.string (bs S), .string (bs L), .string (bs D), .bool ac, .bool ar] 54)
  have hY2 := hY2.alloc (.cells #[.string (bs S), .string (bs L), .string (bs D), .bool ac, .bool ar] 54)
  have hF2 := Row.new w2 54 #[.string (bs S), .string (bs L), .string (bs D), .bool ac, .bool ar]
  have hB2 := below_allocS hB2 (.cells #[.string (bs S), .string (bs L), .string (bs D), .bool ac, .bool ar] 54)
  clear b1 b2 HCut HRead
  go_wp2_with fail
  refine Calls.mono (HPl _).out ?_
  rintro _ w3 ⟨rfl, b3⟩
  have hZ3 := hZ2.below b3 hZ2.lt
  have hY3 := hY2.below b3 hY2.lt
  have hF3 := hF2.below b3 hF2.lt
  have hB3 := hB2.trans (b3.mono hB2.size)
  clear b3 hZ2 hY2 hF2 hB2 HPl
  have hzl := hZ3.lt
  have hyl := hY3.lt
  have hfl := hF3.lt
  obtain ⟨z0, z1, z2, z3, z4⟩ := hZ3.five
  obtain ⟨y0, y1, y2, y3, y4⟩ := hY3.five
  have fz := hZ3.frozen
  have fy := hY3.frozen
  go_wp2
  have hZ4 := (hZ3.set5 (.string .empty) (.int .i64 0) (.int .i64 0) (.bool false) (.bool false)).off5 (B' := w.heap.size + 1) (by omega) (.string .empty) (.int .i64 0) (.int .i64 0) (.bool false) (.bool false)
  have hY4 := (hY3.off5 (B' := w.heap.size) (by omega) (.string .empty) (.int .i64 0) (.int .i64 0) (.bool false) (.bool false)).set5 (.string .empty) (.int .i64 0) (.int .i64 0) (.bool false) (.bool false)
  have hB4 := below_set5 (below_set5 hB3 (B' := w.heap.size) (Nat.le_refl _) (.string .empty) (.int .i64 0) (.int .i64 0) (.bool false) (.bool false)) (B' := w.heap.size + 1) (by omega) (.string .empty) (.int .i64 0) (.int .i64 0) (.bool false) (.bool false)
  refine bodyPost_ret (ret_three rfl (g := w.heap.size) (g2 := w.heap.size + 1) rfl rfl rfl (load23 (hZ4.alloc _) rfl) (load23 (hY4.alloc _) rfl)) rfl ⟨rfl, ?_⟩
  exact below_allocS hB4 _
set_option maxRecDepth 100000 in
set_option maxHeartbeats 2000000 in
theorem pgr_b (l A1 B1 S L D L2 D2 : List UInt8) (f ac ar ac2 ar2 : Bool) (w : World)
    (HCut : ∀ W, Hid (Calls Tryz.prog 45 #[.string (bs l), .string ⟨#[58]⟩] W fun e w' => e = .returned (.tuple #[.string (bs A1), .string (bs B1), .bool f]) ∧ Below W.heap.size W w'))
    (HRead : ∀ W, Hid (Calls Tryz.prog 41 #[.string (bs A1)] W fun e w' => e = .returned (.tuple #[.agg #[.string (bs S), .string (bs L), .string (bs D), .bool ac, .bool ar], .bool true]) ∧ Below W.heap.size W w'))
    (HPl : ∀ W, Hid (Calls Tryz.prog 46 #[.string (bs B1)] W fun e w' => e = .returned (.tuple #[.agg #[.string .empty, .string (bs L2), .string (bs D2), .bool ac2, .bool ar2], .bool false]) ∧ Below W.heap.size W w')) :
    Calls Tryz.prog 23 #[.string (bs l)] w fun e w' => e = .returned (.tuple #[.agg #[.string .empty, .int .i64 0, .int .i64 0, .bool false, .bool false], .agg #[.string .empty, .int .i64 0, .int .i64 0, .bool false, .bool false], .int .i64 40]) ∧ Below w.heap.size w w' := by
  go_enter Tryz.func23, Tryz.ntmps23
  go_wp2_with fail
  refine Calls.mono (HCut _).out ?_
  rintro _ w1 ⟨rfl, b1⟩
  go_wp2_with fail
  refine Calls.mono (HRead _).out ?_
  rintro _ w2 ⟨rfl, b2⟩
  obtain ⟨hZ2, hY2, hB2⟩ := two_rows w w2 _ _ _ _ (b1.trans (b2.mono b1.size))
  have hZ2 := hZ2.alloc (.cells #[.string (bs S), .string (bs L), .string (bs D), .bool ac, .bool ar] 54)
  have hY2 := hY2.alloc (.cells #[.string (bs S), .string (bs L), .string (bs D), .bool ac, .bool ar] 54)
  have hF2 := Row.new w2 54 #[.string (bs S), .string (bs L), .string (bs D), .bool ac, .bool ar]
  have hB2 := below_allocS hB2 (.cells #[.string (bs S), .string (bs L), .string (bs D), .bool ac, .bool ar] 54)
  clear b1 b2 HCut HRead
  go_wp2_with fail
  refine Calls.mono (HPl _).out ?_
  rintro _ w3 ⟨rfl, b3⟩
  have hZ3 := hZ2.below b3 hZ2.lt
  have hY3 := hY2.below b3 hY2.lt
  have hF3 := hF2.below b3 hF2.lt
  have hB3 := hB2.trans (b3.mono hB2.size)
  clear b3 hZ2 hY2 hF2 hB2 HPl
  have hzl := hZ3.lt
  have hyl := hY3.lt
  have hfl := hF3.lt
  obtain ⟨z0, z1, z2, z3, z4⟩ := hZ3.five
  obtain ⟨y0, y1, y2, y3, y4⟩ := hY3.five
  have fz := hZ3.frozen
  have fy := hY3.frozen
  go_wp2
  have hZ4 := (hZ3.set5 (.string .empty) (.int .i64 0) (.int .i64 0) (.bool false) (.bool false)).off5 (B' := w.heap.size + 1) (by omega) (.string .empty) (.int .i64 0) (.int .i64 0) (.bool false) (.bool false)
  have hY4 := (hY3.off5 (B' := w.heap.size) (by omega) (.string .empty) (.int .i64 0) (.int .i64 0) (.bool false) (.bool false)).set5 (.string .empty) (.int .i64 0) (.int .i64 0) (.bool false) (.bool false)
  have hB4 := below_set5 (below_set5 hB3 (B' := w.heap.size) (Nat.le_refl _) (.string .empty) (.int .i64 0) (.int .i64 0) (.bool false) (.bool false)) (B' := w.heap.size + 1) (by omega) (.string .empty) (.int .i64 0) (.int .i64 0) (.bool false) (.bool false)
  refine bodyPost_ret (ret_three rfl (g := w.heap.size) (g2 := w.heap.size + 1) rfl rfl rfl (load23 (hZ4.alloc _) rfl) (load23 (hY4.alloc _) rfl)) rfl ⟨rfl, ?_⟩
  exact below_allocS hB4 _
set_option maxRecDepth 100000 in
set_option maxHeartbeats 4000000 in
theorem pgr_c (l A1 B1 S L D L2 D2 : List UInt8) (f ac ar ac2 ar2 : Bool) (xs ys : ByteArray) (xc xr yc yr : Int) (xa xb ya yb : Bool) (f2 : Bool) (w : World)
    (HCut : ∀ W, Hid (Calls Tryz.prog 45 #[.string (bs l), .string ⟨#[58]⟩] W fun e w' => e = .returned (.tuple #[.string (bs A1), .string (bs B1), .bool f]) ∧ Below W.heap.size W w'))
    (HRead : ∀ W, Hid (Calls Tryz.prog 41 #[.string (bs A1)] W fun e w' => e = .returned (.tuple #[.agg #[.string (bs S), .string (bs L), .string (bs D), .bool ac, .bool ar], .bool true]) ∧ Below W.heap.size W w'))
    (HPl : ∀ W, Hid (Calls Tryz.prog 46 #[.string (bs B1)] W fun e w' => e = .returned (.tuple #[.agg #[.string .empty, .string (bs L2), .string (bs D2), .bool ac2, .bool ar2], .bool true]) ∧ Below W.heap.size W w'))
    (H1 : ∀ W, Hid (Calls Tryz.prog 42 #[.agg #[.string (bs S), .string (bs L), .string (bs D), .bool ac, .bool ar]] W fun e w' => e = .returned (.tuple #[.agg #[.string xs, .int .i64 xc, .int .i64 xr, .bool xa, .bool xb], .bool false]) ∧ Below W.heap.size W w'))
    (H2 : ∀ W, Hid (Calls Tryz.prog 42 #[.agg #[.string (bs S), .string (bs L2), .string (bs D2), .bool ac2, .bool ar2]] W fun e w' => e = .returned (.tuple #[.agg #[.string ys, .int .i64 yc, .int .i64 yr, .bool ya, .bool yb], .bool f2]) ∧ Below W.heap.size W w')) :
    Calls Tryz.prog 23 #[.string (bs l)] w fun e w' => e = .returned (.tuple #[.agg #[.string .empty, .int .i64 0, .int .i64 0, .bool false, .bool false], .agg #[.string .empty, .int .i64 0, .int .i64 0, .bool false, .bool false], .int .i64 41]) ∧ Below w.heap.size w w' := by
  go_enter Tryz.func23, Tryz.ntmps23
  go_wp2_with fail
  refine Calls.mono (HCut _).out ?_
  rintro _ w1 ⟨rfl, b1⟩
  go_wp2_with fail
  refine Calls.mono (HRead _).out ?_
  rintro _ w2 ⟨rfl, b2⟩
  obtain ⟨hZ2, hY2, hB2⟩ := two_rows w w2 _ _ _ _ (b1.trans (b2.mono b1.size))
  have hZ2 := hZ2.alloc (.cells #[.string (bs S), .string (bs L), .string (bs D), .bool ac, .bool ar] 54)
  have hY2 := hY2.alloc (.cells #[.string (bs S), .string (bs L), .string (bs D), .bool ac, .bool ar] 54)
  have hF2 := Row.new w2 54 #[.string (bs S), .string (bs L), .string (bs D), .bool ac, .bool ar]
  have hB2 := below_allocS hB2 (.cells #[.string (bs S), .string (bs L), .string (bs D), .bool ac, .bool ar] 54)
  clear b1 b2 HCut HRead
  go_wp2_with fail
  refine Calls.mono (HPl _).out ?_
  rintro _ w3 ⟨rfl, b3⟩
  have hZ3 := hZ2.below b3 hZ2.lt
  have hY3 := hY2.below b3 hY2.lt
  have hF3 := hF2.below b3 hF2.lt
  have hB3 := hB2.trans (b3.mono hB2.size)
  clear b3 hZ2 hY2 hF2 hB2 HPl
  have hzl := hZ3.lt
  have hyl := hY3.lt
  have hfl := hF3.lt
  have hZ4 := hZ3.alloc (.cells #[.string (bs S), .string (bs L2), .string (bs D2), .bool ac2, .bool ar2] 54)
  have hY4 := hY3.alloc (.cells #[.string (bs S), .string (bs L2), .string (bs D2), .bool ac2, .bool ar2] 54)
  have hF4 := hF3.alloc (.cells #[.string (bs S), .string (bs L2), .string (bs D2), .bool ac2, .bool ar2] 54)
  have hF4o := hF3.alloc (.cells #[.string .empty, .string (bs L2), .string (bs D2), .bool ac2, .bool ar2] 54)
  have hT4 := Row.new w3 54 #[.string (bs S), .string (bs L2), .string (bs D2), .bool ac2, .bool ar2]
  have hB4 := below_allocS hB3 (.cells #[.string (bs S), .string (bs L2), .string (bs D2), .bool ac2, .bool ar2] 54)
  obtain ⟨e0, e1, e2, e3, e4⟩ := hF3.five
  obtain ⟨g0, g1, g2, g3, g4⟩ := hF4.five
  obtain ⟨i0, i1, i2, i3, i4⟩ := hF4o.five
  go_wp2_with fail
  refine Calls.mono (H1 _).out ?_
  rintro _ w4 ⟨rfl, b4⟩
  have hZ5 := (hZ4.below b4 hZ4.lt).alloc (.cells #[.string xs, .int .i64 xc, .int .i64 xr, .bool xa, .bool xb] 23)
  have hY5 := (hY4.below b4 hY4.lt).alloc (.cells #[.string xs, .int .i64 xc, .int .i64 xr, .bool xa, .bool xb] 23)
  have hT5 := (hT4.below b4 hT4.lt).alloc (.cells #[.string xs, .int .i64 xc, .int .i64 xr, .bool xa, .bool xb] 23)
  have hX5 := Row.new w4 23 #[.string xs, .int .i64 xc, .int .i64 xr, .bool xa, .bool xb]
  have hB5 := below_allocS (hB4.trans (b4.mono hB4.size)) (.cells #[.string xs, .int .i64 xc, .int .i64 xr, .bool xa, .bool xb] 23)
  have hl5 := (hT4.below b4 hT4.lt).lt
  clear b4 H1 hZ4 hY4 hF4 hF4o hT4 hB4 e0 e1 e2 e3 e4 g0 g1 g2 g3 g4 i0 i1 i2 i3 i4 hZ3 hY3 hF3 hB3
  obtain ⟨g0, g1, g2, g3, g4⟩ := hT5.five
  go_wp2_with fail
  refine Calls.mono (H2 _).out ?_
  rintro _ w5 ⟨rfl, b5⟩
  have hZ6 := hZ5.below b5 hZ5.lt
  have hY6 := hY5.below b5 hY5.lt
  have hX6 := hX5.below b5 hX5.lt
  have hB6 := hB5.trans (b5.mono hB5.size)
  clear b5 H2 hZ5 hY5 hX5 hT5 hB5 g0 g1 g2 g3 g4
  have hzl6 := hZ6.lt
  have hyl6 := hY6.lt
  have hxl6 := hX6.lt
  obtain ⟨z0, z1, z2, z3, z4⟩ := hZ6.five
  obtain ⟨y0, y1, y2, y3, y4⟩ := hY6.five
  have fz := hZ6.frozen
  have fy := hY6.frozen
  go_wp2
  have hZ7 := (hZ6.set5 (.string .empty) (.int .i64 0) (.int .i64 0) (.bool false) (.bool false)).off5 (B' := w.heap.size + 1) (by omega) (.string .empty) (.int .i64 0) (.int .i64 0) (.bool false) (.bool false)
  have hY7 := (hY6.off5 (B' := w.heap.size) (by omega) (.string .empty) (.int .i64 0) (.int .i64 0) (.bool false) (.bool false)).set5 (.string .empty) (.int .i64 0) (.int .i64 0) (.bool false) (.bool false)
  have hB7 := below_set5 (below_set5 hB6 (B' := w.heap.size) (Nat.le_refl _) (.string .empty) (.int .i64 0) (.int .i64 0) (.bool false) (.bool false)) (B' := w.heap.size + 1) (by omega) (.string .empty) (.int .i64 0) (.int .i64 0) (.bool false) (.bool false)
  refine bodyPost_ret (ret_three rfl (g := w.heap.size) (g2 := w.heap.size + 1) rfl rfl rfl (load23 (hZ7.alloc _) rfl) (load23 (hY7.alloc _) rfl)) rfl ⟨rfl, ?_⟩
  exact below_allocS hB7 _
set_option maxRecDepth 100000 in
set_option maxHeartbeats 4000000 in
theorem pgr_d (l A1 B1 S L D L2 D2 : List UInt8) (f ac ar ac2 ar2 : Bool) (xs ys : ByteArray) (xc xr yc yr : Int) (xa xb ya yb : Bool) (w : World)
    (HCut : ∀ W, Hid (Calls Tryz.prog 45 #[.string (bs l), .string ⟨#[58]⟩] W fun e w' => e = .returned (.tuple #[.string (bs A1), .string (bs B1), .bool f]) ∧ Below W.heap.size W w'))
    (HRead : ∀ W, Hid (Calls Tryz.prog 41 #[.string (bs A1)] W fun e w' => e = .returned (.tuple #[.agg #[.string (bs S), .string (bs L), .string (bs D), .bool ac, .bool ar], .bool true]) ∧ Below W.heap.size W w'))
    (HPl : ∀ W, Hid (Calls Tryz.prog 46 #[.string (bs B1)] W fun e w' => e = .returned (.tuple #[.agg #[.string .empty, .string (bs L2), .string (bs D2), .bool ac2, .bool ar2], .bool true]) ∧ Below W.heap.size W w'))
    (H1 : ∀ W, Hid (Calls Tryz.prog 42 #[.agg #[.string (bs S), .string (bs L), .string (bs D), .bool ac, .bool ar]] W fun e w' => e = .returned (.tuple #[.agg #[.string xs, .int .i64 xc, .int .i64 xr, .bool xa, .bool xb], .bool true]) ∧ Below W.heap.size W w'))
    (H2 : ∀ W, Hid (Calls Tryz.prog 42 #[.agg #[.string (bs S), .string (bs L2), .string (bs D2), .bool ac2, .bool ar2]] W fun e w' => e = .returned (.tuple #[.agg #[.string ys, .int .i64 yc, .int .i64 yr, .bool ya, .bool yb], .bool false]) ∧ Below W.heap.size W w')) :
    Calls Tryz.prog 23 #[.string (bs l)] w fun e w' => e = .returned (.tuple #[.agg #[.string .empty, .int .i64 0, .int .i64 0, .bool false, .bool false], .agg #[.string .empty, .int .i64 0, .int .i64 0, .bool false, .bool false], .int .i64 41]) ∧ Below w.heap.size w w' := by
  go_enter Tryz.func23, Tryz.ntmps23
  go_wp2_with fail
  refine Calls.mono (HCut _).out ?_
  rintro _ w1 ⟨rfl, b1⟩
  go_wp2_with fail
  refine Calls.mono (HRead _).out ?_
  rintro _ w2 ⟨rfl, b2⟩
  obtain ⟨hZ2, hY2, hB2⟩ := two_rows w w2 _ _ _ _ (b1.trans (b2.mono b1.size))
  have hZ2 := hZ2.alloc (.cells #[.string (bs S), .string (bs L), .string (bs D), .bool ac, .bool ar] 54)
  have hY2 := hY2.alloc (.cells #[.string (bs S), .string (bs L), .string (bs D), .bool ac, .bool ar] 54)
  have hF2 := Row.new w2 54 #[.string (bs S), .string (bs L), .string (bs D), .bool ac, .bool ar]
  have hB2 := below_allocS hB2 (.cells #[.string (bs S), .string (bs L), .string (bs D), .bool ac, .bool ar] 54)
  clear b1 b2 HCut HRead
  go_wp2_with fail
  refine Calls.mono (HPl _).out ?_
  rintro _ w3 ⟨rfl, b3⟩
  have hZ3 := hZ2.below b3 hZ2.lt
  have hY3 := hY2.below b3 hY2.lt
  have hF3 := hF2.below b3 hF2.lt
  have hB3 := hB2.trans (b3.mono hB2.size)
  clear b3 hZ2 hY2 hF2 hB2 HPl
  have hzl := hZ3.lt
  have hyl := hY3.lt
  have hfl := hF3.lt
  have hZ4 := hZ3.alloc (.cells #[.string (bs S), .string (bs L2), .string (bs D2), .bool ac2, .bool ar2] 54)
  have hY4 := hY3.alloc (.cells #[.string (bs S), .string (bs L2), .string (bs D2), .bool ac2, .bool ar2] 54)
  have hF4 := hF3.alloc (.cells #[.string (bs S), .string (bs L2), .string (bs D2), .bool ac2, .bool ar2] 54)
  have hF4o := hF3.alloc (.cells #[.string .empty, .string (bs L2), .string (bs D2), .bool ac2, .bool ar2] 54)
  have hT4 := Row.new w3 54 #[.string (bs S), .string (bs L2), .string (bs D2), .bool ac2, .bool ar2]
  have hB4 := below_allocS hB3 (.cells #[.string (bs S), .string (bs L2), .string (bs D2), .bool ac2, .bool ar2] 54)
  obtain ⟨e0, e1, e2, e3, e4⟩ := hF3.five
  obtain ⟨g0, g1, g2, g3, g4⟩ := hF4.five
  obtain ⟨i0, i1, i2, i3, i4⟩ := hF4o.five
  go_wp2_with fail
  refine Calls.mono (H1 _).out ?_
  rintro _ w4 ⟨rfl, b4⟩
  have hZ5 := (hZ4.below b4 hZ4.lt).alloc (.cells #[.string xs, .int .i64 xc, .int .i64 xr, .bool xa, .bool xb] 23)
  have hY5 := (hY4.below b4 hY4.lt).alloc (.cells #[.string xs, .int .i64 xc, .int .i64 xr, .bool xa, .bool xb] 23)
  have hT5 := (hT4.below b4 hT4.lt).alloc (.cells #[.string xs, .int .i64 xc, .int .i64 xr, .bool xa, .bool xb] 23)
  have hX5 := Row.new w4 23 #[.string xs, .int .i64 xc, .int .i64 xr, .bool xa, .bool xb]
  have hB5 := below_allocS (hB4.trans (b4.mono hB4.size)) (.cells #[.string xs, .int .i64 xc, .int .i64 xr, .bool xa, .bool xb] 23)
  have hl5 := (hT4.below b4 hT4.lt).lt
  clear b4 H1 hZ4 hY4 hF4 hF4o hT4 hB4 e0 e1 e2 e3 e4 g0 g1 g2 g3 g4 i0 i1 i2 i3 i4 hZ3 hY3 hF3 hB3
  obtain ⟨g0, g1, g2, g3, g4⟩ := hT5.five
  go_wp2_with fail
  refine Calls.mono (H2 _).out ?_
  rintro _ w5 ⟨rfl, b5⟩
  have hZ6 := hZ5.below b5 hZ5.lt
  have hY6 := hY5.below b5 hY5.lt
  have hX6 := hX5.below b5 hX5.lt
  have hB6 := hB5.trans (b5.mono hB5.size)
  clear b5 H2 hZ5 hY5 hX5 hT5 hB5 g0 g1 g2 g3 g4
  have hzl6 := hZ6.lt
  have hyl6 := hY6.lt
  have hxl6 := hX6.lt
  obtain ⟨z0, z1, z2, z3, z4⟩ := hZ6.five
  obtain ⟨y0, y1, y2, y3, y4⟩ := hY6.five
  have fz := hZ6.frozen
  have fy := hY6.frozen
  go_wp2
  have hZ7 := (hZ6.set5 (.string .empty) (.int .i64 0) (.int .i64 0) (.bool false) (.bool false)).off5 (B' := w.heap.size + 1) (by omega) (.string .empty) (.int .i64 0) (.int .i64 0) (.bool false) (.bool false)
  have hY7 := (hY6.off5 (B' := w.heap.size) (by omega) (.string .empty) (.int .i64 0) (.int .i64 0) (.bool false) (.bool false)).set5 (.string .empty) (.int .i64 0) (.int .i64 0) (.bool false) (.bool false)
  have hB7 := below_set5 (below_set5 hB6 (B' := w.heap.size) (Nat.le_refl _) (.string .empty) (.int .i64 0) (.int .i64 0) (.bool false) (.bool false)) (B' := w.heap.size + 1) (by omega) (.string .empty) (.int .i64 0) (.int .i64 0) (.bool false) (.bool false)
  refine bodyPost_ret (ret_three rfl (g := w.heap.size) (g2 := w.heap.size + 1) rfl rfl rfl (load23 (hZ7.alloc _) rfl) (load23 (hY7.alloc _) rfl)) rfl ⟨rfl, ?_⟩
  exact below_allocS hB7 _
set_option maxRecDepth 100000 in
set_option maxHeartbeats 4000000 in
theorem pgr_e (l A1 B1 S L D L2 D2 : List UInt8) (f ac ar ac2 ar2 : Bool) (xs ys : ByteArray) (xc xr yc yr : Int) (xa xb ya yb : Bool) (w : World)
    (HCut : ∀ W, Hid (Calls Tryz.prog 45 #[.string (bs l), .string ⟨#[58]⟩] W fun e w' => e = .returned (.tuple #[.string (bs A1), .string (bs B1), .bool f]) ∧ Below W.heap.size W w'))
    (HRead : ∀ W, Hid (Calls Tryz.prog 41 #[.string (bs A1)] W fun e w' => e = .returned (.tuple #[.agg #[.string (bs S), .string (bs L), .string (bs D), .bool ac, .bool ar], .bool true]) ∧ Below W.heap.size W w'))
    (HPl : ∀ W, Hid (Calls Tryz.prog 46 #[.string (bs B1)] W fun e w' => e = .returned (.tuple #[.agg #[.string .empty, .string (bs L2), .string (bs D2), .bool ac2, .bool ar2], .bool true]) ∧ Below W.heap.size W w'))
    (H1 : ∀ W, Hid (Calls Tryz.prog 42 #[.agg #[.string (bs S), .string (bs L), .string (bs D), .bool ac, .bool ar]] W fun e w' => e = .returned (.tuple #[.agg #[.string xs, .int .i64 xc, .int .i64 xr, .bool xa, .bool xb], .bool true]) ∧ Below W.heap.size W w'))
    (H2 : ∀ W, Hid (Calls Tryz.prog 42 #[.agg #[.string (bs S), .string (bs L2), .string (bs D2), .bool ac2, .bool ar2]] W fun e w' => e = .returned (.tuple #[.agg #[.string ys, .int .i64 yc, .int .i64 yr, .bool ya, .bool yb], .bool true]) ∧ Below W.heap.size W w')) :
    Calls Tryz.prog 23 #[.string (bs l)] w fun e w' => e = .returned (.tuple #[.agg #[.string xs, .int .i64 xc, .int .i64 xr, .bool xa, .bool xb], .agg #[.string ys, .int .i64 yc, .int .i64 yr, .bool ya, .bool yb], .int .i64 0]) ∧ Below w.heap.size w w' := by
  go_enter Tryz.func23, Tryz.ntmps23
  go_wp2_with fail
  refine Calls.mono (HCut _).out ?_
  rintro _ w1 ⟨rfl, b1⟩
  go_wp2_with fail
  refine Calls.mono (HRead _).out ?_
  rintro _ w2 ⟨rfl, b2⟩
  obtain ⟨hZ2, hY2, hB2⟩ := two_rows w w2 _ _ _ _ (b1.trans (b2.mono b1.size))
  have hZ2 := hZ2.alloc (.cells #[.string (bs S), .string (bs L), .string (bs D), .bool ac, .bool ar] 54)
  have hY2 := hY2.alloc (.cells #[.string (bs S), .string (bs L), .string (bs D), .bool ac, .bool ar] 54)
  have hF2 := Row.new w2 54 #[.string (bs S), .string (bs L), .string (bs D), .bool ac, .bool ar]
  have hB2 := below_allocS hB2 (.cells #[.string (bs S), .string (bs L), .string (bs D), .bool ac, .bool ar] 54)
  clear b1 b2 HCut HRead
  go_wp2_with fail
  refine Calls.mono (HPl _).out ?_
  rintro _ w3 ⟨rfl, b3⟩
  have hZ3 := hZ2.below b3 hZ2.lt
  have hY3 := hY2.below b3 hY2.lt
  have hF3 := hF2.below b3 hF2.lt
  have hB3 := hB2.trans (b3.mono hB2.size)
  clear b3 hZ2 hY2 hF2 hB2 HPl
  have hzl := hZ3.lt
  have hyl := hY3.lt
  have hfl := hF3.lt
  have hZ4 := hZ3.alloc (.cells #[.string (bs S), .string (bs L2), .string (bs D2), .bool ac2, .bool ar2] 54)
  have hY4 := hY3.alloc (.cells #[.string (bs S), .string (bs L2), .string (bs D2), .bool ac2, .bool ar2] 54)
  have hF4 := hF3.alloc (.cells #[.string (bs S), .string (bs L2), .string (bs D2), .bool ac2, .bool ar2] 54)
  have hF4o := hF3.alloc (.cells #[.string .empty, .string (bs L2), .string (bs D2), .bool ac2, .bool ar2] 54)
  have hT4 := Row.new w3 54 #[.string (bs S), .string (bs L2), .string (bs D2), .bool ac2, .bool ar2]
  have hB4 := below_allocS hB3 (.cells #[.string (bs S), .string (bs L2), .string (bs D2), .bool ac2, .bool ar2] 54)
  obtain ⟨e0, e1, e2, e3, e4⟩ := hF3.five
  obtain ⟨g0, g1, g2, g3, g4⟩ := hF4.five
  obtain ⟨i0, i1, i2, i3, i4⟩ := hF4o.five
  go_wp2_with fail
  refine Calls.mono (H1 _).out ?_
  rintro _ w4 ⟨rfl, b4⟩
  have hZ5 := (hZ4.below b4 hZ4.lt).alloc (.cells #[.string xs, .int .i64 xc, .int .i64 xr, .bool xa, .bool xb] 23)
  have hY5 := (hY4.below b4 hY4.lt).alloc (.cells #[.string xs, .int .i64 xc, .int .i64 xr, .bool xa, .bool xb] 23)
  have hT5 := (hT4.below b4 hT4.lt).alloc (.cells #[.string xs, .int .i64 xc, .int .i64 xr, .bool xa, .bool xb] 23)
  have hX5 := Row.new w4 23 #[.string xs, .int .i64 xc, .int .i64 xr, .bool xa, .bool xb]
  have hB5 := below_allocS (hB4.trans (b4.mono hB4.size)) (.cells #[.string xs, .int .i64 xc, .int .i64 xr, .bool xa, .bool xb] 23)
  have hl5 := (hT4.below b4 hT4.lt).lt
  clear b4 H1 hZ4 hY4 hF4 hF4o hT4 hB4 e0 e1 e2 e3 e4 g0 g1 g2 g3 g4 i0 i1 i2 i3 i4 hZ3 hY3 hF3 hB3
  obtain ⟨g0, g1, g2, g3, g4⟩ := hT5.five
  go_wp2_with fail
  refine Calls.mono (H2 _).out ?_
  rintro _ w5 ⟨rfl, b5⟩
  have hZ6 := hZ5.below b5 hZ5.lt
  have hY6 := hY5.below b5 hY5.lt
  have hX6 := hX5.below b5 hX5.lt
  have hB6 := hB5.trans (b5.mono hB5.size)
  clear b5 H2 hZ5 hY5 hX5 hT5 hB5 g0 g1 g2 g3 g4
  have hzl6 := hZ6.lt
  have hyl6 := hY6.lt
  have hxl6 := hX6.lt
  obtain ⟨z0, z1, z2, z3, z4⟩ := hZ6.five
  obtain ⟨y0, y1, y2, y3, y4⟩ := hY6.five
  have fz := hZ6.frozen
  have fy := hY6.frozen
  obtain ⟨x0, x1, x2, x3, x4⟩ := hX6.five
  obtain ⟨m0, m1, m2, m3, m4⟩ := (hX6.alloc (.cells #[.string ys, .int .i64 yc, .int .i64 yr, .bool ya, .bool yb] 23)).five
  have hlx : w4.heap.size < w5.heap.size := hxl6
  go_wp2_with fail
  go_region
  all_goals
    simp only [Exit.then]
    go_wp2
    have hZ7 := (hZ6.set5 (.string xs) (.int .i64 xc) (.int .i64 xr) (.bool xa) (.bool xb)).off5 (B' := w.heap.size + 1) (by omega) (.string ys) (.int .i64 yc) (.int .i64 yr) (.bool ya) (.bool yb)
    have hY7 := (hY6.off5 (B' := w.heap.size) (by omega) (.string xs) (.int .i64 xc) (.int .i64 xr) (.bool xa) (.bool xb)).set5 (.string ys) (.int .i64 yc) (.int .i64 yr) (.bool ya) (.bool yb)
    have hB7 := below_set5 (below_set5 hB6 (B' := w.heap.size) (Nat.le_refl _) (.string xs) (.int .i64 xc) (.int .i64 xr) (.bool xa) (.bool xb)) (B' := w.heap.size + 1) (by omega) (.string ys) (.int .i64 yc) (.int .i64 yr) (.bool ya) (.bool yb)
    have hZ8 := hZ7.alloc (.cells #[.string ys, .int .i64 yc, .int .i64 yr, .bool ya, .bool yb] 23)
    have hY8 := hY7.alloc (.cells #[.string ys, .int .i64 yc, .int .i64 yr, .bool ya, .bool yb] 23)
    have hB8 := below_allocS hB7 (.cells #[.string ys, .int .i64 yc, .int .i64 yr, .bool ya, .bool yb] 23)
    refine bodyPost_ret (ret_three rfl (g := w.heap.size) (g2 := w.heap.size + 1) rfl rfl rfl (load23 hZ8.drewR rfl) (load23 hY8.drewR rfl)) rfl ⟨rfl, ?_⟩
    exact hB8.drew
theorem parseRange_any (l : List UInt8) (hl : l.length ≤ 140737488351232) (w : World) :
    Calls Tryz.prog 23 #[.string (bs l)] w fun e w' => e = .returned (.tuple #[(parseRangeR l).1.v, (parseRangeR l).2.1.v, .int .i64 (parseRangeR l).2.2]) ∧ Below w.heap.size w w' := by
  have HCut : ∀ W, Hid _ := fun W => cut_any l 58 (by omega) W
  have hcl := cutB_len l 58
  unfold parseRangeR
  generalize cutB l 58 = q at HCut hcl ⊢
  obtain ⟨A1, B1, f⟩ := q
  simp only at HCut hcl ⊢
  have HRead : ∀ W, Hid _ := fun W => read_any A1 (by omega) W
  have HPl : ∀ W, Hid _ := fun W => readPlace_any B1 (by omega) W
  cases h1 : readOk A1
  · rw [h1] at HRead
    exact pgr_a l A1 B1 _ _ _ _ _ f _ _ _ _ _ w HCut HRead HPl
  cases h2 : (placeP B1).ok
  · rw [h1] at HRead
    rw [h2] at HPl
    exact pgr_b l A1 B1 _ _ _ _ _ f _ _ _ _ w HCut HRead HPl
  have hok : (placeP (sheetC A1).2.1).ok = true := by
    unfold readOk at h1
    rw [Bool.and_eq_true] at h1
    exact h1.2
  have H1 : ∀ W, Hid _ := fun W => found_any (bs (sheetC A1).1) (sheetC A1).2.1 hok W
  have H2 : ∀ W, Hid _ := fun W => found_any (bs (sheetC A1).1) B1 h2 W
  rw [h1] at HRead
  rw [h2] at HPl
  simp only [Bool.and_self, if_true]
  generalize foundR (bs (sheetC A1).1) (placeP (sheetC A1).2.1) = x at H1 ⊢
  generalize foundR (bs (sheetC A1).1) (placeP B1) = y at H2 ⊢
  cases x with
  | none => exact pgr_c l A1 B1 _ _ _ _ _ f _ _ _ _ _ _ _ _ _ _ _ _ _ _ _ w HCut HRead HPl H1 H2
  | some x =>
    cases y with
    | none => exact pgr_d l A1 B1 _ _ _ _ _ f _ _ _ _ _ _ _ _ _ _ _ _ _ _ w HCut HRead HPl H1 H2
    | some y => exact pgr_e l A1 B1 _ _ _ _ _ f _ _ _ _ _ _ _ _ _ _ _ _ _ _ w HCut HRead HPl H1 H2
end Go.Proofs.YtnblbakjfpfipaaGreatDoor
