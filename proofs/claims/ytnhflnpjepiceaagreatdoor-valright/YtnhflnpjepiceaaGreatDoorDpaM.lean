import Derived.Test.YtnhflnpjepiceaaGreatDoorDdg
import Derived.Test.YtnhflnpjepiceaaGreatDoorWbsM
import Derived.Test.YtnhflnpjepiceaaGreatDoorPahM
import Derived.Test.YtnhflnpjepiceaaGreatDoorVrtM
import Derived.Test.YtnhflnpjepiceaaGreatDoorSh3
/- dec's Parse. -/
namespace Go.Proofs.YtnhflnpjepiceaaGreatDoor
open Go.RowKit Go.Shelf

attribute [local go_sem] Oper.semAt_some

/-- The sum of digits, each at its place; none: it does not fit. -/
def foldS (xs : List (Int × Nat)) : Option Wd := xs.foldl (fun o x => o.bind (fun y => sumW y ⟨false, x.2, x.1⟩)) (some ⟨false, 0, 0⟩)
theorem foldS_snoc (pre : List (Int × Nat)) (x : Int × Nat) : foldS (pre ++ [x]) = (foldS pre).bind (fun y => sumW y ⟨false, x.2, x.1⟩) := by
  unfold foldS; rw [List.foldl_append]; rfl
theorem foldS_none {pre rest : List (Int × Nat)} (h : foldS pre = none) : foldS (pre ++ rest) = none := by
  unfold foldS at *
  rw [List.foldl_append, h]
  clear h
  induction rest with
  | nil => rfl
  | cons a r ih => exact ih
/-- The number that a text is read as. -/
def parsedD (l : List UInt8) : Option (Int × Int) := match foldS (readR l).1.digs with
  | none => none
  | some y => tellW (readR l).1.neg y.n y.e
def decPv (l : List UInt8) : Value := if decide (255 < l.length) || !(readR l).2 then .tuple #[dv 0 0, .int .i64 40] else decV (parsedD l)
def zero2 : Array Value := #[.int .i64 0, .int .i64 0]
def PaI (N : Nat) (w : World) (B2 B3 X B6 B7 : Nat) (x : Wr) (pre : List (Int × Nat)) (V : World) : Prop :=
  ∃ y : Wd, foldS pre = some y ∧ y.n < M128 ∧ EOk y ∧ Row V B6 85 y.cells ∧ Row V B7 4 #[.bool true] ∧ Row V B2 23 zero2 ∧ Row V B3 35 #[.int .i64 0] ∧ Row V X 97 x.cells ∧ Below N w V
def PaX (N : Nat) (w : World) (B2 B3 : Nat) (x : Wr) (c : Code) (V : World) : Prop :=
  c = .ret ∧ foldS x.digs = none ∧ Row V B2 23 zero2 ∧ Row V B3 35 #[.int .i64 30] ∧ Below N w V
theorem row_grownP {B7 : Nat} {A B : World} {row : Option Nat} {t : TypeId} {cs : Array Value} (h : Row A B7 t cs) (hg : A.grownBy B row) (hr : ∀ r, row = some r → ∃ o : Obj, A.heap[r]? = some o ∧ o.isCells = false) : Row B B7 t cs := by
  refine (hg.block B7 h.lt ?_).trans h
  intro e
  obtain ⟨o, ho, hc⟩ := hr B7 e.symm
  obtain rfl := Option.some.inj (ho.symm.trans h)
  cases hc
theorem row_put {W : World} {D B : Nat} {t : TypeId} {cs : Array Value} {o : Obj} {os : Option (List Deferred)} (h : Row W B t cs) (hK : W.heap[D]? = some (.deferred os)) : Row (W.putObj D o) B t cs := by
  have hne : D ≠ B := fun e => by rw [e, show W.heap[B]? = _ from h] at hK; cases hK
  exact (World.putObj_heap_other (Ne.symm hne)).trans h
theorem loadE {W : World} {B : Nat} {n : Int} (h : Row W B 35 #[.int .i64 n]) : (loadVar 35 ⟨B, 0, none⟩).run Tryz.prog W = .ok (.int .i64 n) W := by
  have c := h.cell (i := 0) (v := .int .i64 n) rfl
  go_simp
theorem ret_cells {fn : Func} {p q : Tmp} {ty tz : TypeId} (h : fn.results = #[.cell p ty, .cell q tz]) {tmps : Array Value} {w : World} {g g2 : Nat} {v v2 : Value}
    (hp : tmps.getD p undef = .pointer (some ⟨g, 0, none⟩)) (hq : tmps.getD q undef = .pointer (some ⟨g2, 0, none⟩)) (hl : (loadVar ty ⟨g, 0, none⟩).run Tryz.prog w = .ok v w) (hl2 : (loadVar tz ⟨g2, 0, none⟩).run Tryz.prog w = .ok v2 w) :
    (results fn tmps).run Tryz.prog w = .ok (.tuple #[v, v2]) w := by
  have hp' : tmps[p]?.getD undef = .pointer (some ⟨g, 0, none⟩) := by simpa using hp
  have hq' : tmps[q]?.getD undef = .pointer (some ⟨g2, 0, none⟩) := by simpa using hq
  simp [results, h, hp', hq', asAddr, hl, hl2]
theorem decV_formP (o : Option (Int × Int)) : ∃ c e er : Int, decV o = .tuple #[.agg #[.int .i64 c, .int .i64 e], .int .i64 er] := by
  cases o with
  | none => exact ⟨0, 0, 30, rfl⟩
  | some p => exact ⟨p.1, p.2, 0, rfl⟩
theorem keeps_below {B : Nat} {W V : World} (h : Below W.heap.size W V) : KeepsFrom B W V := ⟨h.size, fun k _ _ hk _ => (h.block k (Array.getElem?_eq_some_iff.1 hk).1).trans hk⟩
theorem keeps_set (B : Nat) (W : World) (b i : Nat) (v : Value) : KeepsFrom B W (W.setCell ⟨b, i, none⟩ v) := (KeepsOthers.setCell W ⟨b, i, none⟩ v).from B
theorem sum_digit (y : Wd) (d : Int × Nat) (hy : y.n < M128) (ey : EOk y) (h1 : -3000 ≤ d.1) (h2 : d.1 ≤ 3000) (h3 : d.2 < 10) (w : World) :
    Calls Tryz.prog 105 #[.agg #[.bool y.neg, .int .u64 ((y.n / 18446744073709551616 : Nat) : Int), .int .u64 ((y.n % 18446744073709551616 : Nat) : Int), .int .i64 y.e], .agg #[.bool false, .int .u64 0, .int .u64 (d.2 : Int), .int .i64 d.1]] w fun r w' => WayR (sumW y ⟨false, d.2, d.1⟩) r ∧ Below w.heap.size w w' := by
  have hm : (10 : Nat) < M128 := by decide
  have h := sum_any y ⟨false, d.2, d.1⟩ hy (by simp only; omega) ey ⟨by simp only; omega, by simp only; omega⟩ w
  have e1 : d.2 / 18446744073709551616 = 0 := Nat.div_eq_of_lt (by omega)
  have e2 : d.2 % 18446744073709551616 = d.2 := Nat.mod_eq_of_lt (by omega)
  unfold Wd.val wv at h
  simp only [e1, e2] at h
  exact h
set_option maxRecDepth 100000 in
set_option maxHeartbeats 1000000 in
theorem pdigits_call (n : Nat) (x : Wr) (w : World) : CallsIn Fence.wide n Tryz.prog 104 #[x.v] w fun e w' => e = .returned (.func (.func 144) #[] #[.pointer (some ⟨w.heap.size, 0, none⟩)]) ∧ w' = w.alloc (.cells x.cells 97) := by
  refine callsIn_wide.2 ?_
  unfold Wr.v Wr.cells
  go_enter Tryz.func104, Tryz.ntmps104
  go_wp2
  go_ret
  exact ⟨rfl, rfl⟩
set_option maxRecDepth 100000 in
set_option maxHeartbeats 2000000 in
theorem parse_ok (l : List UInt8) (x : Wr) (hl : (bs l).size ≤ 255) (he : -1000 ≤ x.e ∧ x.e ≤ 1000) (hlen : x.whole.length + x.part.length ≤ 300) (hdig : ∀ b ∈ x.whole ++ x.part, 48 ≤ b.toNat ∧ b.toNat ≤ 57) (w : World)
    (HR : ∀ W, Hid (Calls Tryz.prog 103 #[.string (bs l)] W fun e w' => e = .returned (.tuple #[x.v, .bool true]) ∧ Below W.heap.size W w')) (v : Value)
    (HV : Hid (v = decV (match foldS x.digs with | none => none | some y => tellW x.neg y.n y.e))) :
    CallsIn Fence.wide 8 Tryz.prog 60 #[.string (bs l)] w fun e w' => e = .returned v ∧ Below w.heap.size w w' := by
  refine callsIn_of_wp_marks Tryz.func60 rfl trivial ?_ rfl
  simp only [Tryz.ntmps60, List.size_toArray, List.length_cons, List.length_nil, Nat.reduceAdd, Nat.reduceSub, Array.replicate_succ, Array.replicate_zero, List.push_toArray, List.append_toArray, List.nil_append, List.cons_append]
  have hl2 : decide ((255 : Int) < ((bs l).size : Int)) = false := decide_eq_false (by omega)
  have HDC : ∀ W, Hid (CallsIn Fence.wide 7 Tryz.prog 104 #[.agg #[.bool x.neg, .string (bs x.whole), .string (bs x.part), .int .i64 x.e]] W fun e w' => e = .returned (.func (.func 144) #[] #[.pointer (some ⟨W.heap.size, 0, none⟩)]) ∧ w' = W.alloc (.cells #[.bool x.neg, .string (bs x.whole), .string (bs x.part), .int .i64 x.e] 97)) := fun W => pdigits_call 7 x W
  have HX : Hid ((-1000 ≤ x.e ∧ x.e ≤ 1000) ∧ x.whole.length + x.part.length ≤ 300 ∧ ∀ b ∈ x.whole ++ x.part, 48 ≤ b.toNat ∧ b.toNat ≤ 57) := ⟨he, hlen, hdig⟩
  clear he hlen hdig
  unfold Wr.v Wr.cells at HR
  gi_wp2_with fail
  refine ⟨trivial, (callsIn_wide.2 (HR _).out).mono ?_⟩
  rintro e w1 ⟨rfl, b1⟩
  obtain ⟨h2, h3, hB⟩ := two_rows w w1 _ _ _ _ b1
  clear b1 HR
  gi_wp2_with fail
  refine ⟨trivial, (HDC _).out.mono ?_⟩
  rintro e w2 ⟨rfl, hw2⟩
  rw [hw2]
  clear hw2 w2 HDC
  gi_wp2_with fail
  have hz : w.heap.size + 1 < w1.heap.size := h3.lt
  have r2 := (((h2.alloc (.cells #[.bool x.neg, .string (bs x.whole), .string (bs x.part), .int .i64 x.e] 97)).alloc (.cells #[.bool false, .int .u64 0, .int .u64 0, .int .i64 0] 85)).alloc (.cells #[.bool true] 4)).alloc (.cells #[.bool x.neg, .string (bs x.whole), .string (bs x.part), .int .i64 x.e] 97)
  have r3 := (((h3.alloc (.cells #[.bool x.neg, .string (bs x.whole), .string (bs x.part), .int .i64 x.e] 97)).alloc (.cells #[.bool false, .int .u64 0, .int .u64 0, .int .i64 0] 85)).alloc (.cells #[.bool true] 4)).alloc (.cells #[.bool x.neg, .string (bs x.whole), .string (bs x.part), .int .i64 x.e] 97)
  have rX := (((Row.new w1 97 #[.bool x.neg, .string (bs x.whole), .string (bs x.part), .int .i64 x.e]).alloc (.cells #[.bool false, .int .u64 0, .int .u64 0, .int .i64 0] 85)).alloc (.cells #[.bool true] 4)).alloc (.cells #[.bool x.neg, .string (bs x.whole), .string (bs x.part), .int .i64 x.e] 97)
  have r6 := ((Row.new1 w1 (.cells #[.bool x.neg, .string (bs x.whole), .string (bs x.part), .int .i64 x.e] 97) 85 #[.bool false, .int .u64 0, .int .u64 0, .int .i64 0]).alloc (.cells #[.bool true] 4)).alloc (.cells #[.bool x.neg, .string (bs x.whole), .string (bs x.part), .int .i64 x.e] 97)
  have r7 : Row ((((w1.alloc (.cells #[.bool x.neg, .string (bs x.whole), .string (bs x.part), .int .i64 x.e] 97)).alloc (.cells #[.bool false, .int .u64 0, .int .u64 0, .int .i64 0] 85)).alloc (.cells #[.bool true] 4)).alloc (.cells #[.bool x.neg, .string (bs x.whole), .string (bs x.part), .int .i64 x.e] 97)) (w1.heap.size + 1 + 1) 4 #[.bool true] := by
    have := (Row.new ((w1.alloc (.cells #[.bool x.neg, .string (bs x.whole), .string (bs x.part), .int .i64 x.e] 97)).alloc (.cells #[.bool false, .int .u64 0, .int .u64 0, .int .i64 0] 85)) 4 #[.bool true]).alloc (.cells #[.bool x.neg, .string (bs x.whole), .string (bs x.part), .int .i64 x.e] 97)
    simpa using this
  have rD : Row ((((w1.alloc (.cells #[.bool x.neg, .string (bs x.whole), .string (bs x.part), .int .i64 x.e] 97)).alloc (.cells #[.bool false, .int .u64 0, .int .u64 0, .int .i64 0] 85)).alloc (.cells #[.bool true] 4)).alloc (.cells #[.bool x.neg, .string (bs x.whole), .string (bs x.part), .int .i64 x.e] 97)) (w1.heap.size + 3) 97 x.cells := by
    show Row _ _ _ #[.bool x.neg, .string (bs x.whole), .string (bs x.part), .int .i64 x.e]
    have := Row.new (((w1.alloc (.cells #[.bool x.neg, .string (bs x.whole), .string (bs x.part), .int .i64 x.e] 97)).alloc (.cells #[.bool false, .int .u64 0, .int .u64 0, .int .i64 0] 85)).alloc (.cells #[.bool true] 4)) 97 #[.bool x.neg, .string (bs x.whole), .string (bs x.part), .int .i64 x.e]
    simpa using this
  have hB0 := below_allocS (below_allocS (below_allocS (below_allocS hB (.cells #[.bool x.neg, .string (bs x.whole), .string (bs x.part), .int .i64 x.e] 97)) (.cells #[.bool false, .int .u64 0, .int .u64 0, .int .i64 0] 85)) (.cells #[.bool true] 4)) (.cells #[.bool x.neg, .string (bs x.whole), .string (bs x.part), .int .i64 x.e] 97)
  have hs0 : ((((w1.alloc (.cells #[.bool x.neg, .string (bs x.whole), .string (bs x.part), .int .i64 x.e] 97)).alloc (.cells #[.bool false, .int .u64 0, .int .u64 0, .int .i64 0] 85)).alloc (.cells #[.bool true] 4)).alloc (.cells #[.bool x.neg, .string (bs x.whole), .string (bs x.part), .int .i64 x.e] 97)).heap.size = w1.heap.size + 4 := by simp
  clear h2 h3 hB
  generalize ((((w1.alloc (.cells #[.bool x.neg, .string (bs x.whole), .string (bs x.part), .int .i64 x.e] 97)).alloc (.cells #[.bool false, .int .u64 0, .int .u64 0, .int .i64 0] 85)).alloc (.cells #[.bool true] 4)).alloc (.cells #[.bool x.neg, .string (bs x.whole), .string (bs x.part), .int .i64 x.e] 97)) = W0 at r2 r3 rX r6 r7 rD hB0 hs0 ⊢
  simp only [show w1.heap.size + 1 + 1 + 1 = w1.heap.size + 3 from rfl]
  refine wpIn_range_brk rfl (by omega) (gf := 144) (lb := #[.pointer (some ⟨w1.heap.size + 3, 0, none⟩)]) rfl trivial (enters_of Tryz.func144 (by kernel_rfl) rfl) (pdigits_in 7 (by omega) (w1.heap.size + 3) x HX.out.1 HX.out.2.1 HX.out.2.2 W0 rD) (fun _ _ => trivial) (fun _ _ _ _ _ _ _ _ => trivial) (fun _ => rfl)
    (PaI w.heap.size w w.heap.size (w.heap.size + 1) w1.heap.size (w1.heap.size + 1) (w1.heap.size + 1 + 1) x) (PaX w.heap.size w w.heap.size (w.heap.size + 1) x)
    (fun s A B row hs hg hr => by
      obtain ⟨y, y1, y2, y3, y4, y5, y6, y7, y8, y9⟩ := hs
      exact ⟨y, y1, y2, y3, row_grownP y4 hg (fun r e => (hr r e).2), row_grownP y5 hg (fun r e => (hr r e).2), row_grownP y6 hg (fun r e => (hr r e).2), row_grownP y7 hg (fun r e => (hr r e).2), row_grownP y8 hg (fun r e => (hr r e).2), ownFrom_below (β := Unit) (Nat.le_refl _) hB0.size () A B row y9 hg hr⟩)
    (fun c s A B row hs hg hr => by
      obtain ⟨y1, y2, y3, y4, y5⟩ := hs
      exact ⟨y1, y2, row_grownP y3 hg (fun r e => (hr r e).2), row_grownP y4 hg (fun r e => (hr r e).2), ownFrom_below (β := Unit) (Nat.le_refl _) hB0.size () A B row y5 hg hr⟩)
    ⟨⟨false, 0, 0⟩, rfl, by decide, ⟨by decide, by decide⟩, r6, r7, r2, r3, rX, hB0⟩
    (fun d => { tmps := #[.string (bs l), undef, .pointer (some ⟨w.heap.size, 0, none⟩), .pointer (some ⟨w.heap.size + 1, 0, none⟩), .pointer (some ⟨w1.heap.size, 0, none⟩), .bool true, .pointer (some ⟨w1.heap.size + 1, 0, none⟩), .pointer (some ⟨w1.heap.size + 1 + 1, 0, none⟩), .int .i64 d.1, .int .u64 (d.2 : Int), .string (bs l), .int .i64 ((bs l).size : Int), .bool false, undef, .tuple #[.agg #[.bool x.neg, .string (bs x.whole), .string (bs x.part), .int .i64 x.e], .bool true], .string (bs l), .tuple #[.agg #[.bool x.neg, .string (bs x.whole), .string (bs x.part), .int .i64 x.e], .bool true], .agg #[.bool x.neg, .string (bs x.whole), .string (bs x.part), .int .i64 x.e], .bool true, .bool true, .bool false, undef, .agg #[.bool false, .int .u64 0, .int .u64 0, .int .i64 0], .agg #[.bool x.neg, .string (bs x.whole), .string (bs x.part), .int .i64 x.e], .func (.func 144) #[] #[.pointer (some ⟨w1.heap.size + 3, 0, none⟩)], .int .i64 d.1, .int .u64 (d.2 : Int), undef, undef, undef, undef, undef, undef, undef, undef, undef, undef, undef, undef, undef, undef, undef, undef, undef, undef], defers := [] }) ?assign ?body ?done ?stop
  case assign =>
    intro l x W K hK
    simp only [encP] at hK ⊢
    gi_wp2
    exact hK
  case body =>
    rintro l' pre d W ⟨y, y1, y2, y3, y4, y5, y6, y7, y8, y9⟩ ⟨⟨rest, hrest⟩, hd1, hd2, hd3⟩
    have HS : ∀ V, Hid (Calls Tryz.prog 105 #[.agg #[.bool y.neg, .int .u64 ((y.n / 18446744073709551616 : Nat) : Int), .int .u64 ((y.n % 18446744073709551616 : Nat) : Int), .int .i64 y.e], .agg #[.bool false, .int .u64 0, .int .u64 (d.2 : Int), .int .i64 d.1]] V fun r w' => WayR (sumW y ⟨false, d.2, d.1⟩) r ∧ Below V.heap.size V w') := fun V => sum_digit y d y2 y3 hd1 hd2 hd3 V
    unfold Wd.cells at y4
    obtain ⟨c0, c1, c2, c3⟩ := y4.fourR
    have HN : Hid (foldS (pre ++ [d]) = sumW y ⟨false, d.2, d.1⟩) := by show _ = _; rw [foldS_snoc, y1]; rfl
    have HRS : Hid (x.digs = (pre ++ [d]) ++ rest) := by show _ = _; rw [hrest]; simp
    generalize sumW y ⟨false, d.2, d.1⟩ = SW at HS HN
    generalize ((y.n / 18446744073709551616 : Nat) : Int) = yh at *
    generalize ((y.n % 18446744073709551616 : Nat) : Int) = yl at *
    generalize y.neg = yn at *
    generalize y.e = ye at *
    clear hrest y1 y2 y3 hd1 hd2 hd3 r2 r3 rX r6 r7 rD hB0 HX
    gi_wp2_with fail
    refine ⟨trivial, ((callsIn_wide.2 (HS _).out).inRound _).mono ?_⟩
    rintro _ w3 ⟨⟨z, b, rfl, z1, z2, z3, z4⟩, b3⟩
    have hk3 : KeepsFrom W0.heap.size W w3 := keeps_below b3
    have g4 := y4.below b3 y4.lt
    have g5 := y5.below b3 y5.lt
    have g6 := y6.below b3 y6.lt
    have g7 := y7.below b3 y7.lt
    have g8 := y8.below b3 y8.lt
    have g9 := y9.trans (b3.mono y9.size)
    clear y4 y5 y6 y7 y8 y9 b3 c0 c1 c2 c3 HS
    unfold Wd.val wv
    obtain ⟨c0, c1, c2, c3⟩ := g4.fourR
    have f4 := g4.frozen
    have l4 := g4.lt
    have f5 := g5.frozen
    have l5 := g5.lt
    have e5 := g5.cell (i := 0) rfl
    have f6 := g6.frozen
    have l6 := g6.lt
    have f7 := g7.frozen
    have l7 := g7.lt
    have e7 := g7.cell (i := 0) rfl
    have e6 := g6.cell (i := 0) (v := .int .i64 0) rfl
    have e61 := g6.cell (i := 1) (v := .int .i64 0) rfl
    have q4 := (Row.set4R g4 (.bool z.neg) (.int .u64 ((z.n / 18446744073709551616 : Nat) : Int)) (.int .u64 ((z.n % 18446744073709551616 : Nat) : Int)) (.int .i64 z.e)).off (B' := w1.heap.size + 1 + 1) 0 (.bool b) (by omega)
    have q5 := (((((g5.off (B' := w1.heap.size + 1) 0 (.bool z.neg) (by omega)).off (B' := w1.heap.size + 1) 1 (.int .u64 ((z.n / 18446744073709551616 : Nat) : Int)) (by omega)).off (B' := w1.heap.size + 1) 2 (.int .u64 ((z.n % 18446744073709551616 : Nat) : Int)) (by omega)).off (B' := w1.heap.size + 1) 3 (.int .i64 z.e) (by omega)).set 0 (.bool b))
    have q6 := ((((g6.off (B' := w1.heap.size + 1) 0 (.bool z.neg) (by omega)).off (B' := w1.heap.size + 1) 1 (.int .u64 ((z.n / 18446744073709551616 : Nat) : Int)) (by omega)).off (B' := w1.heap.size + 1) 2 (.int .u64 ((z.n % 18446744073709551616 : Nat) : Int)) (by omega)).off (B' := w1.heap.size + 1) 3 (.int .i64 z.e) (by omega)).off (B' := w1.heap.size + 1 + 1) 0 (.bool b) (by omega)
    have q7 := ((((g7.off (B' := w1.heap.size + 1) 0 (.bool z.neg) (by omega)).off (B' := w1.heap.size + 1) 1 (.int .u64 ((z.n / 18446744073709551616 : Nat) : Int)) (by omega)).off (B' := w1.heap.size + 1) 2 (.int .u64 ((z.n % 18446744073709551616 : Nat) : Int)) (by omega)).off (B' := w1.heap.size + 1) 3 (.int .i64 z.e) (by omega)).off (B' := w1.heap.size + 1 + 1) 0 (.bool b) (by omega)
    have q8 := ((((g8.off (B' := w1.heap.size + 1) 0 (.bool z.neg) (by omega)).off (B' := w1.heap.size + 1) 1 (.int .u64 ((z.n / 18446744073709551616 : Nat) : Int)) (by omega)).off (B' := w1.heap.size + 1) 2 (.int .u64 ((z.n % 18446744073709551616 : Nat) : Int)) (by omega)).off (B' := w1.heap.size + 1) 3 (.int .i64 z.e) (by omega)).off (B' := w1.heap.size + 1 + 1) 0 (.bool b) (by omega)
    have q9 := below_set (below_set4R g9 (B' := w1.heap.size + 1) (by omega) (.bool z.neg) (.int .u64 ((z.n / 18446744073709551616 : Nat) : Int)) (.int .u64 ((z.n % 18446744073709551616 : Nat) : Int)) (.int .i64 z.e)) (B := w1.heap.size + 1 + 1) 0 (.bool b) (by omega)
    have k9 := ((((hk3.trans (keeps_set _ _ (w1.heap.size + 1) 0 (.bool z.neg))).trans (keeps_set _ _ (w1.heap.size + 1) 1 (.int .u64 ((z.n / 18446744073709551616 : Nat) : Int)))).trans (keeps_set _ _ (w1.heap.size + 1) 2 (.int .u64 ((z.n % 18446744073709551616 : Nat) : Int)))).trans (keeps_set _ _ (w1.heap.size + 1) 3 (.int .i64 z.e))).trans (keeps_set _ _ (w1.heap.size + 1 + 1) 0 (.bool b))
    have HZ1 : Hid (z.n < M128 ∧ EOk z) := ⟨z1, z2, z3⟩
    have HZ4 : Hid (SW = if b then some z else none) := z4
    clear g4 g5 g6 g7 g8 g9 hk3 z1 z2 z3 z4
    cases b
    · gi_wp2
      have HNo : Hid (foldS x.digs = none) := by show _ = _; rw [HRS.out]; exact foldS_none (by rw [HN.out, HZ4.out]; rfl)
      exact ⟨((k9.trans (keeps_set _ _ w.heap.size 0 (.int .i64 0))).trans (keeps_set _ _ w.heap.size 1 (.int .i64 0))).trans (keeps_set _ _ (w.heap.size + 1) 0 (.int .i64 30)), rfl, HNo.out,
        ((q6.set 0 (.int .i64 0)).set 1 (.int .i64 0)).off (B' := w.heap.size + 1) 0 (.int .i64 30) (by omega),
        ((q7.off (B' := w.heap.size) 0 (.int .i64 0) (by omega)).off (B' := w.heap.size) 1 (.int .i64 0) (by omega)).set 0 (.int .i64 30),
        below_set (below_set (below_set q9 (B := w.heap.size) 0 (.int .i64 0) (Nat.le_refl _)) (B := w.heap.size) 1 (.int .i64 0) (Nat.le_refl _)) (B := w.heap.size + 1) 0 (.int .i64 30) (by omega)⟩
    · gi_wp2
      exact ⟨k9, trivial, z, by rw [HN.out, HZ4.out]; rfl, HZ1.out.1, HZ1.out.2, q4, q5, q6, q7, q8, q9⟩
  case stop =>
    rintro D c W hD ⟨rfl, s1, s2, s3, s4⟩ hK
    have hv : v = .tuple #[.agg zero2, .int .i64 30] := by rw [HV.out, s1]; rfl
    have hBe : Below w.heap.size w (W.putObj D (.deferred none)) := s4.trans ((Kept.putObj (S := fun k => k < w.heap.size) W D (.deferred none) (by show ¬ D < _; have := hB0.size; omega)).below (fun _ h => h))
    gi_wp2
    refine ⟨by simp, .inl ⟨_, _, rfl, run_takeDeferred hK, ?_⟩⟩
    exact ⟨_, ret_cells rfl (g := w.heap.size) (g2 := w.heap.size + 1) rfl rfl (load23 (row_put s2 hK) rfl) (loadE (row_put s3 hK)), by rw [hv], hBe⟩
  case done =>
    rintro D ys W hD rfl ⟨y, y1, y2, y3, y4, y5, y6, y7, y8, y9⟩ hK
    have hv : v = decV (tellW x.neg y.n y.e) := by rw [HV.out, y1]
    obtain ⟨dc, de, er, hdv⟩ := decV_formP (tellW x.neg y.n y.e)
    have HT : ∀ V, Hid (Calls Tryz.prog 106 #[.agg #[.bool x.neg, .int .u64 ((y.n / 18446744073709551616 : Nat) : Int), .int .u64 ((y.n % 18446744073709551616 : Nat) : Int), .int .i64 y.e], .bool true] V fun r w' => r = .returned (.tuple #[.agg #[.int .i64 dc, .int .i64 de], .int .i64 er]) ∧ Below V.heap.size V w') := fun V => by
      have h := told_any ⟨x.neg, y.n, y.e⟩ true y2 y3.2 y3.1 V
      simp only [if_true] at h
      rw [hdv] at h
      exact h
    have hD1 : w1.heap.size + 4 ≤ D := by omega
    unfold Wd.cells at y4
    have z8 : Row W w1.heap.size 97 #[.bool x.neg, .string (bs x.whole), .string (bs x.part), .int .i64 x.e] := y8
    obtain ⟨c0, c1, c2, c3⟩ := y4.fourR
    have f4 := y4.frozen
    have l4 := y4.lt
    obtain ⟨e0, e1, e2, e3⟩ := z8.fourR
    have q4 := y4.set 0 (.bool x.neg)
    have q6 := y6.off (B' := w1.heap.size + 1) 0 (.bool x.neg) (by omega)
    have q7 := y7.off (B' := w1.heap.size + 1) 0 (.bool x.neg) (by omega)
    have q9 := below_set y9 (B := w1.heap.size + 1) 0 (.bool x.neg) (by omega)
    have qK : (W.setCell ⟨w1.heap.size + 1, 0, none⟩ (.bool x.neg)).heap[D]? = some (.deferred (some [])) := by rw [Below.heap_setCell _ _ _ _ (by show D ≠ w1.heap.size + 1; omega)]; exact hK
    generalize ((y.n / 18446744073709551616 : Nat) : Int) = yh at *
    generalize ((y.n % 18446744073709551616 : Nat) : Int) = yl at *
    generalize y.e = ye at *
    have HVv : Hid (v = .tuple #[.agg #[.int .i64 dc, .int .i64 de], .int .i64 er]) := hv.trans hdv
    clear hv hdv y1 y2 y3 r2 r3 rX r6 r7 rD HX y8 z8
    gi_wp2_with fail
    refine ⟨trivial, (callsIn_wide.2 (HT _).out).mono ?_⟩
    rintro _ w3 ⟨rfl, b3⟩
    have g6 := q6.below b3 q6.lt
    have g7 := q7.below b3 q7.lt
    have g9 := q9.trans (b3.mono q9.size)
    have gK : w3.heap[D]? = some (.deferred (some [])) := (b3.block D (Array.getElem?_eq_some_iff.1 qK).1).trans qK
    clear b3 HT q4 q6 q7 q9 qK hK c0 c1 c2 c3 e0 e1 e2 e3 f4 l4 y4 y5 y6 y7 y9
    have f6 := g6.frozen
    have l6 := g6.lt
    have f7 := g7.frozen
    have l7 := g7.lt
    have e7 := g7.cell (i := 0) rfl
    have e6 := g6.cell (i := 0) (v := .int .i64 0) rfl
    have e61 := g6.cell (i := 1) (v := .int .i64 0) rfl
    have k6 := ((g6.set 0 (.int .i64 dc)).set 1 (.int .i64 de)).off (B' := w.heap.size + 1) 0 (.int .i64 er) (by omega)
    have k7 := ((g7.off (B' := w.heap.size) 0 (.int .i64 dc) (by omega)).off (B' := w.heap.size) 1 (.int .i64 de) (by omega)).set 0 (.int .i64 er)
    have k9 := below_set (below_set (below_set g9 (B := w.heap.size) 0 (.int .i64 dc) (Nat.le_refl _)) (B := w.heap.size) 1 (.int .i64 de) (Nat.le_refl _)) (B := w.heap.size + 1) 0 (.int .i64 er) (by omega)
    have kK : (((w3.setCell ⟨w.heap.size, 0, none⟩ (.int .i64 dc)).setCell ⟨w.heap.size, 1, none⟩ (.int .i64 de)).setCell ⟨w.heap.size + 1, 0, none⟩ (.int .i64 er)).heap[D]? = some (.deferred (some [])) := by
      rw [Below.heap_setCell _ _ _ _ (by show D ≠ w.heap.size + 1; omega), Below.heap_setCell _ _ _ _ (by show D ≠ w.heap.size; omega), Below.heap_setCell _ _ _ _ (by show D ≠ w.heap.size; omega)]; exact gK
    have hBe : ∀ V, Below w.heap.size w V → Below w.heap.size w (V.putObj D (.deferred none)) := fun V h => h.trans ((Kept.putObj (S := fun k => k < w.heap.size) V D (.deferred none) (by show ¬ D < _; omega)).below (fun _ h => h))
    clear gK g9
    gi_wp2
    refine ⟨by simp, .inl ⟨_, _, rfl, run_takeDeferred kK, ?_⟩⟩
    exact ⟨_, ret_cells rfl (g := w.heap.size) (g2 := w.heap.size + 1) rfl rfl (load23 (row_put k6 kK) rfl) (loadE (row_put k7 kK)), by rw [HVv.out]; rfl, hBe _ k9⟩
end Go.Proofs.YtnhflnpjepiceaaGreatDoor
/- dec's Parse, whole. -/
namespace Go.Proofs.YtnhflnpjepiceaaGreatDoor
open Go.RowKit Go.Shelf

set_option maxRecDepth 100000 in
set_option maxHeartbeats 400000 in
theorem parse_long (l : List UInt8) (hl : 255 < (bs l).size) (w : World) :
    Calls Tryz.prog 60 #[.string (bs l)] w fun e w' => e = .returned (.tuple #[dv 0 0, .int .i64 40]) ∧ Below w.heap.size w w' := by
  have t1 : (255 : Int) < ((bs l).size : Int) := by omega
  clear hl
  go_enter Tryz.func60, Tryz.ntmps60
  go_wp2
  refine bodyPost_ret (ret_cells rfl (g := w.heap.size) (g2 := w.heap.size + 1) rfl rfl (load23 ((Row.new w 23 _).alloc _) rfl) (loadE (Row.new1 w _ 35 _))) rfl ⟨rfl, ?_⟩
  exact ((Below.refl _ w).alloc (Nat.le_refl _) _).alloc (by simp) _
set_option maxRecDepth 100000 in
set_option maxHeartbeats 400000 in
theorem parse_bad (l : List UInt8) (x : Wr) (hl : (bs l).size ≤ 255) (w : World)
    (HR : ∀ W, Hid (Calls Tryz.prog 103 #[.string (bs l)] W fun e w' => e = .returned (.tuple #[x.v, .bool false]) ∧ Below W.heap.size W w')) :
    Calls Tryz.prog 60 #[.string (bs l)] w fun e w' => e = .returned (.tuple #[dv 0 0, .int .i64 40]) ∧ Below w.heap.size w w' := by
  have t1 : decide ((255 : Int) < ((bs l).size : Int)) = false := decide_eq_false (by omega)
  clear hl
  unfold Wr.v Wr.cells at HR
  go_enter Tryz.func60, Tryz.ntmps60
  go_wp2_with fail
  refine Calls.mono (HR _).out ?_
  rintro _ w1 ⟨rfl, b1⟩
  obtain ⟨h2, h3, hB⟩ := two_rows w w1 _ _ _ _ b1
  clear b1 HR
  have e2 := h2.cell (i := 0) (v := .int .i64 0) rfl
  have e21 := h2.cell (i := 1) (v := .int .i64 0) rfl
  have e3 := h3.cell (i := 0) (v := .int .i64 0) rfl
  have f2 := h2.frozen
  have f3 := h3.frozen
  have l3 := h3.lt
  have l2 := h2.lt
  have k2 := (((h2.set 0 (.int .i64 0)).set 1 (.int .i64 0)).off (B' := w.heap.size + 1) 0 (.int .i64 40) (by omega)).alloc (.cells #[.bool x.neg, .string (bs x.whole), .string (bs x.part), .int .i64 x.e] 97)
  have k3 := (((h3.off (B' := w.heap.size) 0 (.int .i64 0) (by omega)).off (B' := w.heap.size) 1 (.int .i64 0) (by omega)).set 0 (.int .i64 40)).alloc (.cells #[.bool x.neg, .string (bs x.whole), .string (bs x.part), .int .i64 x.e] 97)
  have kB := below_allocS (below_set (below_set (below_set hB (B := w.heap.size) 0 (.int .i64 0) (Nat.le_refl _)) (B := w.heap.size) 1 (.int .i64 0) (Nat.le_refl _)) (B := w.heap.size + 1) 0 (.int .i64 40) (by omega)) (.cells #[.bool x.neg, .string (bs x.whole), .string (bs x.part), .int .i64 x.e] 97)
  clear h2 h3 hB
  go_wp2
  exact bodyPost_ret (ret_cells rfl (g := w.heap.size) (g2 := w.heap.size + 1) rfl rfl (load23 k2 rfl) (loadE k3)) rfl ⟨rfl, kB⟩
theorem expR_bd (l : List UInt8) : -999 ≤ (expR l).1 ∧ (expR l).1 ≤ 999 := by
  unfold expR
  cases l with
  | nil => simp
  | cons a r =>
    simp only
    split
    · split
      · rename_i h
        simp only [Bool.and_eq_true, decide_eq_true_eq] at h
        have hb := rowN_lt 3 (aheadL (expD r) digL) (fun b hb => (dig_bounds (ahead_mem hb)).2)
        rw [List.take_of_length_le (by omega)] at hb
        simp only
        split <;> omega
      · simp
    · simp
theorem expO_bd (l : List UInt8) : -999 ≤ (expO l).1 ∧ (expO l).1 ≤ 999 := by
  unfold expO
  split
  · simp
  · exact expR_bd l
theorem readR_ok (l : List UInt8) : (-1000 ≤ (readR l).1.e ∧ (readR l).1.e ≤ 1000) ∧ (readR l).1.whole.length + (readR l).1.part.length ≤ l.length ∧ ∀ b ∈ (readR l).1.whole ++ (readR l).1.part, 48 ≤ b.toNat ∧ b.toNat ≤ 57 := by
  have h1 := trim_len l [45]
  have h2 := ahead_len (Lib.trimPrefix l [45]) digL
  have h3 : (partR (behL (Lib.trimPrefix l [45]) digL)).1.length ≤ (behL (Lib.trimPrefix l [45]) digL).length ∧ ∀ b ∈ (partR (behL (Lib.trimPrefix l [45]) digL)).1, 48 ≤ b.toNat ∧ b.toNat ≤ 57 := by
    generalize behL (Lib.trimPrefix l [45]) digL = m
    unfold partR
    split
    · have g1 := trim_len m [46]
      have g2 := ahead_len (Lib.trimPrefix m [46]) digL
      exact ⟨by simp only; omega, fun b hb => dig_bounds (ahead_mem hb)⟩
    · simp
  refine ⟨?_, ?_, ?_⟩
  · have := expO_bd (partR (behL (Lib.trimPrefix l [45]) digL)).2.1
    show -1000 ≤ (expO (partR (behL (Lib.trimPrefix l [45]) digL)).2.1).1 ∧ (expO (partR (behL (Lib.trimPrefix l [45]) digL)).2.1).1 ≤ 1000
    omega
  · show (aheadL (Lib.trimPrefix l [45]) digL).length + (partR (behL (Lib.trimPrefix l [45]) digL)).1.length ≤ l.length
    omega
  · intro b hb
    rcases List.mem_append.1 hb with hb | hb
    · exact dig_bounds (ahead_mem (l := Lib.trimPrefix l [45]) hb)
    · exact h3.2 b hb
/-- dec's Parse: the number, or what is wrong. -/
theorem dparse_any (l : List UInt8) (hl : l.length ≤ 140737488351232) (w : World) :
    Calls Tryz.prog 60 #[.string (bs l)] w fun e w' => e = .returned (decPv l) ∧ Below w.heap.size w w' := by
  unfold decPv
  by_cases h : 255 < l.length
  · rw [decide_eq_true h]
    exact parse_long l (by rw [bs_size]; exact h) w
  · rw [decide_eq_false h]
    have hR : ∀ W, Hid _ := fun W => dread_any l hl W
    obtain ⟨h1, h2, h3⟩ := readR_ok l
    cases hb : (readR l).2
    · rw [hb] at hR
      exact parse_bad l (readR l).1 (by rw [bs_size]; omega) w hR
    · rw [hb] at hR
      exact callsIn_wide.1 (parse_ok l (readR l).1 (by rw [bs_size]; omega) h1 (by omega) h3 w hR _ rfl)
end Go.Proofs.YtnhflnpjepiceaaGreatDoor
/- val: numberOf; a text as a number. -/
namespace Go.Proofs.YtnhflnpjepiceaaGreatDoor
open Go.RowKit

/-- The block of a call's result. -/
def R1 (w W : World) (q : Array Value) : Prop := Row W w.heap.size 25 q ∧ Below w.heap.size w W
theorem R1.start (w : World) (q : Array Value) : R1 w (w.alloc (.cells q 25)) q := ⟨Row.new w 25 q, (Below.refl _ w).alloc (Nat.le_refl _) _⟩
theorem R1.next {w W W' : World} {q : Array Value} (h : R1 w W q) (b : Below W.heap.size W W') : R1 w W' q := ⟨h.1.below b h.1.lt, h.2.trans (b.mono h.2.size)⟩
theorem R1.drew {w W : World} {q : Array Value} (h : R1 w W q) : R1 w W.drew q := h.next (Below.refl _ W).drew
theorem R1.or {w W W' : World} {q : Array Value} (h : R1 w W q) (e : W' = W ∨ W' = W.drew) : R1 w W' q := by
  rcases e with rfl | rfl
  · exact h
  · exact h.drew
theorem R1.alloc {w W : World} {q : Array Value} (h : R1 w W q) (o : Obj) : R1 w (W.alloc o) q := h.next ((Below.refl _ W).alloc (Nat.le_refl _) _)
theorem R1.set {w W : World} {a b c d e f : Value} (h : R1 w W #[a, b, c, d, e, f]) (a' b' c' d' e' f' : Value) :
    R1 w ((((((W.setCell ⟨w.heap.size, 0, none⟩ a').setCell ⟨w.heap.size, 1, none⟩ b').setCell ⟨w.heap.size, 2, none⟩ c').setCell ⟨w.heap.size, 3, none⟩ d').setCell ⟨w.heap.size, 4, none⟩ e').setCell ⟨w.heap.size, 5, none⟩ f') #[a', b', c', d', e', f'] :=
  ⟨h.1.set6 _ _ _ _ _ _, below_set6 h.2 (Nat.le_refl _) _ _ _ _ _ _⟩
theorem R1.res {w W : World} {q : Array Value} (h : R1 w W q) (hs : q.size = 6) : (loadVar 25 ⟨w.heap.size, 0, none⟩).run Tryz.prog W = .ok (.agg q) W := load25 h.1 hs

/-- What Parse answers: the Dec and the error. -/
def parseQ (l : List UInt8) : Int × Int × Int := if decide (255 < l.length) || !(readR l).2 then (0, 0, 40) else match parsedD l with | some (c, e) => (c, e, 0) | none => (0, 0, 30)
theorem parseQ_v (l : List UInt8) : decPv l = .tuple #[.agg #[.int .i64 (parseQ l).1, .int .i64 (parseQ l).2.1], .int .i64 (parseQ l).2.2] := by
  unfold decPv parseQ
  split
  · rfl
  · cases h : parsedD l with
    | none => rfl
    | some d => rfl
theorem parseQ_bd (l : List UInt8) : I64 (parseQ l).1 := by
  unfold parseQ
  split
  · exact ⟨by decide, by decide⟩
  · cases h : parsedD l with
    | none => exact ⟨by decide, by decide⟩
    | some d =>
      obtain ⟨C, E⟩ := d
      unfold parsedD at h
      split at h
      · cases h
      · rename_i y _
        by_cases h0 : y.n = 0
        · rw [h0, tellW_zero] at h
          cases h
          exact ⟨by decide, by decide⟩
        · obtain ⟨_, _, _, _, h5, h6, _⟩ := tellW_some h h0
          exact ⟨h5, h6⟩
theorem parse_val (l : List UInt8) (hl : l.length ≤ 140737488351232) (w : World) :
    Calls Tryz.prog 60 #[.string (bs l)] w fun e w' => e = .returned (.tuple #[.agg #[.int .i64 (parseQ l).1, .int .i64 (parseQ l).2.1], .int .i64 (parseQ l).2.2]) ∧ Below w.heap.size w w' := by
  have := dparse_any l hl w
  rw [parseQ_v] at this
  exact this
def trimT (s : ByteArray) : List UInt8 := Lib.trimB s.data.toList 32
theorem dropWhile_len {α : Type} (p : α → Bool) (l : List α) : (l.dropWhile p).length ≤ l.length := List.IsSuffix.length_le (List.dropWhile_suffix p)
theorem trimT_len (s : ByteArray) : (trimT s).length ≤ s.size := by
  unfold trimT Lib.trimB Lib.trimLeftB Lib.trimRightB
  have h1 := dropWhile_len (· == 32) s.data.toList.reverse
  have h2 := dropWhile_len (· == 32) (s.data.toList.reverse.dropWhile (· == (32 : UInt8))).reverse
  have h3 : s.size = s.data.toList.length := rfl
  simp only [List.length_reverse] at *
  omega
def numT (s : ByteArray) : Vl := if (parseQ (trimT s)).2.2 = 40 then vX 2 else ofW (parseQ (trimT s)).1 (parseQ (trimT s)).2.1 (parseQ (trimT s)).2.2
/-- Any value that Of may answer. -/
theorem ofW_form (c e er : Int) : ∃ k c' e' x, (ofW c e er).v = .agg #[.int .i64 k, .int .i64 c', .int .i64 e', .string .empty, .bool false, .int .i64 x] := by
  unfold ofW
  split
  · exact ⟨_, _, _, _, rfl⟩
  · split <;> exact ⟨_, _, _, _, rfl⟩
set_option maxRecDepth 100000 in
set_option maxHeartbeats 1200000 in
theorem numberOf_any (s : ByteArray) (hs : s.size ≤ 255) (w : World) : Calls Tryz.prog 49 #[.string s] w fun r w' => r = .returned (numT s).v ∧ Below w.heap.size w w' := by
  have HT : ∀ V, Hid (Calls Tryz.prog 91 #[.string s, .string ⟨#[32]⟩] V fun e w' => e = .returned (.string (bs (trimT s))) ∧ (w' = V ∨ w' = V.drew)) := fun V => Tryz.strings_Trim_one s 32 (by decide) V (by omega)
  have HP : ∀ V, Hid (Calls Tryz.prog 60 #[.string (bs (trimT s))] V fun e w' => e = .returned (.tuple #[.agg #[.int .i64 (parseQ (trimT s)).1, .int .i64 (parseQ (trimT s)).2.1], .int .i64 (parseQ (trimT s)).2.2]) ∧ Below V.heap.size V w') := fun V => parse_val _ (by have := trimT_len s; omega) V
  have hbd := parseQ_bd (trimT s)
  unfold numT
  generalize bs (trimT s) = t at *
  obtain ⟨c, hc⟩ : ∃ c, (parseQ (trimT s)).1 = c := ⟨_, rfl⟩
  obtain ⟨e, he⟩ : ∃ e, (parseQ (trimT s)).2.1 = e := ⟨_, rfl⟩
  obtain ⟨er, her⟩ : ∃ er, (parseQ (trimT s)).2.2 = er := ⟨_, rfl⟩
  rw [hc] at hbd
  simp only [hc, he, her] at HP ⊢
  clear hc he her hs
  have HO : ∀ V, Hid (Calls Tryz.prog 23 #[.agg #[.int .i64 c, .int .i64 e], .int .i64 er] V fun r w' => r = .returned (ofW c e er).v ∧ Below V.heap.size V w') := fun V => of_val c e er hbd V
  clear hbd
  have h0 := R1.start w #[.int .i64 0, .int .i64 0, .int .i64 0, .string .empty, .bool false, .int .i64 0]
  go_enter Tryz.func49, Tryz.ntmps49
  go_wp2_with fail
  refine Calls.mono (HT _).out ?_
  rintro _ w1 ⟨rfl, e1⟩
  have h1 := h0.or e1
  clear e1 h0 HT
  go_wp2_with fail
  refine Calls.mono (HP _).out ?_
  rintro _ w2 ⟨rfl, b2⟩
  have h2 := (h1.next b2).alloc (.cells #[.int .i64 c, .int .i64 e] 23)
  clear b2 h1 HP
  by_cases e40 : er = 40
  · subst e40
    go_wp2_with fail
    refine Calls.mono (err_any 2 _) ?_
    rintro _ w3 ⟨rfl, b3⟩
    rw [errW2]
    have h3 := h2.next b3
    obtain ⟨y0, y1, y2, y3, y4, y5⟩ := h3.1.six
    have zf := h3.1.frozen
    have wl := h3.1.lt
    clear b3 h2 HO
    go_wp2
    exact bodyPost_ret (ret_one rfl (g := w.heap.size) rfl ((h3.set _ _ _ _ _ _).res rfl)) rfl ⟨rfl, (h3.set _ _ _ _ _ _).2⟩
  · have e4 : (er == 40) = false := by simpa using e40
    go_wp2_with fail
    refine Calls.mono (HO _).out ?_
    rintro _ w3 ⟨rfl, b3⟩
    obtain ⟨k', c', e', x', hv⟩ := ofW_form c e er
    rw [hv]
    have h3 := h2.next b3
    obtain ⟨y0, y1, y2, y3, y4, y5⟩ := h3.1.six
    have zf := h3.1.frozen
    have wl := h3.1.lt
    clear b3 h2 HO
    go_wp2
    exact bodyPost_ret (ret_one rfl (g := w.heap.size) rfl ((h3.set _ _ _ _ _ _).res rfl)) rfl ⟨by first | rfl | rw [if_neg e40, hv], (h3.set _ _ _ _ _ _).2⟩
end Go.Proofs.YtnhflnpjepiceaaGreatDoor
