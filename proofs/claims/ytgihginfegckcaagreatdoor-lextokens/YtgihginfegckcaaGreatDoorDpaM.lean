import Derived.Test.YtgihginfegckcaaGreatDoorDdg
import Derived.Test.YtgihginfegckcaaGreatDoorDbsM
import Derived.Test.YtgihginfegckcaaGreatDoorRwsM
import Derived.Test.YtgihginfegckcaaGreatDoorPtrM
import Derived.Lib.SplitLaws
/- dec's Parse. -/
namespace Go.Proofs.YtgihginfegckcaaGreatDoor
open Go.RowKit Go.Shelf

attribute [local go_sem] Oper.semAt_some

/-- The sum of digits, each at its place; none: it does not fit. -/
def foldS (xs : List (Int × Nat)) : Option Wd := xs.foldl (fun o x => o.bind (fun y => sumW y ⟨false, x.2, x.1⟩)) (some ⟨false, 0, 0⟩)
theorem foldS_snoc (pre : List (Int × Nat)) (x : Int × Nat) : foldS (pre ++ [x]) = (foldS pre).bind (fun y => sumW y ⟨false, x.2, x.1⟩) := by
  unfold foldS; rw [List.foldl_append]; rfl
theorem foldS_none {pre rest : List (Int × Nat)} (h : foldS pre = none) : foldS (pre ++ rest) = none := by
  unfold foldS at *
  rw [List.foldl_append, h]
  clear h
  induction rest with
  | nil => rfl
  | cons a r ih => exact ih
/-- The number that a text is read as. -/
def parsedD (l : List UInt8) : Option (Int × Int) := match foldS (readR l).1.digs with
  | none => none
  | some y => tellW (readR l).1.neg y.n y.e
def decPv (l : List UInt8) : Value := if decide (255 < l.length) || !(readR l).2 then .tuple #[dv 0 0, .int .i64 40] else decV (parsedD l)
def zero2 : Array Value := #[.int .i64 0, .int .i64 0]
def PaI (N : Nat) (w : World) (B2 B3 X B6 B7 : Nat) (x : Wr) (pre : List (Int × Nat)) (V : World) : Prop :=
  ∃ y : Wd, foldS pre = some y ∧ y.n < M128 ∧ EOk y ∧ Row V B6 76 y.cells ∧ Row V B7 4 #[.bool true] ∧ Row V B2 30 zero2 ∧ Row V B3 23 #[.int .i64 0] ∧ Row V X 71 x.cells ∧ Below N w V
def PaX (N : Nat) (w : World) (B2 B3 : Nat) (x : Wr) (c : Code) (V : World) : Prop :=
  c = .ret ∧ foldS x.digs = none ∧ Row V B2 30 zero2 ∧ Row V B3 23 #[.int .i64 30] ∧ Below N w V
theorem row_grownP {B7 : Nat} {A B : World} {row : Option Nat} {t : TypeId} {cs : Array Value} (h : Row A B7 t cs) (hg : A.grownBy B row) (hr : ∀ r, row = some r → ∃ o : Obj, A.heap[r]? = some o ∧ o.isCells = false) : Row B B7 t cs := by
  refine (hg.block B7 h.lt ?_).trans h
  intro e
  obtain ⟨o, ho, hc⟩ := hr B7 e.symm
  obtain rfl := Option.some.inj (ho.symm.trans h)
  cases hc
theorem row_put {W : World} {D B : Nat} {t : TypeId} {cs : Array Value} {o : Obj} {os : Option (List Deferred)} (h : Row W B t cs) (hK : W.heap[D]? = some (.deferred os)) : Row (W.putObj D o) B t cs := by
  have hne : D ≠ B := fun e => by rw [e, show W.heap[B]? = _ from h] at hK; cases hK
  exact (World.putObj_heap_other (Ne.symm hne)).trans h
theorem loadE {W : World} {B : Nat} {n : Int} (h : Row W B 23 #[.int .i64 n]) : (loadVar 23 ⟨B, 0, none⟩).run Tryz.prog W = .ok (.int .i64 n) W := by
  have c := h.cell (i := 0) (v := .int .i64 n) rfl
  go_simp
theorem ret_cells {fn : Func} {p q : Tmp} {ty tz : TypeId} (h : fn.results = #[.cell p ty, .cell q tz]) {tmps : Array Value} {w : World} {g g2 : Nat} {v v2 : Value}
    (hp : tmps.getD p undef = .pointer (some ⟨g, 0, none⟩)) (hq : tmps.getD q undef = .pointer (some ⟨g2, 0, none⟩)) (hl : (loadVar ty ⟨g, 0, none⟩).run Tryz.prog w = .ok v w) (hl2 : (loadVar tz ⟨g2, 0, none⟩).run Tryz.prog w = .ok v2 w) :
    (results fn tmps).run Tryz.prog w = .ok (.tuple #[v, v2]) w := by
  have hp' : tmps[p]?.getD undef = .pointer (some ⟨g, 0, none⟩) := by simpa using hp
  have hq' : tmps[q]?.getD undef = .pointer (some ⟨g2, 0, none⟩) := by simpa using hq
  simp [results, h, hp', hq', asAddr, hl, hl2]
theorem decV_formP (o : Option (Int × Int)) : ∃ c e er : Int, decV o = .tuple #[.agg #[.int .i64 c, .int .i64 e], .int .i64 er] := by
  cases o with
  | none => exact ⟨0, 0, 30, rfl⟩
  | some p => exact ⟨p.1, p.2, 0, rfl⟩
theorem keeps_below {B : Nat} {W V : World} (h : Below W.heap.size W V) : KeepsFrom B W V := ⟨h.size, fun k _ _ hk _ => (h.block k (Array.getElem?_eq_some_iff.1 hk).1).trans hk⟩
theorem keeps_set (B : Nat) (W : World) (b i : Nat) (v : Value) : KeepsFrom B W (W.setCell ⟨b, i, none⟩ v) := (KeepsOthers.setCell W ⟨b, i, none⟩ v).from B
theorem sum_digit (y : Wd) (d : Int × Nat) (hy : y.n < M128) (ey : EOk y) (h1 : -3000 ≤ d.1) (h2 : d.1 ≤ 3000) (h3 : d.2 < 10) (w : World) :
    Calls Tryz.prog 50 #[.agg #[.bool y.neg, .int .u64 ((y.n / 18446744073709551616 : Nat) : Int), .int .u64 ((y.n % 18446744073709551616 : Nat) : Int), .int .i64 y.e], .agg #[.bool false, .int .u64 0, .int .u64 (d.2 : Int), .int .i64 d.1]] w fun r w' => WayR (sumW y ⟨false, d.2, d.1⟩) r ∧ Below w.heap.size w w' := by
  have hm : (10 : Nat) < M128 := by decide
  have h := sum_any y ⟨false, d.2, d.1⟩ hy (by simp only; omega) ey ⟨by simp only; omega, by simp only; omega⟩ w
  have e1 : d.2 / 18446744073709551616 = 0 := Nat.div_eq_of_lt (by omega)
  have e2 : d.2 % 18446744073709551616 = d.2 := Nat.mod_eq_of_lt (by omega)
  unfold Wd.val wv at h
  simp only [e1, e2] at h
  exact h
set_option maxRecDepth 100000 in
set_option maxHeartbeats 1000000 in
theorem digits_call (n : Nat) (x : Wr) (w : World) : CallsIn Fence.wide n Tryz.prog 49 #[x.v] w fun e w' => e = .returned (.func (.func 77) #[] #[.pointer (some ⟨w.heap.size, 0, none⟩)]) ∧ w' = w.alloc (.cells x.cells 71) := by
  refine callsIn_wide.2 ?_
  unfold Wr.v Wr.cells
  go_enter Tryz.func49, Tryz.ntmps49
  go_wp2
  go_ret
  exact ⟨rfl, rfl⟩
set_option maxRecDepth 100000 in
set_option maxHeartbeats 2000000 in
theorem parse_ok (l : List UInt8) (x : Wr) (hl : (bs l).size ≤ 255) (he : -1000 ≤ x.e ∧ x.e ≤ 1000) (hlen : x.whole.length + x.part.length ≤ 300) (hdig : ∀ b ∈ x.whole ++ x.part, 48 ≤ b.toNat ∧ b.toNat ≤ 57) (w : World)
    (HR : ∀ W, Hid (Calls Tryz.prog 48 #[.string (bs l)] W fun e w' => e = .returned (.tuple #[x.v, .bool true]) ∧ Below W.heap.size W w')) (v : Value)
    (HV : Hid (v = decV (match foldS x.digs with | none => none | some y => tellW x.neg y.n y.e))) :
    CallsIn Fence.wide 8 Tryz.prog 27 #[.string (bs l)] w fun e w' => e = .returned v ∧ Below w.heap.size w w' := by
  refine callsIn_of_wp_marks Tryz.func27 rfl trivial ?_ rfl
  simp only [Tryz.ntmps27, List.size_toArray, List.length_cons, List.length_nil, Nat.reduceAdd, Nat.reduceSub, Array.replicate_succ, Array.replicate_zero, List.push_toArray, List.append_toArray, List.nil_append, List.cons_append]
  have hl2 : decide ((255 : Int) < ((bs l).size : Int)) = false := decide_eq_false (by omega)
  have HDC : ∀ W, Hid (CallsIn Fence.wide 7 Tryz.prog 49 #[.agg #[.bool x.neg, .string (bs x.whole), .string (bs x.part), .int .i64 x.e]] W fun e w' => e = .returned (.func (.func 77) #[] #[.pointer (some ⟨W.heap.size, 0, none⟩)]) ∧ w' = W.alloc (.cells #[.bool x.neg, .string (bs x.whole), .string (bs x.part), .int .i64 x.e] 71)) := fun W => digits_call 7 x W
  have HX : Hid ((-1000 ≤ x.e ∧ x.e ≤ 1000) ∧ x.whole.length + x.part.length ≤ 300 ∧ ∀ b ∈ x.whole ++ x.part, 48 ≤ b.toNat ∧ b.toNat ≤ 57) := ⟨he, hlen, hdig⟩
  clear he hlen hdig
  unfold Wr.v Wr.cells at HR
  gi_wp2_with fail
  refine ⟨trivial, (callsIn_wide.2 (HR _).out).mono ?_⟩
  rintro e w1 ⟨rfl, b1⟩
  obtain ⟨h2, h3, hB⟩ := two_rows w w1 _ _ _ _ b1
  clear b1 HR
  gi_wp2_with fail
  refine ⟨trivial, (HDC _).out.mono ?_⟩
  rintro e w2 ⟨rfl, hw2⟩
  rw [hw2]
  clear hw2 w2 HDC
  gi_wp2_with fail
  have hz : w.heap.size + 1 < w1.heap.size := h3.lt
  have r2 := (((h2.alloc (.cells #[.bool x.neg, .string (bs x.whole), .string (bs x.part), .int .i64 x.e] 71)).alloc (.cells #[.bool false, .int .u64 0, .int .u64 0, .int .i64 0] 76)).alloc (.cells #[.bool true] 4)).alloc (.cells #[.bool x.neg, .string (bs x.whole), .string (bs x.part), .int .i64 x.e] 71)
  have r3 := (((h3.alloc (.cells #[.bool x.neg, .string (bs x.whole), .string (bs x.part), .int .i64 x.e] 71)).alloc (.cells #[.bool false, .int .u64 0, .int .u64 0, .int .i64 0] 76)).alloc (.cells #[.bool true] 4)).alloc (.cells #[.bool x.neg, .string (bs x.whole), .string (bs x.part), .int .i64 x.e] 71)
  have rX := (((Row.new w1 71 #[.bool x.neg, .string (bs x.whole), .string (bs x.part), .int .i64 x.e]).alloc (.cells #[.bool false, .int .u64 0, .int .u64 0, .int .i64 0] 76)).alloc (.cells #[.bool true] 4)).alloc (.cells #[.bool x.neg, .string (bs x.whole), .string (bs x.part), .int .i64 x.e] 71)
  have r6 := ((Row.new1 w1 (.cells #[.bool x.neg, .string (bs x.whole), .string (bs x.part), .int .i64 x.e] 71) 76 #[.bool false, .int .u64 0, .int .u64 0, .int .i64 0]).alloc (.cells #[.bool true] 4)).alloc (.cells #[.bool x.neg, .string (bs x.whole), .string (bs x.part), .int .i64 x.e] 71)
  have r7 : Row ((((w1.alloc (.cells #[.bool x.neg, .string (bs x.whole), .string (bs x.part), .int .i64 x.e] 71)).alloc (.cells #[.bool false, .int .u64 0, .int .u64 0, .int .i64 0] 76)).alloc (.cells #[.bool true] 4)).alloc (.cells #[.bool x.neg, .string (bs x.whole), .string (bs x.part), .int .i64 x.e] 71)) (w1.heap.size + 1 + 1) 4 #[.bool true] := by
    have := (Row.new ((w1.alloc (.cells #[.bool x.neg, .string (bs x.whole), .string (bs x.part), .int .i64 x.e] 71)).alloc (.cells #[.bool false, .int .u64 0, .int .u64 0, .int .i64 0] 76)) 4 #[.bool true]).alloc (.cells #[.bool x.neg, .string (bs x.whole), .string (bs x.part), .int .i64 x.e] 71)
    simpa using this
  have rD : Row ((((w1.alloc (.cells #[.bool x.neg, .string (bs x.whole), .string (bs x.part), .int .i64 x.e] 71)).alloc (.cells #[.bool false, .int .u64 0, .int .u64 0, .int .i64 0] 76)).alloc (.cells #[.bool true] 4)).alloc (.cells #[.bool x.neg, .string (bs x.whole), .string (bs x.part), .int .i64 x.e] 71)) (w1.heap.size + 3) 71 x.cells := by
    show Row _ _ _ #[.bool x.neg, .string (bs x.whole), .string (bs x.part), .int .i64 x.e]
    have := Row.new (((w1.alloc (.cells #[.bool x.neg, .string (bs x.whole), .string (bs x.part), .int .i64 x.e] 71)).alloc (.cells #[.bool false, .int .u64 0, .int .u64 0, .int .i64 0] 76)).alloc (.cells #[.bool true] 4)) 71 #[.bool x.neg, .string (bs x.whole), .string (bs x.part), .int .i64 x.e]
    simpa using this
  have hB0 := below_allocS (below_allocS (below_allocS (below_allocS hB (.cells #[.bool x.neg, .string (bs x.whole), .string (bs x.part), .int .i64 x.e] 71)) (.cells #[.bool false, .int .u64 0, .int .u64 0, .int .i64 0] 76)) (.cells #[.bool true] 4)) (.cells #[.bool x.neg, .string (bs x.whole), .string (bs x.part), .int .i64 x.e] 71)
  have hs0 : ((((w1.alloc (.cells #[.bool x.neg, .string (bs x.whole), .string (bs x.part), .int .i64 x.e] 71)).alloc (.cells #[.bool false, .int .u64 0, .int .u64 0, .int .i64 0] 76)).alloc (.cells #[.bool true] 4)).alloc (.cells #[.bool x.neg, .string (bs x.whole), .string (bs x.part), .int .i64 x.e] 71)).heap.size = w1.heap.size + 4 := by simp
  clear h2 h3 hB
  generalize ((((w1.alloc (.cells #[.bool x.neg, .string (bs x.whole), .string (bs x.part), .int .i64 x.e] 71)).alloc (.cells #[.bool false, .int .u64 0, .int .u64 0, .int .i64 0] 76)).alloc (.cells #[.bool true] 4)).alloc (.cells #[.bool x.neg, .string (bs x.whole), .string (bs x.part), .int .i64 x.e] 71)) = W0 at r2 r3 rX r6 r7 rD hB0 hs0 ⊢
  simp only [show w1.heap.size + 1 + 1 + 1 = w1.heap.size + 3 from rfl]
  refine wpIn_range_brk rfl (by omega) (gf := 77) (lb := #[.pointer (some ⟨w1.heap.size + 3, 0, none⟩)]) rfl trivial (enters_of Tryz.func77 (by kernel_rfl) rfl) (digits_in 7 (by omega) (w1.heap.size + 3) x HX.out.1 HX.out.2.1 HX.out.2.2 W0 rD) (fun _ _ => trivial) (fun _ _ _ _ _ _ _ _ => trivial) (fun _ => rfl)
    (PaI w.heap.size w w.heap.size (w.heap.size + 1) w1.heap.size (w1.heap.size + 1) (w1.heap.size + 1 + 1) x) (PaX w.heap.size w w.heap.size (w.heap.size + 1) x)
    (fun s A B row hs hg hr => by
      obtain ⟨y, y1, y2, y3, y4, y5, y6, y7, y8, y9⟩ := hs
      exact ⟨y, y1, y2, y3, row_grownP y4 hg (fun r e => (hr r e).2), row_grownP y5 hg (fun r e => (hr r e).2), row_grownP y6 hg (fun r e => (hr r e).2), row_grownP y7 hg (fun r e => (hr r e).2), row_grownP y8 hg (fun r e => (hr r e).2), ownFrom_below (β := Unit) (Nat.le_refl _) hB0.size () A B row y9 hg hr⟩)
    (fun c s A B row hs hg hr => by
      obtain ⟨y1, y2, y3, y4, y5⟩ := hs
      exact ⟨y1, y2, row_grownP y3 hg (fun r e => (hr r e).2), row_grownP y4 hg (fun r e => (hr r e).2), ownFrom_below (β := Unit) (Nat.le_refl _) hB0.size () A B row y5 hg hr⟩)
    ⟨⟨false, 0, 0⟩, rfl, by decide, ⟨by decide, by decide⟩, r6, r7, r2, r3, rX, hB0⟩
    (fun d => { tmps := #[.string (bs l), undef, .pointer (some ⟨w.heap.size, 0, none⟩), .pointer (some ⟨w.heap.size + 1, 0, none⟩), .pointer (some ⟨w1.heap.size, 0, none⟩), .bool true, .pointer (some ⟨w1.heap.size + 1, 0, none⟩), .pointer (some ⟨w1.heap.size + 1 + 1, 0, none⟩), .int .i64 d.1, .int .u64 (d.2 : Int), .string (bs l), .int .i64 ((bs l).size : Int), .bool false, undef, .tuple #[.agg #[.bool x.neg, .string (bs x.whole), .string (bs x.part), .int .i64 x.e], .bool true], .string (bs l), .tuple #[.agg #[.bool x.neg, .string (bs x.whole), .string (bs x.part), .int .i64 x.e], .bool true], .agg #[.bool x.neg, .string (bs x.whole), .string (bs x.part), .int .i64 x.e], .bool true, .bool true, .bool false, undef, .agg #[.bool false, .int .u64 0, .int .u64 0, .int .i64 0], .agg #[.bool x.neg, .string (bs x.whole), .string (bs x.part), .int .i64 x.e], .func (.func 77) #[] #[.pointer (some ⟨w1.heap.size + 3, 0, none⟩)], .int .i64 d.1, .int .u64 (d.2 : Int), undef, undef, undef, undef, undef, undef, undef, undef, undef, undef, undef, undef, undef, undef, undef, undef, undef, undef], defers := [] }) ?assign ?body ?done ?stop
  case assign =>
    intro l x W K hK
    simp only [encD] at hK ⊢
    gi_wp2
    exact hK
  case body =>
    rintro l' pre d W ⟨y, y1, y2, y3, y4, y5, y6, y7, y8, y9⟩ ⟨⟨rest, hrest⟩, hd1, hd2, hd3⟩
    have HS : ∀ V, Hid (Calls Tryz.prog 50 #[.agg #[.bool y.neg, .int .u64 ((y.n / 18446744073709551616 : Nat) : Int), .int .u64 ((y.n % 18446744073709551616 : Nat) : Int), .int .i64 y.e], .agg #[.bool false, .int .u64 0, .int .u64 (d.2 : Int), .int .i64 d.1]] V fun r w' => WayR (sumW y ⟨false, d.2, d.1⟩) r ∧ Below V.heap.size V w') := fun V => sum_digit y d y2 y3 hd1 hd2 hd3 V
    unfold Wd.cells at y4
    obtain ⟨c0, c1, c2, c3⟩ := y4.fourR
    have HN : Hid (foldS (pre ++ [d]) = sumW y ⟨false, d.2, d.1⟩) := by show _ = _; rw [foldS_snoc, y1]; rfl
    have HRS : Hid (x.digs = (pre ++ [d]) ++ rest) := by show _ = _; rw [hrest]; simp
    generalize sumW y ⟨false, d.2, d.1⟩ = SW at HS HN
    generalize ((y.n / 18446744073709551616 : Nat) : Int) = yh at *
    generalize ((y.n % 18446744073709551616 : Nat) : Int) = yl at *
    generalize y.neg = yn at *
    generalize y.e = ye at *
    clear hrest y1 y2 y3 hd1 hd2 hd3 r2 r3 rX r6 r7 rD hB0 HX
    gi_wp2_with fail
    refine ⟨trivial, ((callsIn_wide.2 (HS _).out).inRound _).mono ?_⟩
    rintro _ w3 ⟨⟨z, b, rfl, z1, z2, z3, z4⟩, b3⟩
    have hk3 : KeepsFrom W0.heap.size W w3 := keeps_below b3
    have g4 := y4.below b3 y4.lt
    have g5 := y5.below b3 y5.lt
    have g6 := y6.below b3 y6.lt
    have g7 := y7.below b3 y7.lt
    have g8 := y8.below b3 y8.lt
    have g9 := y9.trans (b3.mono y9.size)
    clear y4 y5 y6 y7 y8 y9 b3 c0 c1 c2 c3 HS
    unfold Wd.val wv
    obtain ⟨c0, c1, c2, c3⟩ := g4.fourR
    have f4 := g4.frozen
    have l4 := g4.lt
    have f5 := g5.frozen
    have l5 := g5.lt
    have e5 := g5.cell (i := 0) rfl
    have f6 := g6.frozen
    have l6 := g6.lt
    have f7 := g7.frozen
    have l7 := g7.lt
    have e7 := g7.cell (i := 0) rfl
    have e6 := g6.cell (i := 0) (v := .int .i64 0) rfl
    have e61 := g6.cell (i := 1) (v := .int .i64 0) rfl
    have q4 := (Row.set4R g4 (.bool z.neg) (.int .u64 ((z.n / 18446744073709551616 : Nat) : Int)) (.int .u64 ((z.n % 18446744073709551616 : Nat) : Int)) (.int .i64 z.e)).off (B' := w1.heap.size + 1 + 1) 0 (.bool b) (by omega)
    have q5 := (((((g5.off (B' := w1.heap.size + 1) 0 (.bool z.neg) (by omega)).off (B' := w1.heap.size + 1) 1 (.int .u64 ((z.n / 18446744073709551616 : Nat) : Int)) (by omega)).off (B' := w1.heap.size + 1) 2 (.int .u64 ((z.n % 18446744073709551616 : Nat) : Int)) (by omega)).off (B' := w1.heap.size + 1) 3 (.int .i64 z.e) (by omega)).set 0 (.bool b))
    have q6 := ((((g6.off (B' := w1.heap.size + 1) 0 (.bool z.neg) (by omega)).off (B' := w1.heap.size + 1) 1 (.int .u64 ((z.n / 18446744073709551616 : Nat) : Int)) (by omega)).off (B' := w1.heap.size + 1) 2 (.int .u64 ((z.n % 18446744073709551616 : Nat) : Int)) (by omega)).off (B' := w1.heap.size + 1) 3 (.int .i64 z.e) (by omega)).off (B' := w1.heap.size + 1 + 1) 0 (.bool b) (by omega)
    have q7 := ((((g7.off (B' := w1.heap.size + 1) 0 (.bool z.neg) (by omega)).off (B' := w1.heap.size + 1) 1 (.int .u64 ((z.n / 18446744073709551616 : Nat) : Int)) (by omega)).off (B' := w1.heap.size + 1) 2 (.int .u64 ((z.n % 18446744073709551616 : Nat) : Int)) (by omega)).off (B' := w1.heap.size + 1) 3 (.int .i64 z.e) (by omega)).off (B' := w1.heap.size + 1 + 1) 0 (.bool b) (by omega)
    have q8 := ((((g8.off (B' := w1.heap.size + 1) 0 (.bool z.neg) (by omega)).off (B' := w1.heap.size + 1) 1 (.int .u64 ((z.n / 18446744073709551616 : Nat) : Int)) (by omega)).off (B' := w1.heap.size + 1) 2 (.int .u64 ((z.n % 18446744073709551616 : Nat) : Int)) (by omega)).off (B' := w1.heap.size + 1) 3 (.int .i64 z.e) (by omega)).off (B' := w1.heap.size + 1 + 1) 0 (.bool b) (by omega)
    have q9 := below_set (below_set4R g9 (B' := w1.heap.size + 1) (by omega) (.bool z.neg) (.int .u64 ((z.n / 18446744073709551616 : Nat) : Int)) (.int .u64 ((z.n % 18446744073709551616 : Nat) : Int)) (.int .i64 z.e)) (B := w1.heap.size + 1 + 1) 0 (.bool b) (by omega)
    have k9 := ((((hk3.trans (keeps_set _ _ (w1.heap.size + 1) 0 (.bool z.neg))).trans (keeps_set _ _ (w1.heap.size + 1) 1 (.int .u64 ((z.n / 18446744073709551616 : Nat) : Int)))).trans (keeps_set _ _ (w1.heap.size + 1) 2 (.int .u64 ((z.n % 18446744073709551616 : Nat) : Int)))).trans (keeps_set _ _ (w1.heap.size + 1) 3 (.int .i64 z.e))).trans (keeps_set _ _ (w1.heap.size + 1 + 1) 0 (.bool b))
    have HZ1 : Hid (z.n < M128 ∧ EOk z) := ⟨z1, z2, z3⟩
    have HZ4 : Hid (SW = if b then some z else none) := z4
    clear g4 g5 g6 g7 g8 g9 hk3 z1 z2 z3 z4
    cases b
    · gi_wp2
      have HNo : Hid (foldS x.digs = none) := by show _ = _; rw [HRS.out]; exact foldS_none (by rw [HN.out, HZ4.out]; rfl)
      exact ⟨((k9.trans (keeps_set _ _ w.heap.size 0 (.int .i64 0))).trans (keeps_set _ _ w.heap.size 1 (.int .i64 0))).trans (keeps_set _ _ (w.heap.size + 1) 0 (.int .i64 30)), rfl, HNo.out,
        ((q6.set 0 (.int .i64 0)).set 1 (.int .i64 0)).off (B' := w.heap.size + 1) 0 (.int .i64 30) (by omega),
        ((q7.off (B' := w.heap.size) 0 (.int .i64 0) (by omega)).off (B' := w.heap.size) 1 (.int .i64 0) (by omega)).set 0 (.int .i64 30),
        below_set (below_set (below_set q9 (B := w.heap.size) 0 (.int .i64 0) (Nat.le_refl _)) (B := w.heap.size) 1 (.int .i64 0) (Nat.le_refl _)) (B := w.heap.size + 1) 0 (.int .i64 30) (by omega)⟩
    · gi_wp2
      exact ⟨k9, trivial, z, by rw [HN.out, HZ4.out]; rfl, HZ1.out.1, HZ1.out.2, q4, q5, q6, q7, q8, q9⟩
  case stop =>
    rintro D c W hD ⟨rfl, s1, s2, s3, s4⟩ hK
    have hv : v = .tuple #[.agg zero2, .int .i64 30] := by rw [HV.out, s1]; rfl
    have hBe : Below w.heap.size w (W.putObj D (.deferred none)) := s4.trans ((Kept.putObj (S := fun k => k < w.heap.size) W D (.deferred none) (by show ¬ D < _; have := hB0.size; omega)).below (fun _ h => h))
    gi_wp2
    refine ⟨by simp, .inl ⟨_, _, rfl, run_takeDeferred hK, ?_⟩⟩
    exact ⟨_, ret_cells rfl (g := w.heap.size) (g2 := w.heap.size + 1) rfl rfl (load30 (row_put s2 hK) rfl) (loadE (row_put s3 hK)), by rw [hv], hBe⟩
  case done =>
    rintro D ys W hD rfl ⟨y, y1, y2, y3, y4, y5, y6, y7, y8, y9⟩ hK
    have hv : v = decV (tellW x.neg y.n y.e) := by rw [HV.out, y1]
    obtain ⟨dc, de, er, hdv⟩ := decV_formP (tellW x.neg y.n y.e)
    have HT : ∀ V, Hid (Calls Tryz.prog 51 #[.agg #[.bool x.neg, .int .u64 ((y.n / 18446744073709551616 : Nat) : Int), .int .u64 ((y.n % 18446744073709551616 : Nat) : Int), .int .i64 y.e], .bool true] V fun r w' => r = .returned (.tuple #[.agg #[.int .i64 dc, .int .i64 de], .int .i64 er]) ∧ Below V.heap.size V w') := fun V => by
      have h := told_any ⟨x.neg, y.n, y.e⟩ true y2 y3.2 y3.1 V
      simp only [if_true] at h
      rw [hdv] at h
      exact h
    have hD1 : w1.heap.size + 4 ≤ D := by omega
    unfold Wd.cells at y4
    have z8 : Row W w1.heap.size 71 #[.bool x.neg, .string (bs x.whole), .string (bs x.part), .int .i64 x.e] := y8
    obtain ⟨c0, c1, c2, c3⟩ := y4.fourR
    have f4 := y4.frozen
    have l4 := y4.lt
    obtain ⟨e0, e1, e2, e3⟩ := z8.fourR
    have q4 := y4.set 0 (.bool x.neg)
    have q6 := y6.off (B' := w1.heap.size + 1) 0 (.bool x.neg) (by omega)
    have q7 := y7.off (B' := w1.heap.size + 1) 0 (.bool x.neg) (by omega)
    have q9 := below_set y9 (B := w1.heap.size + 1) 0 (.bool x.neg) (by omega)
    have qK : (W.setCell ⟨w1.heap.size + 1, 0, none⟩ (.bool x.neg)).heap[D]? = some (.deferred (some [])) := by rw [Below.heap_setCell _ _ _ _ (by show D ≠ w1.heap.size + 1; omega)]; exact hK
    generalize ((y.n / 18446744073709551616 : Nat) : Int) = yh at *
    generalize ((y.n % 18446744073709551616 : Nat) : Int) = yl at *
    generalize y.e = ye at *
    have HVv : Hid (v = .tuple #[.agg #[.int .i64 dc, .int .i64 de], .int .i64 er]) := hv.trans hdv
    clear hv hdv y1 y2 y3 r2 r3 rX r6 r7 rD HX y8 z8
    gi_wp2_with fail
    refine ⟨trivial, (callsIn_wide.2 (HT _).out).mono ?_⟩
    rintro _ w3 ⟨rfl, b3⟩
    have g6 := q6.below b3 q6.lt
    have g7 := q7.below b3 q7.lt
    have g9 := q9.trans (b3.mono q9.size)
    have gK : w3.heap[D]? = some (.deferred (some [])) := (b3.block D (Array.getElem?_eq_some_iff.1 qK).1).trans qK
    clear b3 HT q4 q6 q7 q9 qK hK c0 c1 c2 c3 e0 e1 e2 e3 f4 l4 y4 y5 y6 y7 y9
    have f6 := g6.frozen
    have l6 := g6.lt
    have f7 := g7.frozen
    have l7 := g7.lt
    have e7 := g7.cell (i := 0) rfl
    have e6 := g6.cell (i := 0) (v := .int .i64 0) rfl
    have e61 := g6.cell (i := 1) (v := .int .i64 0) rfl
    have k6 := ((g6.set 0 (.int .i64 dc)).set 1 (.int .i64 de)).off (B' := w.heap.size + 1) 0 (.int .i64 er) (by omega)
    have k7 := ((g7.off (B' := w.heap.size) 0 (.int .i64 dc) (by omega)).off (B' := w.heap.size) 1 (.int .i64 de) (by omega)).set 0 (.int .i64 er)
    have k9 := below_set (below_set (below_set g9 (B := w.heap.size) 0 (.int .i64 dc) (Nat.le_refl _)) (B := w.heap.size) 1 (.int .i64 de) (Nat.le_refl _)) (B := w.heap.size + 1) 0 (.int .i64 er) (by omega)
    have kK : (((w3.setCell ⟨w.heap.size, 0, none⟩ (.int .i64 dc)).setCell ⟨w.heap.size, 1, none⟩ (.int .i64 de)).setCell ⟨w.heap.size + 1, 0, none⟩ (.int .i64 er)).heap[D]? = some (.deferred (some [])) := by
      rw [Below.heap_setCell _ _ _ _ (by show D ≠ w.heap.size + 1; omega), Below.heap_setCell _ _ _ _ (by show D ≠ w.heap.size; omega), Below.heap_setCell _ _ _ _ (by show D ≠ w.heap.size; omega)]; exact gK
    have hBe : ∀ V, Below w.heap.size w V → Below w.heap.size w (V.putObj D (.deferred none)) := fun V h => h.trans ((Kept.putObj (S := fun k => k < w.heap.size) V D (.deferred none) (by show ¬ D < _; omega)).below (fun _ h => h))
    clear gK g9
    gi_wp2
    refine ⟨by simp, .inl ⟨_, _, rfl, run_takeDeferred kK, ?_⟩⟩
    exact ⟨_, ret_cells rfl (g := w.heap.size) (g2 := w.heap.size + 1) rfl rfl (load30 (row_put k6 kK) rfl) (loadE (row_put k7 kK)), by rw [HVv.out]; rfl, hBe _ k9⟩
end Go.Proofs.YtgihginfegckcaaGreatDoor
/- dec's Parse, whole. -/
namespace Go.Proofs.YtgihginfegckcaaGreatDoor
open Go.RowKit Go.Shelf

set_option maxRecDepth 100000 in
set_option maxHeartbeats 400000 in
theorem parse_long (l : List UInt8) (hl : 255 < (bs l).size) (w : World) :
    Calls Tryz.prog 27 #[.string (bs l)] w fun e w' => e = .returned (.tuple #[dv 0 0, .int .i64 40]) ∧ Below w.heap.size w w' := by
  have t1 : (255 : Int) < ((bs l).size : Int) := by omega
  clear hl
  go_enter Tryz.func27, Tryz.ntmps27
  go_wp2
  refine bodyPost_ret (ret_cells rfl (g := w.heap.size) (g2 := w.heap.size + 1) rfl rfl (load30 ((Row.new w 30 _).alloc _) rfl) (loadE (Row.new1 w _ 23 _))) rfl ⟨rfl, ?_⟩
  exact ((Below.refl _ w).alloc (Nat.le_refl _) _).alloc (by simp) _
set_option maxRecDepth 100000 in
set_option maxHeartbeats 400000 in
theorem parse_bad (l : List UInt8) (x : Wr) (hl : (bs l).size ≤ 255) (w : World)
    (HR : ∀ W, Hid (Calls Tryz.prog 48 #[.string (bs l)] W fun e w' => e = .returned (.tuple #[x.v, .bool false]) ∧ Below W.heap.size W w')) :
    Calls Tryz.prog 27 #[.string (bs l)] w fun e w' => e = .returned (.tuple #[dv 0 0, .int .i64 40]) ∧ Below w.heap.size w w' := by
  have t1 : decide ((255 : Int) < ((bs l).size : Int)) = false := decide_eq_false (by omega)
  clear hl
  unfold Wr.v Wr.cells at HR
  go_enter Tryz.func27, Tryz.ntmps27
  go_wp2_with fail
  refine Calls.mono (HR _).out ?_
  rintro _ w1 ⟨rfl, b1⟩
  obtain ⟨h2, h3, hB⟩ := two_rows w w1 _ _ _ _ b1
  clear b1 HR
  have e2 := h2.cell (i := 0) (v := .int .i64 0) rfl
  have e21 := h2.cell (i := 1) (v := .int .i64 0) rfl
  have e3 := h3.cell (i := 0) (v := .int .i64 0) rfl
  have f2 := h2.frozen
  have f3 := h3.frozen
  have l3 := h3.lt
  have l2 := h2.lt
  have k2 := (((h2.set 0 (.int .i64 0)).set 1 (.int .i64 0)).off (B' := w.heap.size + 1) 0 (.int .i64 40) (by omega)).alloc (.cells #[.bool x.neg, .string (bs x.whole), .string (bs x.part), .int .i64 x.e] 71)
  have k3 := (((h3.off (B' := w.heap.size) 0 (.int .i64 0) (by omega)).off (B' := w.heap.size) 1 (.int .i64 0) (by omega)).set 0 (.int .i64 40)).alloc (.cells #[.bool x.neg, .string (bs x.whole), .string (bs x.part), .int .i64 x.e] 71)
  have kB := below_allocS (below_set (below_set (below_set hB (B := w.heap.size) 0 (.int .i64 0) (Nat.le_refl _)) (B := w.heap.size) 1 (.int .i64 0) (Nat.le_refl _)) (B := w.heap.size + 1) 0 (.int .i64 40) (by omega)) (.cells #[.bool x.neg, .string (bs x.whole), .string (bs x.part), .int .i64 x.e] 71)
  clear h2 h3 hB
  go_wp2
  exact bodyPost_ret (ret_cells rfl (g := w.heap.size) (g2 := w.heap.size + 1) rfl rfl (load30 k2 rfl) (loadE k3)) rfl ⟨rfl, kB⟩
theorem expR_bd (l : List UInt8) : -999 ≤ (expR l).1 ∧ (expR l).1 ≤ 999 := by
  unfold expR
  cases l with
  | nil => simp
  | cons a r =>
    simp only
    split
    · split
      · rename_i h
        simp only [Bool.and_eq_true, decide_eq_true_eq] at h
        have hb := rowN_lt 3 (aheadL (expD r) digL) (fun b hb => (dig_bounds (ahead_mem hb)).2)
        rw [List.take_of_length_le (by omega)] at hb
        simp only
        split <;> omega
      · simp
    · simp
theorem expO_bd (l : List UInt8) : -999 ≤ (expO l).1 ∧ (expO l).1 ≤ 999 := by
  unfold expO
  split
  · simp
  · exact expR_bd l
theorem readR_ok (l : List UInt8) : (-1000 ≤ (readR l).1.e ∧ (readR l).1.e ≤ 1000) ∧ (readR l).1.whole.length + (readR l).1.part.length ≤ l.length ∧ ∀ b ∈ (readR l).1.whole ++ (readR l).1.part, 48 ≤ b.toNat ∧ b.toNat ≤ 57 := by
  have h1 := trim_len l [45]
  have h2 := ahead_len (Lib.trimPrefix l [45]) digL
  have h3 : (partR (behindL (Lib.trimPrefix l [45]) digL)).1.length ≤ (behindL (Lib.trimPrefix l [45]) digL).length ∧ ∀ b ∈ (partR (behindL (Lib.trimPrefix l [45]) digL)).1, 48 ≤ b.toNat ∧ b.toNat ≤ 57 := by
    generalize behindL (Lib.trimPrefix l [45]) digL = m
    unfold partR
    split
    · have g1 := trim_len m [46]
      have g2 := ahead_len (Lib.trimPrefix m [46]) digL
      exact ⟨by simp only; omega, fun b hb => dig_bounds (ahead_mem hb)⟩
    · simp
  refine ⟨?_, ?_, ?_⟩
  · have := expO_bd (partR (behindL (Lib.trimPrefix l [45]) digL)).2.1
    show -1000 ≤ (expO (partR (behindL (Lib.trimPrefix l [45]) digL)).2.1).1 ∧ (expO (partR (behindL (Lib.trimPrefix l [45]) digL)).2.1).1 ≤ 1000
    omega
  · show (aheadL (Lib.trimPrefix l [45]) digL).length + (partR (behindL (Lib.trimPrefix l [45]) digL)).1.length ≤ l.length
    omega
  · intro b hb
    rcases List.mem_append.1 hb with hb | hb
    · exact dig_bounds (ahead_mem (l := Lib.trimPrefix l [45]) hb)
    · exact h3.2 b hb
/-- dec's Parse: the number, or what is wrong. -/
theorem dparse_any (l : List UInt8) (hl : l.length ≤ 140737488351232) (w : World) :
    Calls Tryz.prog 27 #[.string (bs l)] w fun e w' => e = .returned (decPv l) ∧ Below w.heap.size w w' := by
  unfold decPv
  by_cases h : 255 < l.length
  · rw [decide_eq_true h]
    exact parse_long l (by rw [bs_size]; exact h) w
  · rw [decide_eq_false h]
    have hR : ∀ W, Hid _ := fun W => dread_any l hl W
    obtain ⟨h1, h2, h3⟩ := readR_ok l
    cases hb : (readR l).2
    · rw [hb] at hR
      exact parse_bad l (readR l).1 (by rw [bs_size]; omega) w hR
    · rw [hb] at hR
      exact callsIn_wide.1 (parse_ok l (readR l).1 (by rw [bs_size]; omega) h1 (by omega) h3 w hR _ rfl)
end Go.Proofs.YtgihginfegckcaaGreatDoor
/- lex's number. -/
namespace Go.Proofs.YtgihginfegckcaaGreatDoor
open Go.RowKit

theorem Row.ten {W : World} {B : Nat} {t : TypeId} {a0 a1 a2 a3 a4 a5 a6 a7 a8 a9 : Value} (h : Row W B t #[a0, a1, a2, a3, a4, a5, a6, a7, a8, a9]) :
    W.cell? ⟨B, 0, none⟩ = some a0 ∧ W.cell? ⟨B, 1, none⟩ = some a1 ∧ W.cell? ⟨B, 2, none⟩ = some a2 ∧ W.cell? ⟨B, 3, none⟩ = some a3 ∧ W.cell? ⟨B, 4, none⟩ = some a4 ∧ W.cell? ⟨B, 5, none⟩ = some a5 ∧ W.cell? ⟨B, 6, none⟩ = some a6 ∧ W.cell? ⟨B, 7, none⟩ = some a7 ∧ W.cell? ⟨B, 8, none⟩ = some a8 ∧ W.cell? ⟨B, 9, none⟩ = some a9 :=
  ⟨h.cell rfl, h.cell rfl, h.cell rfl, h.cell rfl, h.cell rfl, h.cell rfl, h.cell rfl, h.cell rfl, h.cell rfl, h.cell rfl⟩
theorem Row.set10 {W : World} {B : Nat} {t : TypeId} {a0 a1 a2 a3 a4 a5 a6 a7 a8 a9 : Value} (h : Row W B t #[a0, a1, a2, a3, a4, a5, a6, a7, a8, a9]) (b0 b1 b2 b3 b4 b5 b6 b7 b8 b9 : Value) :
    Row ((((((((((W.setCell ⟨B, 0, none⟩ b0).setCell ⟨B, 1, none⟩ b1).setCell ⟨B, 2, none⟩ b2).setCell ⟨B, 3, none⟩ b3).setCell ⟨B, 4, none⟩ b4).setCell ⟨B, 5, none⟩ b5).setCell ⟨B, 6, none⟩ b6).setCell ⟨B, 7, none⟩ b7).setCell ⟨B, 8, none⟩ b8).setCell ⟨B, 9, none⟩ b9) B t #[b0, b1, b2, b3, b4, b5, b6, b7, b8, b9] := by
  have h0 := h
  have h1 : Row (W.setCell ⟨B, 0, none⟩ b0) B t #[b0, a1, a2, a3, a4, a5, a6, a7, a8, a9] := h0.set 0 b0
  have h2 : Row ((W.setCell ⟨B, 0, none⟩ b0).setCell ⟨B, 1, none⟩ b1) B t #[b0, b1, a2, a3, a4, a5, a6, a7, a8, a9] := h1.set 1 b1
  have h3 : Row (((W.setCell ⟨B, 0, none⟩ b0).setCell ⟨B, 1, none⟩ b1).setCell ⟨B, 2, none⟩ b2) B t #[b0, b1, b2, a3, a4, a5, a6, a7, a8, a9] := h2.set 2 b2
  have h4 : Row ((((W.setCell ⟨B, 0, none⟩ b0).setCell ⟨B, 1, none⟩ b1).setCell ⟨B, 2, none⟩ b2).setCell ⟨B, 3, none⟩ b3) B t #[b0, b1, b2, b3, a4, a5, a6, a7, a8, a9] := h3.set 3 b3
  have h5 : Row (((((W.setCell ⟨B, 0, none⟩ b0).setCell ⟨B, 1, none⟩ b1).setCell ⟨B, 2, none⟩ b2).setCell ⟨B, 3, none⟩ b3).setCell ⟨B, 4, none⟩ b4) B t #[b0, b1, b2, b3, b4, a5, a6, a7, a8, a9] := h4.set 4 b4
  have h6 : Row ((((((W.setCell ⟨B, 0, none⟩ b0).setCell ⟨B, 1, none⟩ b1).setCell ⟨B, 2, none⟩ b2).setCell ⟨B, 3, none⟩ b3).setCell ⟨B, 4, none⟩ b4).setCell ⟨B, 5, none⟩ b5) B t #[b0, b1, b2, b3, b4, b5, a6, a7, a8, a9] := h5.set 5 b5
  have h7 : Row (((((((W.setCell ⟨B, 0, none⟩ b0).setCell ⟨B, 1, none⟩ b1).setCell ⟨B, 2, none⟩ b2).setCell ⟨B, 3, none⟩ b3).setCell ⟨B, 4, none⟩ b4).setCell ⟨B, 5, none⟩ b5).setCell ⟨B, 6, none⟩ b6) B t #[b0, b1, b2, b3, b4, b5, b6, a7, a8, a9] := h6.set 6 b6
  have h8 : Row ((((((((W.setCell ⟨B, 0, none⟩ b0).setCell ⟨B, 1, none⟩ b1).setCell ⟨B, 2, none⟩ b2).setCell ⟨B, 3, none⟩ b3).setCell ⟨B, 4, none⟩ b4).setCell ⟨B, 5, none⟩ b5).setCell ⟨B, 6, none⟩ b6).setCell ⟨B, 7, none⟩ b7) B t #[b0, b1, b2, b3, b4, b5, b6, b7, a8, a9] := h7.set 7 b7
  have h9 : Row (((((((((W.setCell ⟨B, 0, none⟩ b0).setCell ⟨B, 1, none⟩ b1).setCell ⟨B, 2, none⟩ b2).setCell ⟨B, 3, none⟩ b3).setCell ⟨B, 4, none⟩ b4).setCell ⟨B, 5, none⟩ b5).setCell ⟨B, 6, none⟩ b6).setCell ⟨B, 7, none⟩ b7).setCell ⟨B, 8, none⟩ b8) B t #[b0, b1, b2, b3, b4, b5, b6, b7, b8, a9] := h8.set 8 b8
  have h10 : Row ((((((((((W.setCell ⟨B, 0, none⟩ b0).setCell ⟨B, 1, none⟩ b1).setCell ⟨B, 2, none⟩ b2).setCell ⟨B, 3, none⟩ b3).setCell ⟨B, 4, none⟩ b4).setCell ⟨B, 5, none⟩ b5).setCell ⟨B, 6, none⟩ b6).setCell ⟨B, 7, none⟩ b7).setCell ⟨B, 8, none⟩ b8).setCell ⟨B, 9, none⟩ b9) B t #[b0, b1, b2, b3, b4, b5, b6, b7, b8, b9] := h9.set 9 b9
  exact h10
theorem below_set10 {N : Nat} {x W : World} (h : Below N x W) {B : Nat} (hN : N ≤ B) (b0 b1 b2 b3 b4 b5 b6 b7 b8 b9 : Value) :
    Below N x ((((((((((W.setCell ⟨B, 0, none⟩ b0).setCell ⟨B, 1, none⟩ b1).setCell ⟨B, 2, none⟩ b2).setCell ⟨B, 3, none⟩ b3).setCell ⟨B, 4, none⟩ b4).setCell ⟨B, 5, none⟩ b5).setCell ⟨B, 6, none⟩ b6).setCell ⟨B, 7, none⟩ b7).setCell ⟨B, 8, none⟩ b8).setCell ⟨B, 9, none⟩ b9) := below_set (below_set (below_set (below_set (below_set (below_set (below_set (below_set (below_set (below_set h 0 b0 hN) 1 b1 hN) 2 b2 hN) 3 b3 hN) 4 b4 hN) 5 b5 hN) 6 b6 hN) 7 b7 hN) 8 b8 hN) 9 b9 hN
/-- What dec's Parse tells: number and error. -/
def decT (l : List UInt8) : Int × Int × Int := if decide (255 < l.length) || !(readR l).2 then (0, 0, 40) else match parsedD l with
  | some p => (p.1, p.2, 0)
  | none => (0, 0, 30)
theorem decPv_eq (l : List UInt8) : decPv l = .tuple #[.agg #[.int .i64 (decT l).1, .int .i64 (decT l).2.1], .int .i64 (decT l).2.2] := by
  unfold decPv decT
  split
  · rfl
  · cases parsedD l <;> rfl
/-- What stands behind a number, step by step. -/
def numA (l : List UInt8) : List UInt8 := pastD l l
def numB (l : List UInt8) : List UInt8 := if (cutO (numA l) [46]).2 then pastD (cutO (numA l) [46]).1 (numA l) else numA l
def numC (l : List UInt8) : List UInt8 := if (cutO (numB l) [69, 101]).2 then pastD (cutO (cutO (numB l) [69, 101]).1 [43, 45]).1 (numB l) else numB l
def numN (l : List UInt8) : Nat := l.length - (numC l).length
def numberR (l : List UInt8) : Tk × Nat × Int := (⟨1, 0, [], (decT (l.take (numN l))).1, (decT (l.take (numN l))).2.1, Rf.zero⟩, numN l, (decT (l.take (numN l))).2.2)
def z10 : Array Value := #[.int .i64 0, .int .i64 0, .string .empty, .int .i64 0, .int .i64 0, .string .empty, .int .i64 0, .int .i64 0, .bool false, .bool false]
set_option maxRecDepth 100000 in
set_option maxHeartbeats 1000000 in
theorem number_tt (l b0 p1 b1 p2 p3 b2 : List UInt8) (x3 : Bool) (n : Nat) (dc de er : Int) (w : World)
    (h1 : ∀ W, Hid (Calls Tryz.prog 25 #[.string (bs l), .string (bs l)] W fun e w' => e = .returned (.string (bs b0)) ∧ Below W.heap.size W w'))
    (h2 : ∀ W, Hid (Calls Tryz.prog 26 #[.string (bs b0), .string ⟨#[46]⟩] W fun e w' => e = .returned (.tuple #[.string (bs p1), .bool true]) ∧ w' = W))
    (h3 : ∀ W, Hid (Calls Tryz.prog 25 #[.string (bs p1), .string (bs b0)] W fun e w' => e = .returned (.string (bs b1)) ∧ Below W.heap.size W w'))
    (h4 : ∀ W, Hid (Calls Tryz.prog 26 #[.string (bs b1), .string ⟨#[69, 101]⟩] W fun e w' => e = .returned (.tuple #[.string (bs p2), .bool true]) ∧ w' = W))
    (h5 : ∀ W, Hid (Calls Tryz.prog 26 #[.string (bs p2), .string ⟨#[43, 45]⟩] W fun e w' => e = .returned (.tuple #[.string (bs p3), .bool x3]) ∧ w' = W))
    (h6 : ∀ W, Hid (Calls Tryz.prog 25 #[.string (bs p3), .string (bs b1)] W fun e w' => e = .returned (.string (bs b2)) ∧ Below W.heap.size W w'))
    (hn1 : ((bs l).size : Int) - ((bs b2).size : Int) = (n : Int)) (hn2 : n ≤ (bs l).size) (hsz : (bs l).size ≤ 140737488351232)
    (h7 : ∀ W, Hid (Calls Tryz.prog 27 #[.string ((bs l).extract 0 n)] W fun e w' => e = .returned (.tuple #[.agg #[.int .i64 dc, .int .i64 de], .int .i64 er]) ∧ Below W.heap.size W w')) :
    Calls Tryz.prog 15 #[.string (bs l)] w fun e w' => e = tokR ⟨1, 0, [], dc, de, Rf.zero⟩ n er ∧ Below w.heap.size w w' := by
  have HZ : ∀ W, Below (w.alloc (.cells z10 34)).heap.size (w.alloc (.cells z10 34)) W → Hid (Row W w.heap.size 34 z10 ∧ Below w.heap.size w W) := fun W hW => one_row w W _ _ hW
  unfold z10 at HZ
  have hn3 : (n : Int) ≤ ((bs l).size : Int) := by omega
  go_enter Tryz.func15, Tryz.ntmps15
  go_wp2_with fail
  refine Calls.mono (h1 _).out ?_
  rintro _ w1 ⟨rfl, q1⟩
  clear h1
  go_wp2_with fail
  refine Calls.mono (h2 _).out ?_
  rintro _ w0 ⟨rfl, hw⟩
  rw [hw]
  clear hw w0 h2
  go_wp2_with fail
  refine Calls.mono (h3 _).out ?_
  rintro _ w2 ⟨rfl, q2⟩
  have q1 := q1.trans (q2.mono q1.size)
  clear h3 q2
  go_wp2_with fail
  refine Calls.mono (h4 _).out ?_
  rintro _ w0 ⟨rfl, hw⟩
  rw [hw]
  clear hw w0 h4
  go_wp2_with fail
  refine Calls.mono (h5 _).out ?_
  rintro _ w0 ⟨rfl, hw⟩
  rw [hw]
  clear hw w0 h5
  go_wp2_with fail
  refine Calls.mono (h6 _).out ?_
  rintro _ w4 ⟨rfl, q4⟩
  have q1 := q1.trans (q4.mono q1.size)
  clear h6 q4
  go_wp2_with fail
  refine Calls.mono (h7 _).out ?_
  rintro _ w5 ⟨rfl, q5⟩
  obtain ⟨hZ, hB⟩ := (HZ _ (q1.trans (q5.mono q1.size))).out
  clear h7 q1 q5 HZ
  obtain ⟨c0, c1, c2, c3, c4, c5, c6, c7, c8, c9⟩ := hZ.ten
  have fZ := hZ.frozen
  have lZ := hZ.lt
  have hE := (Row.set10 hZ (.int .i64 1) (.int .i64 0) (.string .empty) (.int .i64 dc) (.int .i64 de) (.string .empty) (.int .i64 0) (.int .i64 0) (.bool false) (.bool false)).alloc (.cells #[.int .i64 dc, .int .i64 de] 30)
  have hF := below_allocS (below_set10 hB (B := w.heap.size) (Nat.le_refl _) (.int .i64 1) (.int .i64 0) (.string .empty) (.int .i64 dc) (.int .i64 de) (.string .empty) (.int .i64 0) (.int .i64 0) (.bool false) (.bool false)) (.cells #[.int .i64 dc, .int .i64 de] 30)
  clear hZ hB
  go_wp2
  exact bodyPost_ret (ret_three_b (u := 3) (u2 := 4) rfl (g := w.heap.size) rfl rfl rfl (load34 hE rfl)) rfl ⟨rfl, hF⟩
set_option maxRecDepth 100000 in
set_option maxHeartbeats 1000000 in
theorem number_tf (l b0 p1 b1 p2 : List UInt8) (n : Nat) (dc de er : Int) (w : World)
    (h1 : ∀ W, Hid (Calls Tryz.prog 25 #[.string (bs l), .string (bs l)] W fun e w' => e = .returned (.string (bs b0)) ∧ Below W.heap.size W w'))
    (h2 : ∀ W, Hid (Calls Tryz.prog 26 #[.string (bs b0), .string ⟨#[46]⟩] W fun e w' => e = .returned (.tuple #[.string (bs p1), .bool true]) ∧ w' = W))
    (h3 : ∀ W, Hid (Calls Tryz.prog 25 #[.string (bs p1), .string (bs b0)] W fun e w' => e = .returned (.string (bs b1)) ∧ Below W.heap.size W w'))
    (h4 : ∀ W, Hid (Calls Tryz.prog 26 #[.string (bs b1), .string ⟨#[69, 101]⟩] W fun e w' => e = .returned (.tuple #[.string (bs p2), .bool false]) ∧ w' = W))
    (hn1 : ((bs l).size : Int) - ((bs b1).size : Int) = (n : Int)) (hn2 : n ≤ (bs l).size) (hsz : (bs l).size ≤ 140737488351232)
    (h7 : ∀ W, Hid (Calls Tryz.prog 27 #[.string ((bs l).extract 0 n)] W fun e w' => e = .returned (.tuple #[.agg #[.int .i64 dc, .int .i64 de], .int .i64 er]) ∧ Below W.heap.size W w')) :
    Calls Tryz.prog 15 #[.string (bs l)] w fun e w' => e = tokR ⟨1, 0, [], dc, de, Rf.zero⟩ n er ∧ Below w.heap.size w w' := by
  have HZ : ∀ W, Below (w.alloc (.cells z10 34)).heap.size (w.alloc (.cells z10 34)) W → Hid (Row W w.heap.size 34 z10 ∧ Below w.heap.size w W) := fun W hW => one_row w W _ _ hW
  unfold z10 at HZ
  have hn3 : (n : Int) ≤ ((bs l).size : Int) := by omega
  go_enter Tryz.func15, Tryz.ntmps15
  go_wp2_with fail
  refine Calls.mono (h1 _).out ?_
  rintro _ w1 ⟨rfl, q1⟩
  clear h1
  go_wp2_with fail
  refine Calls.mono (h2 _).out ?_
  rintro _ w0 ⟨rfl, hw⟩
  rw [hw]
  clear hw w0 h2
  go_wp2_with fail
  refine Calls.mono (h3 _).out ?_
  rintro _ w2 ⟨rfl, q2⟩
  have q1 := q1.trans (q2.mono q1.size)
  clear h3 q2
  go_wp2_with fail
  refine Calls.mono (h4 _).out ?_
  rintro _ w0 ⟨rfl, hw⟩
  rw [hw]
  clear hw w0 h4
  go_wp2_with fail
  refine Calls.mono (h7 _).out ?_
  rintro _ w5 ⟨rfl, q5⟩
  obtain ⟨hZ, hB⟩ := (HZ _ (q1.trans (q5.mono q1.size))).out
  clear h7 q1 q5 HZ
  obtain ⟨c0, c1, c2, c3, c4, c5, c6, c7, c8, c9⟩ := hZ.ten
  have fZ := hZ.frozen
  have lZ := hZ.lt
  have hE := (Row.set10 hZ (.int .i64 1) (.int .i64 0) (.string .empty) (.int .i64 dc) (.int .i64 de) (.string .empty) (.int .i64 0) (.int .i64 0) (.bool false) (.bool false)).alloc (.cells #[.int .i64 dc, .int .i64 de] 30)
  have hF := below_allocS (below_set10 hB (B := w.heap.size) (Nat.le_refl _) (.int .i64 1) (.int .i64 0) (.string .empty) (.int .i64 dc) (.int .i64 de) (.string .empty) (.int .i64 0) (.int .i64 0) (.bool false) (.bool false)) (.cells #[.int .i64 dc, .int .i64 de] 30)
  clear hZ hB
  go_wp2
  exact bodyPost_ret (ret_three_b (u := 3) (u2 := 4) rfl (g := w.heap.size) rfl rfl rfl (load34 hE rfl)) rfl ⟨rfl, hF⟩
set_option maxRecDepth 100000 in
set_option maxHeartbeats 1000000 in
theorem number_ft (l b0 p1 p2 p3 b2 : List UInt8) (x3 : Bool) (n : Nat) (dc de er : Int) (w : World)
    (h1 : ∀ W, Hid (Calls Tryz.prog 25 #[.string (bs l), .string (bs l)] W fun e w' => e = .returned (.string (bs b0)) ∧ Below W.heap.size W w'))
    (h2 : ∀ W, Hid (Calls Tryz.prog 26 #[.string (bs b0), .string ⟨#[46]⟩] W fun e w' => e = .returned (.tuple #[.string (bs p1), .bool false]) ∧ w' = W))
    (h4 : ∀ W, Hid (Calls Tryz.prog 26 #[.string (bs b0), .string ⟨#[69, 101]⟩] W fun e w' => e = .returned (.tuple #[.string (bs p2), .bool true]) ∧ w' = W))
    (h5 : ∀ W, Hid (Calls Tryz.prog 26 #[.string (bs p2), .string ⟨#[43, 45]⟩] W fun e w' => e = .returned (.tuple #[.string (bs p3), .bool x3]) ∧ w' = W))
    (h6 : ∀ W, Hid (Calls Tryz.prog 25 #[.string (bs p3), .string (bs b0)] W fun e w' => e = .returned (.string (bs b2)) ∧ Below W.heap.size W w'))
    (hn1 : ((bs l).size : Int) - ((bs b2).size : Int) = (n : Int)) (hn2 : n ≤ (bs l).size) (hsz : (bs l).size ≤ 140737488351232)
    (h7 : ∀ W, Hid (Calls Tryz.prog 27 #[.string ((bs l).extract 0 n)] W fun e w' => e = .returned (.tuple #[.agg #[.int .i64 dc, .int .i64 de], .int .i64 er]) ∧ Below W.heap.size W w')) :
    Calls Tryz.prog 15 #[.string (bs l)] w fun e w' => e = tokR ⟨1, 0, [], dc, de, Rf.zero⟩ n er ∧ Below w.heap.size w w' := by
  have HZ : ∀ W, Below (w.alloc (.cells z10 34)).heap.size (w.alloc (.cells z10 34)) W → Hid (Row W w.heap.size 34 z10 ∧ Below w.heap.size w W) := fun W hW => one_row w W _ _ hW
  unfold z10 at HZ
  have hn3 : (n : Int) ≤ ((bs l).size : Int) := by omega
  go_enter Tryz.func15, Tryz.ntmps15
  go_wp2_with fail
  refine Calls.mono (h1 _).out ?_
  rintro _ w1 ⟨rfl, q1⟩
  clear h1
  go_wp2_with fail
  refine Calls.mono (h2 _).out ?_
  rintro _ w0 ⟨rfl, hw⟩
  rw [hw]
  clear hw w0 h2
  go_wp2_with fail
  refine Calls.mono (h4 _).out ?_
  rintro _ w0 ⟨rfl, hw⟩
  rw [hw]
  clear hw w0 h4
  go_wp2_with fail
  refine Calls.mono (h5 _).out ?_
  rintro _ w0 ⟨rfl, hw⟩
  rw [hw]
  clear hw w0 h5
  go_wp2_with fail
  refine Calls.mono (h6 _).out ?_
  rintro _ w4 ⟨rfl, q4⟩
  have q1 := q1.trans (q4.mono q1.size)
  clear h6 q4
  go_wp2_with fail
  refine Calls.mono (h7 _).out ?_
  rintro _ w5 ⟨rfl, q5⟩
  obtain ⟨hZ, hB⟩ := (HZ _ (q1.trans (q5.mono q1.size))).out
  clear h7 q1 q5 HZ
  obtain ⟨c0, c1, c2, c3, c4, c5, c6, c7, c8, c9⟩ := hZ.ten
  have fZ := hZ.frozen
  have lZ := hZ.lt
  have hE := (Row.set10 hZ (.int .i64 1) (.int .i64 0) (.string .empty) (.int .i64 dc) (.int .i64 de) (.string .empty) (.int .i64 0) (.int .i64 0) (.bool false) (.bool false)).alloc (.cells #[.int .i64 dc, .int .i64 de] 30)
  have hF := below_allocS (below_set10 hB (B := w.heap.size) (Nat.le_refl _) (.int .i64 1) (.int .i64 0) (.string .empty) (.int .i64 dc) (.int .i64 de) (.string .empty) (.int .i64 0) (.int .i64 0) (.bool false) (.bool false)) (.cells #[.int .i64 dc, .int .i64 de] 30)
  clear hZ hB
  go_wp2
  exact bodyPost_ret (ret_three_b (u := 3) (u2 := 4) rfl (g := w.heap.size) rfl rfl rfl (load34 hE rfl)) rfl ⟨rfl, hF⟩
set_option maxRecDepth 100000 in
set_option maxHeartbeats 1000000 in
theorem number_ff (l b0 p1 p2 : List UInt8) (n : Nat) (dc de er : Int) (w : World)
    (h1 : ∀ W, Hid (Calls Tryz.prog 25 #[.string (bs l), .string (bs l)] W fun e w' => e = .returned (.string (bs b0)) ∧ Below W.heap.size W w'))
    (h2 : ∀ W, Hid (Calls Tryz.prog 26 #[.string (bs b0), .string ⟨#[46]⟩] W fun e w' => e = .returned (.tuple #[.string (bs p1), .bool false]) ∧ w' = W))
    (h4 : ∀ W, Hid (Calls Tryz.prog 26 #[.string (bs b0), .string ⟨#[69, 101]⟩] W fun e w' => e = .returned (.tuple #[.string (bs p2), .bool false]) ∧ w' = W))
    (hn1 : ((bs l).size : Int) - ((bs b0).size : Int) = (n : Int)) (hn2 : n ≤ (bs l).size) (hsz : (bs l).size ≤ 140737488351232)
    (h7 : ∀ W, Hid (Calls Tryz.prog 27 #[.string ((bs l).extract 0 n)] W fun e w' => e = .returned (.tuple #[.agg #[.int .i64 dc, .int .i64 de], .int .i64 er]) ∧ Below W.heap.size W w')) :
    Calls Tryz.prog 15 #[.string (bs l)] w fun e w' => e = tokR ⟨1, 0, [], dc, de, Rf.zero⟩ n er ∧ Below w.heap.size w w' := by
  have HZ : ∀ W, Below (w.alloc (.cells z10 34)).heap.size (w.alloc (.cells z10 34)) W → Hid (Row W w.heap.size 34 z10 ∧ Below w.heap.size w W) := fun W hW => one_row w W _ _ hW
  unfold z10 at HZ
  have hn3 : (n : Int) ≤ ((bs l).size : Int) := by omega
  go_enter Tryz.func15, Tryz.ntmps15
  go_wp2_with fail
  refine Calls.mono (h1 _).out ?_
  rintro _ w1 ⟨rfl, q1⟩
  clear h1
  go_wp2_with fail
  refine Calls.mono (h2 _).out ?_
  rintro _ w0 ⟨rfl, hw⟩
  rw [hw]
  clear hw w0 h2
  go_wp2_with fail
  refine Calls.mono (h4 _).out ?_
  rintro _ w0 ⟨rfl, hw⟩
  rw [hw]
  clear hw w0 h4
  go_wp2_with fail
  refine Calls.mono (h7 _).out ?_
  rintro _ w5 ⟨rfl, q5⟩
  obtain ⟨hZ, hB⟩ := (HZ _ (q1.trans (q5.mono q1.size))).out
  clear h7 q1 q5 HZ
  obtain ⟨c0, c1, c2, c3, c4, c5, c6, c7, c8, c9⟩ := hZ.ten
  have fZ := hZ.frozen
  have lZ := hZ.lt
  have hE := (Row.set10 hZ (.int .i64 1) (.int .i64 0) (.string .empty) (.int .i64 dc) (.int .i64 de) (.string .empty) (.int .i64 0) (.int .i64 0) (.bool false) (.bool false)).alloc (.cells #[.int .i64 dc, .int .i64 de] 30)
  have hF := below_allocS (below_set10 hB (B := w.heap.size) (Nat.le_refl _) (.int .i64 1) (.int .i64 0) (.string .empty) (.int .i64 dc) (.int .i64 de) (.string .empty) (.int .i64 0) (.int .i64 0) (.bool false) (.bool false)) (.cells #[.int .i64 dc, .int .i64 de] 30)
  clear hZ hB
  go_wp2
  exact bodyPost_ret (ret_three_b (u := 3) (u2 := 4) rfl (g := w.heap.size) rfl rfl rfl (load34 hE rfl)) rfl ⟨rfl, hF⟩
theorem pastD_len (l o : List UInt8) (h : l.length ≤ o.length) : (pastD l o).length ≤ o.length := by
  unfold pastD
  split
  · exact Nat.le_refl _
  · have := ahead_len l digL; omega
theorem cutO_len (l cs : List UInt8) : (cutO l cs).1.length ≤ l.length := by
  cases l with
  | nil => simp [cutO]
  | cons a r => unfold cutO; simp only; split <;> simp
theorem number_any (l : List UInt8) (hl : l.length ≤ 140737488351232) (w : World) :
    Calls Tryz.prog 15 #[.string (bs l)] w fun e w' => e = tokR (numberR l).1 (numberR l).2.1 (numberR l).2.2 ∧ Below w.heap.size w w' := by
  have g0 : (numA l).length ≤ l.length := pastD_len l l (Nat.le_refl _)
  have g1 := cutO_len (numA l) [46]
  have g2 : (numB l).length ≤ (numA l).length := by
    unfold numB
    split
    · exact pastD_len _ _ g1
    · exact Nat.le_refl _
  have g3 := cutO_len (numB l) [69, 101]
  have g4 := cutO_len (cutO (numB l) [69, 101]).1 [43, 45]
  have g5 : (numC l).length ≤ (numB l).length := by
    unfold numC
    split
    · exact pastD_len _ _ (by omega)
    · exact Nat.le_refl _
  have h1 : ∀ W, Hid (Calls Tryz.prog 25 #[.string (bs l), .string (bs l)] W fun e w' => e = .returned (.string (bs (numA l))) ∧ Below W.heap.size W w') := fun W => pastDigits_any l l (by omega) W
  have h2 : ∀ W, Hid (Calls Tryz.prog 26 #[.string (bs (numA l)), .string ⟨#[46]⟩] W fun e w' => e = .returned (.tuple #[.string (bs (cutO (numA l) [46]).1), .bool (cutO (numA l) [46]).2]) ∧ w' = W) := fun W => cutOne_any (numA l) [46] W
  have h3 : ∀ W, Hid _ := fun W => pastDigits_any (cutO (numA l) [46]).1 (numA l) (by omega) W
  have h4 : ∀ W, Hid (Calls Tryz.prog 26 #[.string (bs (numB l)), .string ⟨#[69, 101]⟩] W fun e w' => e = .returned (.tuple #[.string (bs (cutO (numB l) [69, 101]).1), .bool (cutO (numB l) [69, 101]).2]) ∧ w' = W) := fun W => cutOne_any (numB l) [69, 101] W
  have h5 : ∀ W, Hid (Calls Tryz.prog 26 #[.string (bs (cutO (numB l) [69, 101]).1), .string ⟨#[43, 45]⟩] W fun e w' => e = .returned (.tuple #[.string (bs (cutO (cutO (numB l) [69, 101]).1 [43, 45]).1), .bool (cutO (cutO (numB l) [69, 101]).1 [43, 45]).2]) ∧ w' = W) := fun W => cutOne_any (cutO (numB l) [69, 101]).1 [43, 45] W
  have h6 : ∀ W, Hid _ := fun W => pastDigits_any (cutO (cutO (numB l) [69, 101]).1 [43, 45]).1 (numB l) (by omega) W
  have h7 : ∀ W, Hid (Calls Tryz.prog 27 #[.string ((bs l).extract 0 (numN l))] W fun e w' => e = .returned (.tuple #[.agg #[.int .i64 (decT (l.take (numN l))).1, .int .i64 (decT (l.take (numN l))).2.1], .int .i64 (decT (l.take (numN l))).2.2]) ∧ Below W.heap.size W w') := fun W => by
    rw [bs_take, ← decPv_eq]
    exact dparse_any _ (by simp; omega) W
  have hn1 : ((bs l).size : Int) - ((bs (numC l)).size : Int) = (numN l : Int) := by rw [bs_size, bs_size]; unfold numN; omega
  have hn2 : numN l ≤ (bs l).size := by rw [bs_size]; unfold numN; omega
  have hsz : (bs l).size ≤ 140737488351232 := by rw [bs_size]; exact hl
  unfold numberR
  simp only
  cases i1 : (cutO (numA l) [46]).2
  · rw [i1] at h2
    have eB : numB l = numA l := by unfold numB; rw [i1]; rfl
    rw [eB] at h4 h5 h6
    cases i2 : (cutO (numA l) [69, 101]).2
    · rw [i2] at h4
      have eC : numC l = numA l := by unfold numC; rw [eB, i2]; rfl
      rw [eC] at hn1
      exact number_ff l _ _ _ _ _ _ _ w h1 h2 h4 hn1 hn2 hsz h7
    · rw [i2] at h4
      have eC : numC l = pastD (cutO (cutO (numA l) [69, 101]).1 [43, 45]).1 (numA l) := by unfold numC; rw [eB, i2]; rfl
      rw [eC] at hn1
      exact number_ft l _ _ _ _ _ _ _ _ _ _ w h1 h2 h4 h5 h6 hn1 hn2 hsz h7
  · rw [i1] at h2
    have eB : numB l = pastD (cutO (numA l) [46]).1 (numA l) := by unfold numB; rw [i1]; rfl
    rw [← eB] at h3
    cases i2 : (cutO (numB l) [69, 101]).2
    · rw [i2] at h4
      have eC : numC l = numB l := by unfold numC; rw [i2]; rfl
      rw [eC] at hn1
      exact number_tf l _ _ _ _ _ _ _ _ w h1 h2 h3 h4 hn1 hn2 hsz h7
    · rw [i2] at h4
      have eC : numC l = pastD (cutO (cutO (numB l) [69, 101]).1 [43, 45]).1 (numB l) := by unfold numC; rw [i2]; rfl
      rw [eC] at hn1
      exact number_tt l _ _ _ _ _ _ _ _ _ _ _ w h1 h2 h3 h4 h5 h6 hn1 hn2 hsz h7
end Go.Proofs.YtgihginfegckcaaGreatDoor
/- lex's text, onSheet, run. -/
namespace Go.Proofs.YtgihginfegckcaaGreatDoor
open Go.RowKit

/-- What the table of marks and the library's variable hold. -/
structure LexE (w : World) : Prop where
  marks : Marks w
  max : ∃ m, w.cell? ⟨1, 0, none⟩ = some (.int .i64 m)
theorem LexE.below {w w' : World} (h : LexE w) (hB : Below w.heap.size w w') : LexE w' := by
  have hc : ∀ {b o : Nat} {v : Value}, w.cell? ⟨b, o, none⟩ = some v → w'.cell? ⟨b, o, none⟩ = some v := fun {b o v} hv => (World.cell?_of_block (w := w) (hB.block b (cell_lt hv))).trans hv
  obtain ⟨⟨m0, m1, m2, m3, m4, m5, m6, m7, m8, m9, m10, m11, m12, m13, m14, m15, m16⟩, m, hm⟩ := h
  exact ⟨⟨hc m0, hc m1, hc m2, hc m3, hc m4, hc m5, hc m6, hc m7, hc m8, hc m9, hc m10, hc m11, hc m12, hc m13, hc m14, hc m15, hc m16⟩, m, hc hm⟩
/-- What a text between two quotes stands for. -/
def innerL (l : List UInt8) : List UInt8 := Lib.replaceAll ((l.take (quotedN l - 1)).drop 1) [34, 34] [34]
def textR (l : List UInt8) : Tk × Nat × Int := if quotedN l = 0 then (Tk.zero, 0, 40) else if 255 < (innerL l).length then (Tk.zero, 0, 3) else (⟨2, 0, innerL l, 0, 0, Rf.zero⟩, quotedN l, errX (xmlL (natsOf (bs (innerL l)))))
set_option maxRecDepth 100000 in
set_option maxHeartbeats 1000000 in
theorem text_no (l : List UInt8) (w : World)
    (h1 : ∀ W, Hid (Calls Tryz.prog 18 #[.string (bs l)] W fun e w' => e = .returned (.int .i64 0) ∧ w' = W)) :
    Calls Tryz.prog 16 #[.string (bs l)] w fun e w' => e = tokR Tk.zero 0 40 ∧ Below w.heap.size w w' := by
  go_enter Tryz.func16, Tryz.ntmps16
  go_wp2_with fail
  refine Calls.mono (h1 _).out ?_
  rintro _ w0 ⟨rfl, hw⟩
  rw [hw]
  clear hw w0 h1
  go_wp2
  exact bodyPost_ret (ret_three_b (u := 3) (u2 := 4) rfl (g := w.heap.size) rfl rfl rfl (load34 (Row.new w 34 _) rfl)) rfl ⟨rfl, (Below.refl _ w).alloc (Nat.le_refl _) _⟩
set_option maxRecDepth 100000 in
set_option maxHeartbeats 1000000 in
theorem text_big (l I : List UInt8) (n : Nat) (w : World) (hn : 2 ≤ n) (hn2 : n ≤ (bs l).size) (hsz : (bs l).size ≤ 1000000)
    (h1 : ∀ W, Hid (Calls Tryz.prog 18 #[.string (bs l)] W fun e w' => e = .returned (.int .i64 (n : Int)) ∧ w' = W))
    (h2 : ∀ W, Below w.heap.size w W → Hid (Calls Tryz.prog 23 #[.string ((bs l).extract 1 (n - 1)), .string ⟨#[34, 34]⟩, .string ⟨#[34]⟩] W fun e w' => e = .returned (.string (bs I)) ∧ Below W.heap.size W w'))
    (hI : 255 < (bs I).size) :
    Calls Tryz.prog 16 #[.string (bs l)] w fun e w' => e = tokR Tk.zero 0 3 ∧ Below w.heap.size w w' := by
  have t1 : ((n : Int) == 0) = false := beq_eq_false_iff_ne.2 (by omega)
  have t2 : (n : Int) - 1 = ((n - 1 : Nat) : Int) := by omega
  have t3 : (1 : Int) ≤ ((n - 1 : Nat) : Int) := by omega
  have t4 : ((n - 1 : Nat) : Int) ≤ ((bs l).size : Int) := by omega
  have t5 : (255 : Int) < ((bs I).size : Int) := by omega
  have t6 : n - 1 ≤ (bs l).size := by omega
  generalize n - 1 = k at *
  have HZ : ∀ W, Below (w.alloc (.cells z10 34)).heap.size (w.alloc (.cells z10 34)) W → Hid (Row W w.heap.size 34 z10 ∧ Below w.heap.size w W) := fun W hW => one_row w W _ _ hW
  unfold z10 at HZ
  clear hI
  go_enter Tryz.func16, Tryz.ntmps16
  go_wp2_with fail
  refine Calls.mono (h1 _).out ?_
  rintro _ w0 ⟨rfl, hw⟩
  rw [hw]
  clear hw w0 h1
  go_wp2_with fail
  refine Calls.mono (h2 _ ((Below.refl _ w).alloc (Nat.le_refl _) _)).out ?_
  rintro _ w1 ⟨rfl, q1⟩
  clear h2
  obtain ⟨hZ, hB⟩ := (HZ _ q1).out
  clear q1 HZ
  obtain ⟨c0, c1, c2, c3, c4, c5, c6, c7, c8, c9⟩ := hZ.ten
  have fZ := hZ.frozen
  have lZ := hZ.lt
  have hE := (Row.set10 hZ (.int .i64 0) (.int .i64 0) (.string .empty) (.int .i64 0) (.int .i64 0) (.string .empty) (.int .i64 0) (.int .i64 0) (.bool false) (.bool false))
  have hF := below_set10 hB (B := w.heap.size) (Nat.le_refl _) (.int .i64 0) (.int .i64 0) (.string .empty) (.int .i64 0) (.int .i64 0) (.string .empty) (.int .i64 0) (.int .i64 0) (.bool false) (.bool false)
  clear hZ hB
  go_wp2
  exact bodyPost_ret (ret_three_b (u := 3) (u2 := 4) rfl (g := w.heap.size) rfl rfl rfl (load34 hE rfl)) rfl ⟨rfl, hF⟩
set_option maxRecDepth 100000 in
set_option maxHeartbeats 1000000 in
theorem text_ok (l I : List UInt8) (n : Nat) (er : Int) (w : World) (hn : 2 ≤ n) (hn2 : n ≤ (bs l).size) (hsz : (bs l).size ≤ 1000000)
    (h1 : ∀ W, Hid (Calls Tryz.prog 18 #[.string (bs l)] W fun e w' => e = .returned (.int .i64 (n : Int)) ∧ w' = W))
    (h2 : ∀ W, Below w.heap.size w W → Hid (Calls Tryz.prog 23 #[.string ((bs l).extract 1 (n - 1)), .string ⟨#[34, 34]⟩, .string ⟨#[34]⟩] W fun e w' => e = .returned (.string (bs I)) ∧ Below W.heap.size W w'))
    (h3 : ∀ W, Hid (Calls Tryz.prog 28 #[.string (bs I)] W fun e w' => e = .returned (.int .i64 er) ∧ Below W.heap.size W w')) (hI : (bs I).size ≤ 255) :
    Calls Tryz.prog 16 #[.string (bs l)] w fun e w' => e = tokR ⟨2, 0, I, 0, 0, Rf.zero⟩ n er ∧ Below w.heap.size w w' := by
  have t1 : ((n : Int) == 0) = false := beq_eq_false_iff_ne.2 (by omega)
  have t2 : (n : Int) - 1 = ((n - 1 : Nat) : Int) := by omega
  have t3 : (1 : Int) ≤ ((n - 1 : Nat) : Int) := by omega
  have t4 : ((n - 1 : Nat) : Int) ≤ ((bs l).size : Int) := by omega
  have t5 : decide ((255 : Int) < ((bs I).size : Int)) = false := decide_eq_false (by omega)
  have t6 : n - 1 ≤ (bs l).size := by omega
  generalize n - 1 = k at *
  have HZ : ∀ W, Below (w.alloc (.cells z10 34)).heap.size (w.alloc (.cells z10 34)) W → Hid (Row W w.heap.size 34 z10 ∧ Below w.heap.size w W) := fun W hW => one_row w W _ _ hW
  unfold z10 at HZ
  clear hI
  go_enter Tryz.func16, Tryz.ntmps16
  go_wp2_with fail
  refine Calls.mono (h1 _).out ?_
  rintro _ w0 ⟨rfl, hw⟩
  rw [hw]
  clear hw w0 h1
  go_wp2_with fail
  refine Calls.mono (h2 _ ((Below.refl _ w).alloc (Nat.le_refl _) _)).out ?_
  rintro _ w1 ⟨rfl, q1⟩
  clear h2
  go_wp2_with fail
  refine Calls.mono (h3 _).out ?_
  rintro _ w2 ⟨rfl, q2⟩
  obtain ⟨hZ, hB⟩ := (HZ _ (q1.trans (q2.mono q1.size))).out
  clear q1 q2 h3 HZ
  obtain ⟨c0, c1, c2, c3, c4, c5, c6, c7, c8, c9⟩ := hZ.ten
  have fZ := hZ.frozen
  have lZ := hZ.lt
  have hE := (Row.set10 hZ (.int .i64 2) (.int .i64 0) (.string (bs I)) (.int .i64 0) (.int .i64 0) (.string .empty) (.int .i64 0) (.int .i64 0) (.bool false) (.bool false))
  have hF := below_set10 hB (B := w.heap.size) (Nat.le_refl _) (.int .i64 2) (.int .i64 0) (.string (bs I)) (.int .i64 0) (.int .i64 0) (.string .empty) (.int .i64 0) (.int .i64 0) (.bool false) (.bool false)
  clear hZ hB
  go_wp2
  exact bodyPost_ret (ret_three_b (u := 3) (u2 := 4) rfl (g := w.heap.size) rfl rfl rfl (load34 hE rfl)) rfl ⟨rfl, hF⟩
/-- The signs of a cell behind a sheet's name. -/
def plcL : List UInt8 := [65, 66, 67, 68, 69, 70, 71, 72, 73, 74, 75, 76, 77, 78, 79, 80, 81, 82, 83, 84, 85, 86, 87, 88, 89, 90, 48, 49, 50, 51, 52, 53, 54, 55, 56, 57, 36]
def shN (l : List UInt8) (n : Nat) : Nat := n + 1 + (aheadL (Lib.trimPrefix (l.drop n) [33]) plcL).length
def onSheetR (l : List UInt8) (n : Nat) : Tk × Nat × Int := if Lib.hasPrefix (l.drop n) [33] then (⟨3, 0, [], 0, 0, (parseR (l.take (shN l n))).1⟩, shN l n, (parseR (l.take (shN l n))).2) else (Tk.zero, 0, 40)
set_option maxRecDepth 100000 in
set_option maxHeartbeats 1000000 in
theorem onSheet_no (l m : List UInt8) (n : Nat) (w : World) (hn2 : n ≤ (bs l).size)
    (h1 : ∀ W, Hid (Calls Tryz.prog 29 #[.string ((bs l).extract n (bs l).size), .string ⟨#[33]⟩] W fun e w' => e = .returned (.tuple #[.string (bs m), .bool false]) ∧ w' = W)) :
    Calls Tryz.prog 17 #[.string (bs l), .int .i64 (n : Int)] w fun e w' => e = tokR Tk.zero 0 40 ∧ Below w.heap.size w w' := by
  have t1 : (n : Int) ≤ ((bs l).size : Int) := by omega
  go_enter Tryz.func17, Tryz.ntmps17
  go_wp2_with fail
  refine Calls.mono (h1 _).out ?_
  rintro _ w0 ⟨rfl, hw⟩
  rw [hw]
  clear hw w0 h1
  go_wp2
  exact bodyPost_ret (ret_three_b (u := 5) (u2 := 6) rfl (g := w.heap.size) rfl rfl rfl (load34 (Row.new w 34 _) rfl)) rfl ⟨rfl, (Below.refl _ w).alloc (Nat.le_refl _) _⟩
set_option maxRecDepth 100000 in
set_option maxHeartbeats 1000000 in
theorem onSheet_ok (l m C D : List UInt8) (n k : Nat) (xs : ByteArray) (xc xr : Int) (xa xb : Bool) (er : Int) (w : World) (hn2 : n ≤ (bs l).size) (hsz : (bs l).size ≤ 1000000) (hk : (n : Int) + 1 + ((bs C).size : Int) = (k : Int)) (hk2 : k ≤ (bs l).size)
    (h1 : ∀ W, Hid (Calls Tryz.prog 29 #[.string ((bs l).extract n (bs l).size), .string ⟨#[33]⟩] W fun e w' => e = .returned (.tuple #[.string (bs m), .bool true]) ∧ w' = W))
    (h2 : ∀ W, Hid (Calls Tryz.prog 30 #[.string (bs m), .string ⟨#[65, 66, 67, 68, 69, 70, 71, 72, 73, 74, 75, 76, 77, 78, 79, 80, 81, 82, 83, 84, 85, 86, 87, 88, 89, 90, 48, 49, 50, 51, 52, 53, 54, 55, 56, 57, 36]⟩] W fun e w' => e = .returned (.tuple #[.string (bs C), .string (bs D)]) ∧ Below W.heap.size W w'))
    (h3 : ∀ W, Hid (Calls Tryz.prog 31 #[.string ((bs l).extract 0 k)] W fun e w' => e = .returned (.tuple #[.agg #[.string xs, .int .i64 xc, .int .i64 xr, .bool xa, .bool xb], .int .i64 er]) ∧ Below W.heap.size W w')) :
    Calls Tryz.prog 17 #[.string (bs l), .int .i64 (n : Int)] w fun e w' => e = tokR ⟨3, 0, [], 0, 0, ⟨xs, xc, xr, xa, xb⟩⟩ k er ∧ Below w.heap.size w w' := by
  have t1 : (n : Int) ≤ ((bs l).size : Int) := by omega
  have t2 : (k : Int) ≤ ((bs l).size : Int) := by omega
  have HZ : ∀ W, Below (w.alloc (.cells z10 34)).heap.size (w.alloc (.cells z10 34)) W → Hid (Row W w.heap.size 34 z10 ∧ Below w.heap.size w W) := fun W hW => one_row w W _ _ hW
  unfold z10 at HZ
  go_enter Tryz.func17, Tryz.ntmps17
  go_wp2_with fail
  refine Calls.mono (h1 _).out ?_
  rintro _ w0 ⟨rfl, hw⟩
  rw [hw]
  clear hw w0 h1
  go_wp2_with fail
  refine Calls.mono (h2 _).out ?_
  rintro _ w1 ⟨rfl, q1⟩
  clear h2
  go_wp2_with fail
  refine Calls.mono (h3 _).out ?_
  rintro _ w2 ⟨rfl, q2⟩
  obtain ⟨hZ, hB⟩ := (HZ _ (q1.trans (q2.mono q1.size))).out
  clear q1 q2 h3 HZ
  obtain ⟨c0, c1, c2, c3, c4, c5, c6, c7, c8, c9⟩ := hZ.ten
  have fZ := hZ.frozen
  have lZ := hZ.lt
  have hE := (Row.set10 hZ (.int .i64 3) (.int .i64 0) (.string .empty) (.int .i64 0) (.int .i64 0) (.string xs) (.int .i64 xc) (.int .i64 xr) (.bool xa) (.bool xb)).alloc (.cells #[.string xs, .int .i64 xc, .int .i64 xr, .bool xa, .bool xb] 32)
  have hF := below_allocS (below_set10 hB (B := w.heap.size) (Nat.le_refl _) (.int .i64 3) (.int .i64 0) (.string .empty) (.int .i64 0) (.int .i64 0) (.string xs) (.int .i64 xc) (.int .i64 xr) (.bool xa) (.bool xb)) (.cells #[.string xs, .int .i64 xc, .int .i64 xr, .bool xa, .bool xb] 32)
  clear hZ hB
  go_wp2
  exact bodyPost_ret (ret_three_b (u := 5) (u2 := 6) rfl (g := w.heap.size) rfl rfl rfl (load34 hE rfl)) rfl ⟨rfl, hF⟩
end Go.Proofs.YtgihginfegckcaaGreatDoor
/- lex's run, way by way. -/
namespace Go.Proofs.YtgihginfegckcaaGreatDoor
open Go.RowKit

/-- The signs of a word. -/
def wthL : List UInt8 := [65, 66, 67, 68, 69, 70, 71, 72, 73, 74, 75, 76, 77, 78, 79, 80, 81, 82, 83, 84, 85, 86, 87, 88, 89, 90, 97, 98, 99, 100, 101, 102, 103, 104, 105, 106, 107, 108, 109, 110, 111, 112, 113, 114, 115, 116, 117, 118, 119, 120, 121, 122, 95, 36, 48, 49, 50, 51, 52, 53, 54, 55, 56, 57, 46]
def runR (l : List UInt8) : Tk × Nat × Int :=
  if Lib.hasPrefix (behindL l wthL) [33] && !Lib.containsAny (aheadL l wthL) [36, 46] then onSheetR l (aheadL l wthL).length
  else if !decide ((parseR (aheadL l wthL)).2 = 40) && !Lib.hasPrefix (behindL l wthL) [40] then (⟨3, 0, [], 0, 0, (parseR (aheadL l wthL)).1⟩, (aheadL l wthL).length, (parseR (aheadL l wthL)).2)
  else if (aheadL l wthL).contains 36 then (Tk.zero, 0, 40) else (⟨4, 0, aheadL l wthL, 0, 0, Rf.zero⟩, (aheadL l wthL).length, 0)
set_option maxRecDepth 100000 in
set_option maxHeartbeats 1000000 in
theorem run_sheet (l C D : List UInt8) (t : Tk) (k : Nat) (er : Int) (w : World)
    (h1 : ∀ W, Hid (Calls Tryz.prog 30 #[.string (bs l), .string ⟨([65, 66, 67, 68, 69, 70, 71, 72, 73, 74, 75, 76, 77, 78, 79, 80, 81, 82, 83, 84, 85, 86, 87, 88, 89, 90, 97, 98, 99, 100, 101, 102, 103, 104, 105, 106, 107, 108, 109, 110, 111, 112, 113, 114, 115, 116, 117, 118, 119, 120, 121, 122, 95, 36, 48, 49, 50, 51, 52, 53, 54, 55, 56, 57, 46].toArray)⟩] W fun e w' => e = .returned (.tuple #[.string (bs C), .string (bs D)]) ∧ Below W.heap.size W w'))
    (h2 : ∀ W, Hid (Calls Tryz.prog 20 #[.string (bs D), .string ⟨#[33]⟩] W fun e w' => e = .returned (.bool true) ∧ w' = W))
    (h3 : ∀ W, Hid (Calls Tryz.prog 32 #[.string (bs C), .string ⟨#[36, 46]⟩] W fun e w' => e = .returned (.bool false) ∧ Below W.heap.size W w'))
    (h4 : ∀ W, Hid (Calls Tryz.prog 17 #[.string (bs l), .int .i64 ((bs C).size : Int)] W fun e w' => e = tokR t k er ∧ Below W.heap.size W w')) :
    Calls Tryz.prog 19 #[.string (bs l)] w fun e w' => e = tokR t k er ∧ Below w.heap.size w w' := by
  unfold tokR Tk.v Tk.cells at h4
  have HZ : ∀ W, Below (w.alloc (.cells z10 34)).heap.size (w.alloc (.cells z10 34)) W → Hid (Row W w.heap.size 34 z10 ∧ Below w.heap.size w W) := fun W hW => one_row w W _ _ hW
  unfold z10 at HZ
  go_enter Tryz.func19, Tryz.ntmps19
  go_wp2_with fail
  refine Calls.mono (h1 _).out ?_
  rintro _ w1 ⟨rfl, q1⟩
  clear h1
  go_wp2_with fail
  refine Calls.mono (h2 _).out ?_
  rintro _ w0 ⟨rfl, hw⟩
  rw [hw]
  clear hw w0 h2
  go_wp2_with fail
  refine Calls.mono (h3 _).out ?_
  rintro _ w2 ⟨rfl, q2⟩
  clear h3
  go_wp2_with fail
  refine Calls.mono (h4 _).out ?_
  rintro _ w3 ⟨rfl, q3⟩
  have q1 := q1.trans (q2.mono q1.size)
  obtain ⟨hZ, hB⟩ := (HZ _ (q1.trans (q3.mono q1.size))).out
  clear q1 q2 q3 h4 HZ
  obtain ⟨c0, c1, c2, c3, c4, c5, c6, c7, c8, c9⟩ := hZ.ten
  have fZ := hZ.frozen
  have lZ := hZ.lt
  have hE := (Row.set10 hZ (.int .i64 t.k) (.int .i64 t.at') (.string (bs t.s)) (.int .i64 t.c) (.int .i64 t.e) (.string t.r.s) (.int .i64 t.r.c) (.int .i64 t.r.r) (.bool t.r.ac) (.bool t.r.ar))
  have hF := below_set10 hB (B := w.heap.size) (Nat.le_refl _) (.int .i64 t.k) (.int .i64 t.at') (.string (bs t.s)) (.int .i64 t.c) (.int .i64 t.e) (.string t.r.s) (.int .i64 t.r.c) (.int .i64 t.r.r) (.bool t.r.ac) (.bool t.r.ar)
  clear hZ hB
  go_wp2
  exact bodyPost_ret (ret_three_b (u := 3) (u2 := 4) rfl (g := w.heap.size) rfl rfl rfl (load34 hE rfl)) rfl ⟨rfl, hF⟩
set_option maxRecDepth 100000 in
set_option maxHeartbeats 1000000 in
theorem run_ref_n (l C D : List UInt8) (xs : ByteArray) (xc xr : Int) (xa xb : Bool) (er : Int) (w : World)
    (h1 : ∀ W, Hid (Calls Tryz.prog 30 #[.string (bs l), .string ⟨([65, 66, 67, 68, 69, 70, 71, 72, 73, 74, 75, 76, 77, 78, 79, 80, 81, 82, 83, 84, 85, 86, 87, 88, 89, 90, 97, 98, 99, 100, 101, 102, 103, 104, 105, 106, 107, 108, 109, 110, 111, 112, 113, 114, 115, 116, 117, 118, 119, 120, 121, 122, 95, 36, 48, 49, 50, 51, 52, 53, 54, 55, 56, 57, 46].toArray)⟩] W fun e w' => e = .returned (.tuple #[.string (bs C), .string (bs D)]) ∧ Below W.heap.size W w'))
    (h2 : ∀ W, Hid (Calls Tryz.prog 20 #[.string (bs D), .string ⟨#[33]⟩] W fun e w' => e = .returned (.bool false) ∧ w' = W))
    (h5 : ∀ W, Hid (Calls Tryz.prog 31 #[.string (bs C)] W fun e w' => e = .returned (.tuple #[.agg #[.string xs, .int .i64 xc, .int .i64 xr, .bool xa, .bool xb], .int .i64 er]) ∧ Below W.heap.size W w'))
    (hne : (er != 40) = true) (h6 : ∀ W, Hid (Calls Tryz.prog 20 #[.string (bs D), .string ⟨#[40]⟩] W fun e w' => e = .returned (.bool false) ∧ w' = W)) :
    Calls Tryz.prog 19 #[.string (bs l)] w fun e w' => e = tokR ⟨3, 0, [], 0, 0, ⟨xs, xc, xr, xa, xb⟩⟩ (bs C).size er ∧ Below w.heap.size w w' := by
  have HZ : ∀ W, Below (w.alloc (.cells z10 34)).heap.size (w.alloc (.cells z10 34)) W → Hid (Row W w.heap.size 34 z10 ∧ Below w.heap.size w W) := fun W hW => one_row w W _ _ hW
  unfold z10 at HZ
  go_enter Tryz.func19, Tryz.ntmps19
  go_wp2_with fail
  refine Calls.mono (h1 _).out ?_
  rintro _ w1 ⟨rfl, q1⟩
  clear h1
  go_wp2_with fail
  refine Calls.mono (h2 _).out ?_
  rintro _ w0 ⟨rfl, hw⟩
  rw [hw]
  clear hw w0 h2
  go_wp2_with fail
  refine Calls.mono (h5 _).out ?_
  rintro _ w3 ⟨rfl, q3⟩
  obtain ⟨hZ, hB⟩ := (HZ _ (q1.trans (q3.mono q1.size))).out
  clear q1 q3 h5 HZ
  go_wp2_with fail
  refine Calls.mono (h6 _).out ?_
  rintro _ w0 ⟨rfl, hw⟩
  rw [hw]
  clear hw w0 h6
  obtain ⟨c0, c1, c2, c3, c4, c5, c6, c7, c8, c9⟩ := hZ.ten
  have fZ := hZ.frozen
  have lZ := hZ.lt
  have hE := (Row.set10 hZ (.int .i64 3) (.int .i64 0) (.string .empty) (.int .i64 0) (.int .i64 0) (.string xs) (.int .i64 xc) (.int .i64 xr) (.bool xa) (.bool xb)).alloc (.cells #[.string xs, .int .i64 xc, .int .i64 xr, .bool xa, .bool xb] 32)
  have hF := below_allocS (below_set10 hB (B := w.heap.size) (Nat.le_refl _) (.int .i64 3) (.int .i64 0) (.string .empty) (.int .i64 0) (.int .i64 0) (.string xs) (.int .i64 xc) (.int .i64 xr) (.bool xa) (.bool xb)) (.cells #[.string xs, .int .i64 xc, .int .i64 xr, .bool xa, .bool xb] 32)
  clear hZ hB
  go_wp2
  exact bodyPost_ret (ret_three_b (u := 3) (u2 := 4) rfl (g := w.heap.size) rfl rfl rfl (load34 hE rfl)) rfl ⟨rfl, hF⟩
set_option maxRecDepth 100000 in
set_option maxHeartbeats 1000000 in
theorem run_ed_n (l C D : List UInt8) (xs : ByteArray) (xc xr : Int) (xa xb : Bool) (er : Int) (w : World)
    (h1 : ∀ W, Hid (Calls Tryz.prog 30 #[.string (bs l), .string ⟨([65, 66, 67, 68, 69, 70, 71, 72, 73, 74, 75, 76, 77, 78, 79, 80, 81, 82, 83, 84, 85, 86, 87, 88, 89, 90, 97, 98, 99, 100, 101, 102, 103, 104, 105, 106, 107, 108, 109, 110, 111, 112, 113, 114, 115, 116, 117, 118, 119, 120, 121, 122, 95, 36, 48, 49, 50, 51, 52, 53, 54, 55, 56, 57, 46].toArray)⟩] W fun e w' => e = .returned (.tuple #[.string (bs C), .string (bs D)]) ∧ Below W.heap.size W w'))
    (h2 : ∀ W, Hid (Calls Tryz.prog 20 #[.string (bs D), .string ⟨#[33]⟩] W fun e w' => e = .returned (.bool false) ∧ w' = W))
    (h5 : ∀ W, Hid (Calls Tryz.prog 31 #[.string (bs C)] W fun e w' => e = .returned (.tuple #[.agg #[.string xs, .int .i64 xc, .int .i64 xr, .bool xa, .bool xb], .int .i64 er]) ∧ Below W.heap.size W w'))
    (hne : (er != 40) = false) (h7 : ∀ W, Hid (Calls Tryz.prog 33 #[.string (bs C), .string ⟨#[36]⟩] W fun e w' => e = .returned (.bool true) ∧ w' = W)) :
    Calls Tryz.prog 19 #[.string (bs l)] w fun e w' => e = tokR Tk.zero 0 40 ∧ Below w.heap.size w w' := by
  have HZ : ∀ W, Below (w.alloc (.cells z10 34)).heap.size (w.alloc (.cells z10 34)) W → Hid (Row W w.heap.size 34 z10 ∧ Below w.heap.size w W) := fun W hW => one_row w W _ _ hW
  unfold z10 at HZ
  go_enter Tryz.func19, Tryz.ntmps19
  go_wp2_with fail
  refine Calls.mono (h1 _).out ?_
  rintro _ w1 ⟨rfl, q1⟩
  clear h1
  go_wp2_with fail
  refine Calls.mono (h2 _).out ?_
  rintro _ w0 ⟨rfl, hw⟩
  rw [hw]
  clear hw w0 h2
  go_wp2_with fail
  refine Calls.mono (h5 _).out ?_
  rintro _ w3 ⟨rfl, q3⟩
  obtain ⟨hZ, hB⟩ := (HZ _ (q1.trans (q3.mono q1.size))).out
  clear q1 q3 h5 HZ
  go_wp2_with fail
  refine Calls.mono (h7 _).out ?_
  rintro _ w0 ⟨rfl, hw⟩
  rw [hw]
  clear hw w0 h7
  obtain ⟨c0, c1, c2, c3, c4, c5, c6, c7, c8, c9⟩ := hZ.ten
  have fZ := hZ.frozen
  have lZ := hZ.lt
  have hE := (Row.set10 hZ (.int .i64 0) (.int .i64 0) (.string .empty) (.int .i64 0) (.int .i64 0) (.string .empty) (.int .i64 0) (.int .i64 0) (.bool false) (.bool false)).alloc (.cells #[.string xs, .int .i64 xc, .int .i64 xr, .bool xa, .bool xb] 32)
  have hF := below_allocS (below_set10 hB (B := w.heap.size) (Nat.le_refl _) (.int .i64 0) (.int .i64 0) (.string .empty) (.int .i64 0) (.int .i64 0) (.string .empty) (.int .i64 0) (.int .i64 0) (.bool false) (.bool false)) (.cells #[.string xs, .int .i64 xc, .int .i64 xr, .bool xa, .bool xb] 32)
  clear hZ hB
  go_wp2
  exact bodyPost_ret (ret_three_b (u := 3) (u2 := 4) rfl (g := w.heap.size) rfl rfl rfl (load34 hE rfl)) rfl ⟨rfl, hF⟩
set_option maxRecDepth 100000 in
set_option maxHeartbeats 1000000 in
theorem run_ew_n (l C D : List UInt8) (xs : ByteArray) (xc xr : Int) (xa xb : Bool) (er : Int) (w : World)
    (h1 : ∀ W, Hid (Calls Tryz.prog 30 #[.string (bs l), .string ⟨([65, 66, 67, 68, 69, 70, 71, 72, 73, 74, 75, 76, 77, 78, 79, 80, 81, 82, 83, 84, 85, 86, 87, 88, 89, 90, 97, 98, 99, 100, 101, 102, 103, 104, 105, 106, 107, 108, 109, 110, 111, 112, 113, 114, 115, 116, 117, 118, 119, 120, 121, 122, 95, 36, 48, 49, 50, 51, 52, 53, 54, 55, 56, 57, 46].toArray)⟩] W fun e w' => e = .returned (.tuple #[.string (bs C), .string (bs D)]) ∧ Below W.heap.size W w'))
    (h2 : ∀ W, Hid (Calls Tryz.prog 20 #[.string (bs D), .string ⟨#[33]⟩] W fun e w' => e = .returned (.bool false) ∧ w' = W))
    (h5 : ∀ W, Hid (Calls Tryz.prog 31 #[.string (bs C)] W fun e w' => e = .returned (.tuple #[.agg #[.string xs, .int .i64 xc, .int .i64 xr, .bool xa, .bool xb], .int .i64 er]) ∧ Below W.heap.size W w'))
    (hne : (er != 40) = false) (h7 : ∀ W, Hid (Calls Tryz.prog 33 #[.string (bs C), .string ⟨#[36]⟩] W fun e w' => e = .returned (.bool false) ∧ w' = W)) :
    Calls Tryz.prog 19 #[.string (bs l)] w fun e w' => e = tokR ⟨4, 0, C, 0, 0, Rf.zero⟩ (bs C).size 0 ∧ Below w.heap.size w w' := by
  have HZ : ∀ W, Below (w.alloc (.cells z10 34)).heap.size (w.alloc (.cells z10 34)) W → Hid (Row W w.heap.size 34 z10 ∧ Below w.heap.size w W) := fun W hW => one_row w W _ _ hW
  unfold z10 at HZ
  go_enter Tryz.func19, Tryz.ntmps19
  go_wp2_with fail
  refine Calls.mono (h1 _).out ?_
  rintro _ w1 ⟨rfl, q1⟩
  clear h1
  go_wp2_with fail
  refine Calls.mono (h2 _).out ?_
  rintro _ w0 ⟨rfl, hw⟩
  rw [hw]
  clear hw w0 h2
  go_wp2_with fail
  refine Calls.mono (h5 _).out ?_
  rintro _ w3 ⟨rfl, q3⟩
  obtain ⟨hZ, hB⟩ := (HZ _ (q1.trans (q3.mono q1.size))).out
  clear q1 q3 h5 HZ
  go_wp2_with fail
  refine Calls.mono (h7 _).out ?_
  rintro _ w0 ⟨rfl, hw⟩
  rw [hw]
  clear hw w0 h7
  obtain ⟨c0, c1, c2, c3, c4, c5, c6, c7, c8, c9⟩ := hZ.ten
  have fZ := hZ.frozen
  have lZ := hZ.lt
  have hE := (Row.set10 hZ (.int .i64 4) (.int .i64 0) (.string (bs C)) (.int .i64 0) (.int .i64 0) (.string .empty) (.int .i64 0) (.int .i64 0) (.bool false) (.bool false)).alloc (.cells #[.string xs, .int .i64 xc, .int .i64 xr, .bool xa, .bool xb] 32)
  have hF := below_allocS (below_set10 hB (B := w.heap.size) (Nat.le_refl _) (.int .i64 4) (.int .i64 0) (.string (bs C)) (.int .i64 0) (.int .i64 0) (.string .empty) (.int .i64 0) (.int .i64 0) (.bool false) (.bool false)) (.cells #[.string xs, .int .i64 xc, .int .i64 xr, .bool xa, .bool xb] 32)
  clear hZ hB
  go_wp2
  exact bodyPost_ret (ret_three_b (u := 3) (u2 := 4) rfl (g := w.heap.size) rfl rfl rfl (load34 hE rfl)) rfl ⟨rfl, hF⟩
set_option maxRecDepth 100000 in
set_option maxHeartbeats 1000000 in
theorem run_pd_n (l C D : List UInt8) (xs : ByteArray) (xc xr : Int) (xa xb : Bool) (er : Int) (w : World)
    (h1 : ∀ W, Hid (Calls Tryz.prog 30 #[.string (bs l), .string ⟨([65, 66, 67, 68, 69, 70, 71, 72, 73, 74, 75, 76, 77, 78, 79, 80, 81, 82, 83, 84, 85, 86, 87, 88, 89, 90, 97, 98, 99, 100, 101, 102, 103, 104, 105, 106, 107, 108, 109, 110, 111, 112, 113, 114, 115, 116, 117, 118, 119, 120, 121, 122, 95, 36, 48, 49, 50, 51, 52, 53, 54, 55, 56, 57, 46].toArray)⟩] W fun e w' => e = .returned (.tuple #[.string (bs C), .string (bs D)]) ∧ Below W.heap.size W w'))
    (h2 : ∀ W, Hid (Calls Tryz.prog 20 #[.string (bs D), .string ⟨#[33]⟩] W fun e w' => e = .returned (.bool false) ∧ w' = W))
    (h5 : ∀ W, Hid (Calls Tryz.prog 31 #[.string (bs C)] W fun e w' => e = .returned (.tuple #[.agg #[.string xs, .int .i64 xc, .int .i64 xr, .bool xa, .bool xb], .int .i64 er]) ∧ Below W.heap.size W w'))
    (hne : (er != 40) = true) (h6 : ∀ W, Hid (Calls Tryz.prog 20 #[.string (bs D), .string ⟨#[40]⟩] W fun e w' => e = .returned (.bool true) ∧ w' = W)) (h7 : ∀ W, Hid (Calls Tryz.prog 33 #[.string (bs C), .string ⟨#[36]⟩] W fun e w' => e = .returned (.bool true) ∧ w' = W)) :
    Calls Tryz.prog 19 #[.string (bs l)] w fun e w' => e = tokR Tk.zero 0 40 ∧ Below w.heap.size w w' := by
  have HZ : ∀ W, Below (w.alloc (.cells z10 34)).heap.size (w.alloc (.cells z10 34)) W → Hid (Row W w.heap.size 34 z10 ∧ Below w.heap.size w W) := fun W hW => one_row w W _ _ hW
  unfold z10 at HZ
  go_enter Tryz.func19, Tryz.ntmps19
  go_wp2_with fail
  refine Calls.mono (h1 _).out ?_
  rintro _ w1 ⟨rfl, q1⟩
  clear h1
  go_wp2_with fail
  refine Calls.mono (h2 _).out ?_
  rintro _ w0 ⟨rfl, hw⟩
  rw [hw]
  clear hw w0 h2
  go_wp2_with fail
  refine Calls.mono (h5 _).out ?_
  rintro _ w3 ⟨rfl, q3⟩
  obtain ⟨hZ, hB⟩ := (HZ _ (q1.trans (q3.mono q1.size))).out
  clear q1 q3 h5 HZ
  go_wp2_with fail
  refine Calls.mono (h6 _).out ?_
  rintro _ w0 ⟨rfl, hw⟩
  rw [hw]
  clear hw w0 h6
  go_wp2_with fail
  refine Calls.mono (h7 _).out ?_
  rintro _ w0 ⟨rfl, hw⟩
  rw [hw]
  clear hw w0 h7
  obtain ⟨c0, c1, c2, c3, c4, c5, c6, c7, c8, c9⟩ := hZ.ten
  have fZ := hZ.frozen
  have lZ := hZ.lt
  have hE := (Row.set10 hZ (.int .i64 0) (.int .i64 0) (.string .empty) (.int .i64 0) (.int .i64 0) (.string .empty) (.int .i64 0) (.int .i64 0) (.bool false) (.bool false)).alloc (.cells #[.string xs, .int .i64 xc, .int .i64 xr, .bool xa, .bool xb] 32)
  have hF := below_allocS (below_set10 hB (B := w.heap.size) (Nat.le_refl _) (.int .i64 0) (.int .i64 0) (.string .empty) (.int .i64 0) (.int .i64 0) (.string .empty) (.int .i64 0) (.int .i64 0) (.bool false) (.bool false)) (.cells #[.string xs, .int .i64 xc, .int .i64 xr, .bool xa, .bool xb] 32)
  clear hZ hB
  go_wp2
  exact bodyPost_ret (ret_three_b (u := 3) (u2 := 4) rfl (g := w.heap.size) rfl rfl rfl (load34 hE rfl)) rfl ⟨rfl, hF⟩
set_option maxRecDepth 100000 in
set_option maxHeartbeats 1000000 in
theorem run_pw_n (l C D : List UInt8) (xs : ByteArray) (xc xr : Int) (xa xb : Bool) (er : Int) (w : World)
    (h1 : ∀ W, Hid (Calls Tryz.prog 30 #[.string (bs l), .string ⟨([65, 66, 67, 68, 69, 70, 71, 72, 73, 74, 75, 76, 77, 78, 79, 80, 81, 82, 83, 84, 85, 86, 87, 88, 89, 90, 97, 98, 99, 100, 101, 102, 103, 104, 105, 106, 107, 108, 109, 110, 111, 112, 113, 114, 115, 116, 117, 118, 119, 120, 121, 122, 95, 36, 48, 49, 50, 51, 52, 53, 54, 55, 56, 57, 46].toArray)⟩] W fun e w' => e = .returned (.tuple #[.string (bs C), .string (bs D)]) ∧ Below W.heap.size W w'))
    (h2 : ∀ W, Hid (Calls Tryz.prog 20 #[.string (bs D), .string ⟨#[33]⟩] W fun e w' => e = .returned (.bool false) ∧ w' = W))
    (h5 : ∀ W, Hid (Calls Tryz.prog 31 #[.string (bs C)] W fun e w' => e = .returned (.tuple #[.agg #[.string xs, .int .i64 xc, .int .i64 xr, .bool xa, .bool xb], .int .i64 er]) ∧ Below W.heap.size W w'))
    (hne : (er != 40) = true) (h6 : ∀ W, Hid (Calls Tryz.prog 20 #[.string (bs D), .string ⟨#[40]⟩] W fun e w' => e = .returned (.bool true) ∧ w' = W)) (h7 : ∀ W, Hid (Calls Tryz.prog 33 #[.string (bs C), .string ⟨#[36]⟩] W fun e w' => e = .returned (.bool false) ∧ w' = W)) :
    Calls Tryz.prog 19 #[.string (bs l)] w fun e w' => e = tokR ⟨4, 0, C, 0, 0, Rf.zero⟩ (bs C).size 0 ∧ Below w.heap.size w w' := by
  have HZ : ∀ W, Below (w.alloc (.cells z10 34)).heap.size (w.alloc (.cells z10 34)) W → Hid (Row W w.heap.size 34 z10 ∧ Below w.heap.size w W) := fun W hW => one_row w W _ _ hW
  unfold z10 at HZ
  go_enter Tryz.func19, Tryz.ntmps19
  go_wp2_with fail
  refine Calls.mono (h1 _).out ?_
  rintro _ w1 ⟨rfl, q1⟩
  clear h1
  go_wp2_with fail
  refine Calls.mono (h2 _).out ?_
  rintro _ w0 ⟨rfl, hw⟩
  rw [hw]
  clear hw w0 h2
  go_wp2_with fail
  refine Calls.mono (h5 _).out ?_
  rintro _ w3 ⟨rfl, q3⟩
  obtain ⟨hZ, hB⟩ := (HZ _ (q1.trans (q3.mono q1.size))).out
  clear q1 q3 h5 HZ
  go_wp2_with fail
  refine Calls.mono (h6 _).out ?_
  rintro _ w0 ⟨rfl, hw⟩
  rw [hw]
  clear hw w0 h6
  go_wp2_with fail
  refine Calls.mono (h7 _).out ?_
  rintro _ w0 ⟨rfl, hw⟩
  rw [hw]
  clear hw w0 h7
  obtain ⟨c0, c1, c2, c3, c4, c5, c6, c7, c8, c9⟩ := hZ.ten
  have fZ := hZ.frozen
  have lZ := hZ.lt
  have hE := (Row.set10 hZ (.int .i64 4) (.int .i64 0) (.string (bs C)) (.int .i64 0) (.int .i64 0) (.string .empty) (.int .i64 0) (.int .i64 0) (.bool false) (.bool false)).alloc (.cells #[.string xs, .int .i64 xc, .int .i64 xr, .bool xa, .bool xb] 32)
  have hF := below_allocS (below_set10 hB (B := w.heap.size) (Nat.le_refl _) (.int .i64 4) (.int .i64 0) (.string (bs C)) (.int .i64 0) (.int .i64 0) (.string .empty) (.int .i64 0) (.int .i64 0) (.bool false) (.bool false)) (.cells #[.string xs, .int .i64 xc, .int .i64 xr, .bool xa, .bool xb] 32)
  clear hZ hB
  go_wp2
  exact bodyPost_ret (ret_three_b (u := 3) (u2 := 4) rfl (g := w.heap.size) rfl rfl rfl (load34 hE rfl)) rfl ⟨rfl, hF⟩
set_option maxRecDepth 100000 in
set_option maxHeartbeats 1000000 in
theorem run_ref_y (l C D : List UInt8) (xs : ByteArray) (xc xr : Int) (xa xb : Bool) (er : Int) (w : World)
    (h1 : ∀ W, Hid (Calls Tryz.prog 30 #[.string (bs l), .string ⟨([65, 66, 67, 68, 69, 70, 71, 72, 73, 74, 75, 76, 77, 78, 79, 80, 81, 82, 83, 84, 85, 86, 87, 88, 89, 90, 97, 98, 99, 100, 101, 102, 103, 104, 105, 106, 107, 108, 109, 110, 111, 112, 113, 114, 115, 116, 117, 118, 119, 120, 121, 122, 95, 36, 48, 49, 50, 51, 52, 53, 54, 55, 56, 57, 46].toArray)⟩] W fun e w' => e = .returned (.tuple #[.string (bs C), .string (bs D)]) ∧ Below W.heap.size W w'))
    (h2 : ∀ W, Hid (Calls Tryz.prog 20 #[.string (bs D), .string ⟨#[33]⟩] W fun e w' => e = .returned (.bool true) ∧ w' = W))
    (h3 : ∀ W, Hid (Calls Tryz.prog 32 #[.string (bs C), .string ⟨#[36, 46]⟩] W fun e w' => e = .returned (.bool true) ∧ Below W.heap.size W w'))
    (h5 : ∀ W, Hid (Calls Tryz.prog 31 #[.string (bs C)] W fun e w' => e = .returned (.tuple #[.agg #[.string xs, .int .i64 xc, .int .i64 xr, .bool xa, .bool xb], .int .i64 er]) ∧ Below W.heap.size W w'))
    (hne : (er != 40) = true) (h6 : ∀ W, Hid (Calls Tryz.prog 20 #[.string (bs D), .string ⟨#[40]⟩] W fun e w' => e = .returned (.bool false) ∧ w' = W)) :
    Calls Tryz.prog 19 #[.string (bs l)] w fun e w' => e = tokR ⟨3, 0, [], 0, 0, ⟨xs, xc, xr, xa, xb⟩⟩ (bs C).size er ∧ Below w.heap.size w w' := by
  have HZ : ∀ W, Below (w.alloc (.cells z10 34)).heap.size (w.alloc (.cells z10 34)) W → Hid (Row W w.heap.size 34 z10 ∧ Below w.heap.size w W) := fun W hW => one_row w W _ _ hW
  unfold z10 at HZ
  go_enter Tryz.func19, Tryz.ntmps19
  go_wp2_with fail
  refine Calls.mono (h1 _).out ?_
  rintro _ w1 ⟨rfl, q1⟩
  clear h1
  go_wp2_with fail
  refine Calls.mono (h2 _).out ?_
  rintro _ w0 ⟨rfl, hw⟩
  rw [hw]
  clear hw w0 h2
  go_wp2_with fail
  refine Calls.mono (h3 _).out ?_
  rintro _ w2 ⟨rfl, q2⟩
  have q1 := q1.trans (q2.mono q1.size)
  clear h3 q2
  go_wp2_with fail
  refine Calls.mono (h5 _).out ?_
  rintro _ w3 ⟨rfl, q3⟩
  obtain ⟨hZ, hB⟩ := (HZ _ (q1.trans (q3.mono q1.size))).out
  clear q1 q3 h5 HZ
  go_wp2_with fail
  refine Calls.mono (h6 _).out ?_
  rintro _ w0 ⟨rfl, hw⟩
  rw [hw]
  clear hw w0 h6
  obtain ⟨c0, c1, c2, c3, c4, c5, c6, c7, c8, c9⟩ := hZ.ten
  have fZ := hZ.frozen
  have lZ := hZ.lt
  have hE := (Row.set10 hZ (.int .i64 3) (.int .i64 0) (.string .empty) (.int .i64 0) (.int .i64 0) (.string xs) (.int .i64 xc) (.int .i64 xr) (.bool xa) (.bool xb)).alloc (.cells #[.string xs, .int .i64 xc, .int .i64 xr, .bool xa, .bool xb] 32)
  have hF := below_allocS (below_set10 hB (B := w.heap.size) (Nat.le_refl _) (.int .i64 3) (.int .i64 0) (.string .empty) (.int .i64 0) (.int .i64 0) (.string xs) (.int .i64 xc) (.int .i64 xr) (.bool xa) (.bool xb)) (.cells #[.string xs, .int .i64 xc, .int .i64 xr, .bool xa, .bool xb] 32)
  clear hZ hB
  go_wp2
  exact bodyPost_ret (ret_three_b (u := 3) (u2 := 4) rfl (g := w.heap.size) rfl rfl rfl (load34 hE rfl)) rfl ⟨rfl, hF⟩
set_option maxRecDepth 100000 in
set_option maxHeartbeats 1000000 in
theorem run_ed_y (l C D : List UInt8) (xs : ByteArray) (xc xr : Int) (xa xb : Bool) (er : Int) (w : World)
    (h1 : ∀ W, Hid (Calls Tryz.prog 30 #[.string (bs l), .string ⟨([65, 66, 67, 68, 69, 70, 71, 72, 73, 74, 75, 76, 77, 78, 79, 80, 81, 82, 83, 84, 85, 86, 87, 88, 89, 90, 97, 98, 99, 100, 101, 102, 103, 104, 105, 106, 107, 108, 109, 110, 111, 112, 113, 114, 115, 116, 117, 118, 119, 120, 121, 122, 95, 36, 48, 49, 50, 51, 52, 53, 54, 55, 56, 57, 46].toArray)⟩] W fun e w' => e = .returned (.tuple #[.string (bs C), .string (bs D)]) ∧ Below W.heap.size W w'))
    (h2 : ∀ W, Hid (Calls Tryz.prog 20 #[.string (bs D), .string ⟨#[33]⟩] W fun e w' => e = .returned (.bool true) ∧ w' = W))
    (h3 : ∀ W, Hid (Calls Tryz.prog 32 #[.string (bs C), .string ⟨#[36, 46]⟩] W fun e w' => e = .returned (.bool true) ∧ Below W.heap.size W w'))
    (h5 : ∀ W, Hid (Calls Tryz.prog 31 #[.string (bs C)] W fun e w' => e = .returned (.tuple #[.agg #[.string xs, .int .i64 xc, .int .i64 xr, .bool xa, .bool xb], .int .i64 er]) ∧ Below W.heap.size W w'))
    (hne : (er != 40) = false) (h7 : ∀ W, Hid (Calls Tryz.prog 33 #[.string (bs C), .string ⟨#[36]⟩] W fun e w' => e = .returned (.bool true) ∧ w' = W)) :
    Calls Tryz.prog 19 #[.string (bs l)] w fun e w' => e = tokR Tk.zero 0 40 ∧ Below w.heap.size w w' := by
  have HZ : ∀ W, Below (w.alloc (.cells z10 34)).heap.size (w.alloc (.cells z10 34)) W → Hid (Row W w.heap.size 34 z10 ∧ Below w.heap.size w W) := fun W hW => one_row w W _ _ hW
  unfold z10 at HZ
  go_enter Tryz.func19, Tryz.ntmps19
  go_wp2_with fail
  refine Calls.mono (h1 _).out ?_
  rintro _ w1 ⟨rfl, q1⟩
  clear h1
  go_wp2_with fail
  refine Calls.mono (h2 _).out ?_
  rintro _ w0 ⟨rfl, hw⟩
  rw [hw]
  clear hw w0 h2
  go_wp2_with fail
  refine Calls.mono (h3 _).out ?_
  rintro _ w2 ⟨rfl, q2⟩
  have q1 := q1.trans (q2.mono q1.size)
  clear h3 q2
  go_wp2_with fail
  refine Calls.mono (h5 _).out ?_
  rintro _ w3 ⟨rfl, q3⟩
  obtain ⟨hZ, hB⟩ := (HZ _ (q1.trans (q3.mono q1.size))).out
  clear q1 q3 h5 HZ
  go_wp2_with fail
  refine Calls.mono (h7 _).out ?_
  rintro _ w0 ⟨rfl, hw⟩
  rw [hw]
  clear hw w0 h7
  obtain ⟨c0, c1, c2, c3, c4, c5, c6, c7, c8, c9⟩ := hZ.ten
  have fZ := hZ.frozen
  have lZ := hZ.lt
  have hE := (Row.set10 hZ (.int .i64 0) (.int .i64 0) (.string .empty) (.int .i64 0) (.int .i64 0) (.string .empty) (.int .i64 0) (.int .i64 0) (.bool false) (.bool false)).alloc (.cells #[.string xs, .int .i64 xc, .int .i64 xr, .bool xa, .bool xb] 32)
  have hF := below_allocS (below_set10 hB (B := w.heap.size) (Nat.le_refl _) (.int .i64 0) (.int .i64 0) (.string .empty) (.int .i64 0) (.int .i64 0) (.string .empty) (.int .i64 0) (.int .i64 0) (.bool false) (.bool false)) (.cells #[.string xs, .int .i64 xc, .int .i64 xr, .bool xa, .bool xb] 32)
  clear hZ hB
  go_wp2
  exact bodyPost_ret (ret_three_b (u := 3) (u2 := 4) rfl (g := w.heap.size) rfl rfl rfl (load34 hE rfl)) rfl ⟨rfl, hF⟩
set_option maxRecDepth 100000 in
set_option maxHeartbeats 1000000 in
theorem run_ew_y (l C D : List UInt8) (xs : ByteArray) (xc xr : Int) (xa xb : Bool) (er : Int) (w : World)
    (h1 : ∀ W, Hid (Calls Tryz.prog 30 #[.string (bs l), .string ⟨([65, 66, 67, 68, 69, 70, 71, 72, 73, 74, 75, 76, 77, 78, 79, 80, 81, 82, 83, 84, 85, 86, 87, 88, 89, 90, 97, 98, 99, 100, 101, 102, 103, 104, 105, 106, 107, 108, 109, 110, 111, 112, 113, 114, 115, 116, 117, 118, 119, 120, 121, 122, 95, 36, 48, 49, 50, 51, 52, 53, 54, 55, 56, 57, 46].toArray)⟩] W fun e w' => e = .returned (.tuple #[.string (bs C), .string (bs D)]) ∧ Below W.heap.size W w'))
    (h2 : ∀ W, Hid (Calls Tryz.prog 20 #[.string (bs D), .string ⟨#[33]⟩] W fun e w' => e = .returned (.bool true) ∧ w' = W))
    (h3 : ∀ W, Hid (Calls Tryz.prog 32 #[.string (bs C), .string ⟨#[36, 46]⟩] W fun e w' => e = .returned (.bool true) ∧ Below W.heap.size W w'))
    (h5 : ∀ W, Hid (Calls Tryz.prog 31 #[.string (bs C)] W fun e w' => e = .returned (.tuple #[.agg #[.string xs, .int .i64 xc, .int .i64 xr, .bool xa, .bool xb], .int .i64 er]) ∧ Below W.heap.size W w'))
    (hne : (er != 40) = false) (h7 : ∀ W, Hid (Calls Tryz.prog 33 #[.string (bs C), .string ⟨#[36]⟩] W fun e w' => e = .returned (.bool false) ∧ w' = W)) :
    Calls Tryz.prog 19 #[.string (bs l)] w fun e w' => e = tokR ⟨4, 0, C, 0, 0, Rf.zero⟩ (bs C).size 0 ∧ Below w.heap.size w w' := by
  have HZ : ∀ W, Below (w.alloc (.cells z10 34)).heap.size (w.alloc (.cells z10 34)) W → Hid (Row W w.heap.size 34 z10 ∧ Below w.heap.size w W) := fun W hW => one_row w W _ _ hW
  unfold z10 at HZ
  go_enter Tryz.func19, Tryz.ntmps19
  go_wp2_with fail
  refine Calls.mono (h1 _).out ?_
  rintro _ w1 ⟨rfl, q1⟩
  clear h1
  go_wp2_with fail
  refine Calls.mono (h2 _).out ?_
  rintro _ w0 ⟨rfl, hw⟩
  rw [hw]
  clear hw w0 h2
  go_wp2_with fail
  refine Calls.mono (h3 _).out ?_
  rintro _ w2 ⟨rfl, q2⟩
  have q1 := q1.trans (q2.mono q1.size)
  clear h3 q2
  go_wp2_with fail
  refine Calls.mono (h5 _).out ?_
  rintro _ w3 ⟨rfl, q3⟩
  obtain ⟨hZ, hB⟩ := (HZ _ (q1.trans (q3.mono q1.size))).out
  clear q1 q3 h5 HZ
  go_wp2_with fail
  refine Calls.mono (h7 _).out ?_
  rintro _ w0 ⟨rfl, hw⟩
  rw [hw]
  clear hw w0 h7
  obtain ⟨c0, c1, c2, c3, c4, c5, c6, c7, c8, c9⟩ := hZ.ten
  have fZ := hZ.frozen
  have lZ := hZ.lt
  have hE := (Row.set10 hZ (.int .i64 4) (.int .i64 0) (.string (bs C)) (.int .i64 0) (.int .i64 0) (.string .empty) (.int .i64 0) (.int .i64 0) (.bool false) (.bool false)).alloc (.cells #[.string xs, .int .i64 xc, .int .i64 xr, .bool xa, .bool xb] 32)
  have hF := below_allocS (below_set10 hB (B := w.heap.size) (Nat.le_refl _) (.int .i64 4) (.int .i64 0) (.string (bs C)) (.int .i64 0) (.int .i64 0) (.string .empty) (.int .i64 0) (.int .i64 0) (.bool false) (.bool false)) (.cells #[.string xs, .int .i64 xc, .int .i64 xr, .bool xa, .bool xb] 32)
  clear hZ hB
  go_wp2
  exact bodyPost_ret (ret_three_b (u := 3) (u2 := 4) rfl (g := w.heap.size) rfl rfl rfl (load34 hE rfl)) rfl ⟨rfl, hF⟩
set_option maxRecDepth 100000 in
set_option maxHeartbeats 1000000 in
theorem run_pd_y (l C D : List UInt8) (xs : ByteArray) (xc xr : Int) (xa xb : Bool) (er : Int) (w : World)
    (h1 : ∀ W, Hid (Calls Tryz.prog 30 #[.string (bs l), .string ⟨([65, 66, 67, 68, 69, 70, 71, 72, 73, 74, 75, 76, 77, 78, 79, 80, 81, 82, 83, 84, 85, 86, 87, 88, 89, 90, 97, 98, 99, 100, 101, 102, 103, 104, 105, 106, 107, 108, 109, 110, 111, 112, 113, 114, 115, 116, 117, 118, 119, 120, 121, 122, 95, 36, 48, 49, 50, 51, 52, 53, 54, 55, 56, 57, 46].toArray)⟩] W fun e w' => e = .returned (.tuple #[.string (bs C), .string (bs D)]) ∧ Below W.heap.size W w'))
    (h2 : ∀ W, Hid (Calls Tryz.prog 20 #[.string (bs D), .string ⟨#[33]⟩] W fun e w' => e = .returned (.bool true) ∧ w' = W))
    (h3 : ∀ W, Hid (Calls Tryz.prog 32 #[.string (bs C), .string ⟨#[36, 46]⟩] W fun e w' => e = .returned (.bool true) ∧ Below W.heap.size W w'))
    (h5 : ∀ W, Hid (Calls Tryz.prog 31 #[.string (bs C)] W fun e w' => e = .returned (.tuple #[.agg #[.string xs, .int .i64 xc, .int .i64 xr, .bool xa, .bool xb], .int .i64 er]) ∧ Below W.heap.size W w'))
    (hne : (er != 40) = true) (h6 : ∀ W, Hid (Calls Tryz.prog 20 #[.string (bs D), .string ⟨#[40]⟩] W fun e w' => e = .returned (.bool true) ∧ w' = W)) (h7 : ∀ W, Hid (Calls Tryz.prog 33 #[.string (bs C), .string ⟨#[36]⟩] W fun e w' => e = .returned (.bool true) ∧ w' = W)) :
    Calls Tryz.prog 19 #[.string (bs l)] w fun e w' => e = tokR Tk.zero 0 40 ∧ Below w.heap.size w w' := by
  have HZ : ∀ W, Below (w.alloc (.cells z10 34)).heap.size (w.alloc (.cells z10 34)) W → Hid (Row W w.heap.size 34 z10 ∧ Below w.heap.size w W) := fun W hW => one_row w W _ _ hW
  unfold z10 at HZ
  go_enter Tryz.func19, Tryz.ntmps19
  go_wp2_with fail
  refine Calls.mono (h1 _).out ?_
  rintro _ w1 ⟨rfl, q1⟩
  clear h1
  go_wp2_with fail
  refine Calls.mono (h2 _).out ?_
  rintro _ w0 ⟨rfl, hw⟩
  rw [hw]
  clear hw w0 h2
  go_wp2_with fail
  refine Calls.mono (h3 _).out ?_
  rintro _ w2 ⟨rfl, q2⟩
  have q1 := q1.trans (q2.mono q1.size)
  clear h3 q2
  go_wp2_with fail
  refine Calls.mono (h5 _).out ?_
  rintro _ w3 ⟨rfl, q3⟩
  obtain ⟨hZ, hB⟩ := (HZ _ (q1.trans (q3.mono q1.size))).out
  clear q1 q3 h5 HZ
  go_wp2_with fail
  refine Calls.mono (h6 _).out ?_
  rintro _ w0 ⟨rfl, hw⟩
  rw [hw]
  clear hw w0 h6
  go_wp2_with fail
  refine Calls.mono (h7 _).out ?_
  rintro _ w0 ⟨rfl, hw⟩
  rw [hw]
  clear hw w0 h7
  obtain ⟨c0, c1, c2, c3, c4, c5, c6, c7, c8, c9⟩ := hZ.ten
  have fZ := hZ.frozen
  have lZ := hZ.lt
  have hE := (Row.set10 hZ (.int .i64 0) (.int .i64 0) (.string .empty) (.int .i64 0) (.int .i64 0) (.string .empty) (.int .i64 0) (.int .i64 0) (.bool false) (.bool false)).alloc (.cells #[.string xs, .int .i64 xc, .int .i64 xr, .bool xa, .bool xb] 32)
  have hF := below_allocS (below_set10 hB (B := w.heap.size) (Nat.le_refl _) (.int .i64 0) (.int .i64 0) (.string .empty) (.int .i64 0) (.int .i64 0) (.string .empty) (.int .i64 0) (.int .i64 0) (.bool false) (.bool false)) (.cells #[.string xs, .int .i64 xc, .int .i64 xr, .bool xa, .bool xb] 32)
  clear hZ hB
  go_wp2
  exact bodyPost_ret (ret_three_b (u := 3) (u2 := 4) rfl (g := w.heap.size) rfl rfl rfl (load34 hE rfl)) rfl ⟨rfl, hF⟩
set_option maxRecDepth 100000 in
set_option maxHeartbeats 1000000 in
theorem run_pw_y (l C D : List UInt8) (xs : ByteArray) (xc xr : Int) (xa xb : Bool) (er : Int) (w : World)
    (h1 : ∀ W, Hid (Calls Tryz.prog 30 #[.string (bs l), .string ⟨([65, 66, 67, 68, 69, 70, 71, 72, 73, 74, 75, 76, 77, 78, 79, 80, 81, 82, 83, 84, 85, 86, 87, 88, 89, 90, 97, 98, 99, 100, 101, 102, 103, 104, 105, 106, 107, 108, 109, 110, 111, 112, 113, 114, 115, 116, 117, 118, 119, 120, 121, 122, 95, 36, 48, 49, 50, 51, 52, 53, 54, 55, 56, 57, 46].toArray)⟩] W fun e w' => e = .returned (.tuple #[.string (bs C), .string (bs D)]) ∧ Below W.heap.size W w'))
    (h2 : ∀ W, Hid (Calls Tryz.prog 20 #[.string (bs D), .string ⟨#[33]⟩] W fun e w' => e = .returned (.bool true) ∧ w' = W))
    (h3 : ∀ W, Hid (Calls Tryz.prog 32 #[.string (bs C), .string ⟨#[36, 46]⟩] W fun e w' => e = .returned (.bool true) ∧ Below W.heap.size W w'))
    (h5 : ∀ W, Hid (Calls Tryz.prog 31 #[.string (bs C)] W fun e w' => e = .returned (.tuple #[.agg #[.string xs, .int .i64 xc, .int .i64 xr, .bool xa, .bool xb], .int .i64 er]) ∧ Below W.heap.size W w'))
    (hne : (er != 40) = true) (h6 : ∀ W, Hid (Calls Tryz.prog 20 #[.string (bs D), .string ⟨#[40]⟩] W fun e w' => e = .returned (.bool true) ∧ w' = W)) (h7 : ∀ W, Hid (Calls Tryz.prog 33 #[.string (bs C), .string ⟨#[36]⟩] W fun e w' => e = .returned (.bool false) ∧ w' = W)) :
    Calls Tryz.prog 19 #[.string (bs l)] w fun e w' => e = tokR ⟨4, 0, C, 0, 0, Rf.zero⟩ (bs C).size 0 ∧ Below w.heap.size w w' := by
  have HZ : ∀ W, Below (w.alloc (.cells z10 34)).heap.size (w.alloc (.cells z10 34)) W → Hid (Row W w.heap.size 34 z10 ∧ Below w.heap.size w W) := fun W hW => one_row w W _ _ hW
  unfold z10 at HZ
  go_enter Tryz.func19, Tryz.ntmps19
  go_wp2_with fail
  refine Calls.mono (h1 _).out ?_
  rintro _ w1 ⟨rfl, q1⟩
  clear h1
  go_wp2_with fail
  refine Calls.mono (h2 _).out ?_
  rintro _ w0 ⟨rfl, hw⟩
  rw [hw]
  clear hw w0 h2
  go_wp2_with fail
  refine Calls.mono (h3 _).out ?_
  rintro _ w2 ⟨rfl, q2⟩
  have q1 := q1.trans (q2.mono q1.size)
  clear h3 q2
  go_wp2_with fail
  refine Calls.mono (h5 _).out ?_
  rintro _ w3 ⟨rfl, q3⟩
  obtain ⟨hZ, hB⟩ := (HZ _ (q1.trans (q3.mono q1.size))).out
  clear q1 q3 h5 HZ
  go_wp2_with fail
  refine Calls.mono (h6 _).out ?_
  rintro _ w0 ⟨rfl, hw⟩
  rw [hw]
  clear hw w0 h6
  go_wp2_with fail
  refine Calls.mono (h7 _).out ?_
  rintro _ w0 ⟨rfl, hw⟩
  rw [hw]
  clear hw w0 h7
  obtain ⟨c0, c1, c2, c3, c4, c5, c6, c7, c8, c9⟩ := hZ.ten
  have fZ := hZ.frozen
  have lZ := hZ.lt
  have hE := (Row.set10 hZ (.int .i64 4) (.int .i64 0) (.string (bs C)) (.int .i64 0) (.int .i64 0) (.string .empty) (.int .i64 0) (.int .i64 0) (.bool false) (.bool false)).alloc (.cells #[.string xs, .int .i64 xc, .int .i64 xr, .bool xa, .bool xb] 32)
  have hF := below_allocS (below_set10 hB (B := w.heap.size) (Nat.le_refl _) (.int .i64 4) (.int .i64 0) (.string (bs C)) (.int .i64 0) (.int .i64 0) (.string .empty) (.int .i64 0) (.int .i64 0) (.bool false) (.bool false)) (.cells #[.string xs, .int .i64 xc, .int .i64 xr, .bool xa, .bool xb] 32)
  clear hZ hB
  go_wp2
  exact bodyPost_ret (ret_three_b (u := 3) (u2 := 4) rfl (g := w.heap.size) rfl rfl rfl (load34 hE rfl)) rfl ⟨rfl, hF⟩
end Go.Proofs.YtgihginfegckcaaGreatDoor
/- lex's text, onSheet, run, whole. -/
namespace Go.Proofs.YtgihginfegckcaaGreatDoor
open Go.RowKit

theorem qEnd_le (c : UInt8) : ∀ (n : Nat) (l : List UInt8), l.length ≤ n → ∀ k, qEnd c l = some k → 1 ≤ k ∧ k ≤ l.length
  | 0, l, hn, k, h => by
    have : l = [] := List.eq_nil_of_length_eq_zero (by omega)
    subst this
    simp [qEnd] at h
  | n + 1, [], _, k, h => by simp [qEnd] at h
  | n + 1, a :: r, hn, k, h => by
    by_cases e : a = c
    · subst e
      cases r with
      | nil => rw [qEnd_end (by intro b r' h; cases h)] at h; cases h; simp
      | cons b r' =>
        by_cases e2 : b = a
        · subst e2
          rw [qEnd_two] at h
          obtain ⟨j, hj, rfl⟩ := Option.map_eq_some_iff.1 h
          have := qEnd_le b n r' (by simp at hn; omega) j hj
          simp; omega
        · rw [qEnd_end (by intro x y h; cases h; exact e2)] at h; cases h; simp
    · rw [qEnd_other e] at h
      obtain ⟨j, hj, rfl⟩ := Option.map_eq_some_iff.1 h
      have := qEnd_le c n r (by simp at hn; omega) j hj
      simp; omega
theorem quotedN_bd (l : List UInt8) : quotedN l = 0 ∨ (2 ≤ quotedN l ∧ quotedN l ≤ l.length) := by
  unfold quotedN
  cases l with
  | nil => left; rfl
  | cons c r =>
    simp only
    cases h : qEnd c r with
    | none => left; rfl
    | some k =>
      right
      have := qEnd_le c r.length r (Nat.le_refl _) k h
      simp; omega
theorem text_any (c : UInt8) (r : List UInt8) (hl : (c :: r).length ≤ 1000000) (w : World) (hE : LexE w) :
    Calls Tryz.prog 16 #[.string (bs (c :: r))] w fun e w' => e = tokR (textR (c :: r)).1 (textR (c :: r)).2.1 (textR (c :: r)).2.2 ∧ Below w.heap.size w w' := by
  have h1 : ∀ W, Hid (Calls Tryz.prog 18 #[.string (bs (c :: r))] W fun e w' => e = .returned (.int .i64 ((quotedN (c :: r) : Nat) : Int)) ∧ w' = W) := fun W => quoted_any c r (by omega) W
  have hb := quotedN_bd (c :: r)
  unfold textR
  by_cases h0 : quotedN (c :: r) = 0
  · rw [if_pos h0]
    rw [h0] at h1
    exact text_no (c :: r) w h1
  · rw [if_neg h0]
    have hn : 2 ≤ quotedN (c :: r) ∧ quotedN (c :: r) ≤ (c :: r).length := by omega
    have h2 : ∀ W, Below w.heap.size w W → Hid (Calls Tryz.prog 23 #[.string ((bs (c :: r)).extract 1 (quotedN (c :: r) - 1)), .string ⟨#[34, 34]⟩, .string ⟨#[34]⟩] W fun e w' => e = .returned (.string (bs (innerL (c :: r)))) ∧ Below W.heap.size W w') := fun W hW => by
      have ex : (bs (c :: r)).extract 1 (quotedN (c :: r) - 1) = bs (((c :: r).take (quotedN (c :: r) - 1)).drop 1) := by
        refine bs_ext ?_
        rw [Lib.extract_data]
        show List.take (quotedN (c :: r) - 1 - 1) (List.drop 1 (c :: r)) = _
        rw [List.drop_take]
      rw [ex]
      obtain ⟨m, hm⟩ := (hE.below hW).max
      have hlen : (((c :: r).take (quotedN (c :: r) - 1)).drop 1).length ≤ 1000000 := by simp; simp at hl; omega
      generalize hX : ((c :: r).take (quotedN (c :: r) - 1)).drop 1 = X at hlen
      have hc := Lib.countB_le ⟨#[34, 34]⟩ (by decide) (bs X).size (bs X) (Nat.le_refl _)
      have hs := bs_size X
      have := Tryz.strings_ReplaceAll (bs X) ⟨#[34, 34]⟩ ⟨#[34]⟩ m W (by omega) hm (by decide) (by
        have : (⟨#[34]⟩ : ByteArray).size = 1 := rfl
        rw [this]; omega)
      unfold innerL
      rw [hX]
      exact this
    have hsz : (bs (c :: r)).size ≤ 1000000 := by rw [bs_size]; exact hl
    by_cases hI : 255 < (innerL (c :: r)).length
    · rw [if_pos hI]
      exact text_big (c :: r) (innerL (c :: r)) _ w hn.1 (by rw [bs_size]; exact hn.2) hsz h1 h2 (by rw [bs_size]; exact hI)
    · rw [if_neg hI]
      exact text_ok (c :: r) (innerL (c :: r)) _ _ w hn.1 (by rw [bs_size]; exact hn.2) hsz h1 h2 (fun W => pxml_any (bs (innerL (c :: r))) W) (by rw [bs_size]; omega)
theorem onSheet_any (l : List UInt8) (n : Nat) (hn : n ≤ l.length) (hl : l.length ≤ 1000000) (w : World) :
    Calls Tryz.prog 17 #[.string (bs l), .int .i64 (n : Int)] w fun e w' => e = tokR (onSheetR l n).1 (onSheetR l n).2.1 (onSheetR l n).2.2 ∧ Below w.heap.size w w' := by
  have h1 : ∀ W, Hid (Calls Tryz.prog 29 #[.string ((bs l).extract n (bs l).size), .string ⟨#[33]⟩] W fun e w' => e = .returned (.tuple #[.string (bs (Lib.trimPrefix (l.drop n) [33])), .bool (Lib.hasPrefix (l.drop n) [33])]) ∧ w' = W) := fun W => by
    rw [bs_drop]
    exact Tryz.strings_CutPrefix (bs (l.drop n)) (bs [33]) W
  have hs := bs_size l
  unfold onSheetR
  cases hp : Lib.hasPrefix (l.drop n) [33]
  · rw [hp] at h1
    exact onSheet_no l _ n w (by omega) h1
  · rw [hp] at h1
    simp only [if_true]
    have ht : (Lib.trimPrefix (l.drop n) [33]).length + n + 1 = l.length := by
      unfold Lib.trimPrefix
      rw [hp]
      simp only [if_true, List.length_drop, List.length_cons, List.length_nil]
      have : l.drop n ≠ [] := by intro e; rw [e] at hp; simp [Lib.hasPrefix] at hp
      have : n < l.length := by
        by_cases h : n < l.length
        · exact h
        · exact absurd (List.drop_eq_nil_of_le (by omega)) this
      omega
    have ha := ahead_len (Lib.trimPrefix (l.drop n) [33]) plcL
    have hk : (n : Int) + 1 + ((bs (aheadL (Lib.trimPrefix (l.drop n) [33]) plcL)).size : Int) = (shN l n : Int) := by rw [bs_size]; unfold shN; omega
    have hk2 : shN l n ≤ (bs l).size := by rw [bs_size]; unfold shN; omega
    refine onSheet_ok l _ _ _ n (shN l n) _ _ _ _ _ _ w (by omega) (by omega) hk hk2 h1 (fun W => lexAhead_any _ plcL (by omega) (by decide) (by decide) W) (fun W => ?_)
    rw [bs_take]
    exact parse_any (l.take (shN l n)) (by simp; omega) W
theorem wth_ascii {l : List UInt8} : ∀ (j : Nat) b, (aheadL l wthL)[j]? = some b → b.toNat < 128 := by
  intro j b hb
  have h1 := ahead_mem (List.mem_of_getElem? hb)
  have h2 : wthL.all (fun b => decide (b.toNat < 128)) = true := by decide
  have := List.all_eq_true.1 h2 b (by simpa using h1)
  simpa using this
theorem run_any (l : List UInt8) (hl : l.length ≤ 1000000) (w : World) :
    Calls Tryz.prog 19 #[.string (bs l)] w fun e w' => e = tokR (runR l).1 (runR l).2.1 (runR l).2.2 ∧ Below w.heap.size w w' := by
  have ha := ahead_len l wthL
  have h1 : ∀ W, Hid (Calls Tryz.prog 30 #[.string (bs l), .string (bs wthL)] W fun e w' => e = .returned (.tuple #[.string (bs (aheadL l wthL)), .string (bs (behindL l wthL))]) ∧ Below W.heap.size W w') := fun W => lexAhead_any l wthL (by omega) (by decide) (by decide) W
  have h2 : ∀ W, Hid (Calls Tryz.prog 20 #[.string (bs (behindL l wthL)), .string ⟨#[33]⟩] W fun e w' => e = .returned (.bool (Lib.hasPrefix (behindL l wthL) [33])) ∧ w' = W) := fun W => Tryz.strings_HasPrefix (bs (behindL l wthL)) (bs [33]) W
  have h6 : ∀ W, Hid (Calls Tryz.prog 20 #[.string (bs (behindL l wthL)), .string ⟨#[40]⟩] W fun e w' => e = .returned (.bool (Lib.hasPrefix (behindL l wthL) [40])) ∧ w' = W) := fun W => Tryz.strings_HasPrefix (bs (behindL l wthL)) (bs [40]) W
  have h3 : ∀ W, Hid (Calls Tryz.prog 32 #[.string (bs (aheadL l wthL)), .string ⟨#[36, 46]⟩] W fun e w' => e = .returned (.bool (Lib.containsAny (aheadL l wthL) [36, 46])) ∧ Below W.heap.size W w') := fun W => Tryz.strings_ContainsAny_laid (bs (aheadL l wthL)) (bs [36, 46]) W (by rw [bs_size]; omega) (by decide) wth_ascii (fun j b hb => by
    have := List.all_eq_true.1 (show ([36, 46] : List UInt8).all (fun b => decide (b.toNat < 128)) = true by decide) b (List.mem_of_getElem? hb)
    simpa using this)
  have h5 : ∀ W, Hid (Calls Tryz.prog 31 #[.string (bs (aheadL l wthL))] W fun e w' => e = .returned (.tuple #[(parseR (aheadL l wthL)).1.v, .int .i64 (parseR (aheadL l wthL)).2]) ∧ Below W.heap.size W w') := fun W => parse_any (aheadL l wthL) (by omega) W
  have h7 : ∀ W, Hid (Calls Tryz.prog 33 #[.string (bs (aheadL l wthL)), .string ⟨#[36]⟩] W fun e w' => e = .returned (.bool ((aheadL l wthL).contains 36)) ∧ w' = W) := fun W => by
    rw [← indexByte_has]
    exact Tryz.strings_Contains_one (bs (aheadL l wthL)) 36 W
  have hsh : ∀ W, Hid (Calls Tryz.prog 17 #[.string (bs l), .int .i64 ((bs (aheadL l wthL)).size : Int)] W fun e w' => e = tokR (onSheetR l (aheadL l wthL).length).1 (onSheetR l (aheadL l wthL).length).2.1 (onSheetR l (aheadL l wthL).length).2.2 ∧ Below W.heap.size W w') := fun W => by
    rw [bs_size]
    exact onSheet_any l _ (by omega) hl W
  have hbs : (bs (aheadL l wthL)).size = (aheadL l wthL).length := bs_size _
  unfold runR
  rw [← hbs]
  rw [hbs]
  generalize onSheetR l (aheadL l wthL).length = O at *
  generalize Lib.hasPrefix (behindL l wthL) [33] = g2 at *
  generalize Lib.hasPrefix (behindL l wthL) [40] = g6 at *
  generalize Lib.containsAny (aheadL l wthL) [36, 46] = g3 at *
  generalize (aheadL l wthL).contains 36 = g7 at *
  generalize parseR (aheadL l wthL) = p at *
  generalize aheadL l wthL = C at *
  generalize behindL l wthL = D at *
  rw [← hbs]
  have e4 : (p.2 != 40) = !decide (p.2 = 40) := by
    by_cases h : p.2 = 40
    · rw [h]; rfl
    · rw [decide_eq_false h]; simpa using h
  obtain ⟨⟨xs, xc, xr, xa, xb⟩, er⟩ := p
  simp only at *
  unfold Rf.v at h5
  simp only at h5
  cases g2
  · simp only [Bool.false_and, Bool.false_eq_true, if_false]
    cases hq : decide (er = 40)
    · rw [hq] at e4
      cases g6
      · exact run_ref_n l C D xs xc xr xa xb er w h1 h2 h5 e4 h6
      · cases g7
        · exact run_pw_n l C D xs xc xr xa xb er w h1 h2 h5 e4 h6 h7
        · exact run_pd_n l C D xs xc xr xa xb er w h1 h2 h5 e4 h6 h7
    · rw [hq] at e4
      cases g7
      · exact run_ew_n l C D xs xc xr xa xb er w h1 h2 h5 e4 h7
      · exact run_ed_n l C D xs xc xr xa xb er w h1 h2 h5 e4 h7
  · cases g3
    · exact run_sheet l C D _ _ _ w h1 h2 h3 hsh
    · simp only [Bool.not_true, Bool.and_false, Bool.false_eq_true, if_false]
      cases hq : decide (er = 40)
      · rw [hq] at e4
        cases g6
        · exact run_ref_y l C D xs xc xr xa xb er w h1 h2 h3 h5 e4 h6
        · cases g7
          · exact run_pw_y l C D xs xc xr xa xb er w h1 h2 h3 h5 e4 h6 h7
          · exact run_pd_y l C D xs xc xr xa xb er w h1 h2 h3 h5 e4 h6 h7
      · rw [hq] at e4
        cases g7
        · exact run_ew_y l C D xs xc xr xa xb er w h1 h2 h3 h5 e4 h7
        · exact run_ed_y l C D xs xc xr xa xb er w h1 h2 h3 h5 e4 h7
end Go.Proofs.YtgihginfegckcaaGreatDoor
/- lex's tokens, one behind the other (pure). -/
namespace Go.Proofs.YtgihginfegckcaaGreatDoor
open Go.RowKit

/-- The signs that a word begins with. -/
def bgnL : List UInt8 := [65, 66, 67, 68, 69, 70, 71, 72, 73, 74, 75, 76, 77, 78, 79, 80, 81, 82, 83, 84, 85, 86, 87, 88, 89, 90, 97, 98, 99, 100, 101, 102, 103, 104, 105, 106, 107, 108, 109, 110, 111, 112, 113, 114, 115, 116, 117, 118, 119, 120, 121, 122, 95, 36]
def lostL : List UInt8 := [35, 82, 69, 70, 33]
/-- The token that a text begins with, how many signs it has, or what is wrong. -/
def oneR (l : List UInt8) : Tk × Nat × Int := match l with
  | [] => (Tk.zero, 0, 40)
  | a :: r => if digL.contains a then numberR (a :: r) else if a = 34 then textR (a :: r) else if a = 39 then onSheetR (a :: r) (quotedN (a :: r)) else if bgnL.contains a then runR (a :: r)
    else if Lib.hasPrefix (a :: r) lostL then (⟨6, 0, [], 0, 0, Rf.zero⟩, 5, 0) else match markR (a :: r) with
      | some m => (⟨5, 0, m, 0, 0, Rf.zero⟩, m.length, 0)
      | none => (Tk.zero, 0, 40)
def Tk.put (t : Tk) (p : Nat) : Tk := ⟨t.k, (p : Int), t.s, t.c, t.e, t.r⟩
/-- The tokens behind a place, the ones ahead of it being there. -/
def lexG : Nat → List UInt8 → Nat → List Tk → List Tk × Nat × Int
  | 0, _, _, acc => (acc, 0, 0)
  | _ + 1, [], _, acc => (acc, 0, 0)
  | f + 1, a :: r, p, acc => if a = 32 then lexG f r (p + 1) acc else if (oneR (a :: r)).2.2 = 0 then lexG f ((a :: r).drop (oneR (a :: r)).2.1) (p + (oneR (a :: r)).2.1) (acc ++ [(oneR (a :: r)).1.put p]) else ([], p, (oneR (a :: r)).2.2)
def lexR (l : List UInt8) : List Tk × Nat × Int := if 512 < l.length then ([], 0, 3) else lexG (l.length + 1) l 0 []
theorem pre_len {l p : List UInt8} (h : Lib.hasPrefix l p = true) : p.length ≤ l.length := by
  unfold Lib.hasPrefix at h
  exact (List.isPrefixOf_iff_prefix.1 h).length_le
theorem ahead_pos {a : UInt8} {r cs : List UInt8} (h : cs.contains a = true) : 1 ≤ (aheadL (a :: r) cs).length := by
  unfold aheadL
  rw [List.takeWhile_cons, if_pos h]
  simp
theorem marks_pos : ∀ m ∈ marksL, 1 ≤ m.length := by decide
theorem bgn_wth : bgnL.all (fun b => wthL.contains b) = true := by decide
theorem onSheetR_adv {l : List UInt8} {n : Nat} (hn : n ≤ l.length) (h : (onSheetR l n).2.2 = 0) : 1 ≤ (onSheetR l n).2.1 ∧ (onSheetR l n).2.1 ≤ l.length := by
  unfold onSheetR at h ⊢
  cases hp : Lib.hasPrefix (l.drop n) [33]
  · rw [hp] at h; simp at h
  · simp only [if_true]
    have h1 := pre_len hp
    have ha := ahead_len (Lib.trimPrefix (l.drop n) [33]) plcL
    have ht : (Lib.trimPrefix (l.drop n) [33]).length + n + 1 = l.length := by
      unfold Lib.trimPrefix
      rw [hp]
      simp only [if_true, List.length_drop, List.length_cons, List.length_nil] at h1 ⊢
      omega
    unfold shN
    omega
theorem oneR_adv {l : List UInt8} (h : (oneR l).2.2 = 0) : 1 ≤ (oneR l).2.1 ∧ (oneR l).2.1 ≤ l.length := by
  cases l with
  | nil => simp [oneR] at h
  | cons a r =>
    unfold oneR at h ⊢
    simp only at h ⊢
    by_cases h1 : digL.contains a = true
    · rw [if_pos h1] at h ⊢
      have g0 : (numA (a :: r)).length < (a :: r).length := by
        unfold numA pastD
        have hp := ahead_pos (r := r) h1
        have ha := ahead_len (a :: r) digL
        rw [if_neg (by intro e; rw [List.isEmpty_iff] at e; rw [e] at hp; simp at hp)]
        omega
      have g1 := cutO_len (numA (a :: r)) [46]
      have g2 : (numB (a :: r)).length ≤ (numA (a :: r)).length := by
        unfold numB
        split
        · exact pastD_len _ _ g1
        · exact Nat.le_refl _
      have g3 := cutO_len (numB (a :: r)) [69, 101]
      have g4 := cutO_len (cutO (numB (a :: r)) [69, 101]).1 [43, 45]
      have g5 : (numC (a :: r)).length ≤ (numB (a :: r)).length := by
        unfold numC
        split
        · exact pastD_len _ _ (by omega)
        · exact Nat.le_refl _
      unfold numberR numN
      simp only
      omega
    · rw [if_neg h1] at h ⊢
      by_cases h2 : a = 34
      · rw [if_pos h2] at h ⊢
        have hb := quotedN_bd (a :: r)
        unfold textR at h ⊢
        by_cases h0 : quotedN (a :: r) = 0
        · rw [if_pos h0] at h; simp at h
        · rw [if_neg h0] at h ⊢
          by_cases hI : 255 < (innerL (a :: r)).length
          · rw [if_pos hI] at h; simp at h
          · rw [if_neg hI]
            simp only
            omega
      · rw [if_neg h2] at h ⊢
        by_cases h3 : a = 39
        · rw [if_pos h3] at h ⊢
          exact onSheetR_adv (by rcases quotedN_bd (a :: r) with e | e <;> omega) h
        · rw [if_neg h3] at h ⊢
          by_cases h4 : bgnL.contains a = true
          · rw [if_pos h4] at h ⊢
            have hw : wthL.contains a = true := List.all_eq_true.1 bgn_wth a (by simpa using h4)
            have hp := ahead_pos (r := r) hw
            have ha := ahead_len (a :: r) wthL
            unfold runR at h ⊢
            generalize (Lib.hasPrefix (behindL (a :: r) wthL) [33] && !Lib.containsAny (aheadL (a :: r) wthL) [36, 46]) = q1 at h ⊢
            generalize (!decide ((parseR (aheadL (a :: r) wthL)).2 = 40) && !Lib.hasPrefix (behindL (a :: r) wthL) [40]) = q2 at h ⊢
            generalize (aheadL (a :: r) wthL).contains 36 = q3 at h ⊢
            cases q1
            · cases q2
              · cases q3
                · simp only [Bool.false_eq_true, if_false]; omega
                · simp at h
              · simp only [Bool.false_eq_true, if_false, if_true]; omega
            · simp only [if_true] at h ⊢
              exact onSheetR_adv (by omega) h
          · rw [if_neg h4] at h ⊢
            by_cases h5 : Lib.hasPrefix (a :: r) lostL = true
            · rw [if_pos h5] at h ⊢
              have := pre_len h5
              simp only [lostL, List.length_cons, List.length_nil] at this ⊢
              omega
            · rw [if_neg h5] at h ⊢
              cases hm : markR (a :: r) with
              | none => rw [hm] at h; simp at h
              | some m =>
                simp only
                unfold markR at hm
                have hx := List.find?_some hm
                have := pre_len hx
                exact ⟨marks_pos m (List.mem_of_find?_eq_some hm), this⟩
end Go.Proofs.YtgihginfegckcaaGreatDoor
