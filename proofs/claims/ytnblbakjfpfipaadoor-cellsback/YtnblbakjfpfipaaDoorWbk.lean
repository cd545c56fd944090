/- CellsBack, walked. -/
import Derived.Test.YtnblbakjfpfipaaDoorPps
import Derived.Test.YtnblbakjfpfipaaDoorWal
import Derived.Test.YtnblbakjfpfipaaDoorWthp
namespace Go.Proofs.YtnblbakjfpfipaaDoor
open Go.RowKit

theorem nsame23 (s : ByteArray) (c r : Int) (a b : Bool) (W : World) : (binOp .neq 23 (.agg #[.string s, .int .i64 c, .int .i64 r, .bool a, .bool b]) (.agg #[.string s, .int .i64 c, .int .i64 r, .bool a, .bool b])).run Tryd.prog W = .ok (.bool false) W := by
  have h := same23 s c r a b W
  rw [run_eql_struct] at h
  rw [run_neq_struct]
  generalize (Op.equalIn 10000 23 (.agg #[.string s, .int .i64 c, .int .i64 r, .bool a, .bool b]) (.agg #[.string s, .int .i64 c, .int .i64 r, .bool a, .bool b])).run Tryd.prog W = q at h ⊢
  cases q with
  | ok v w' =>
    simp only [Result.andThen] at h ⊢
    cases v <;> simp_all
  | halt x w' => simp [Result.andThen] at h
set_option maxRecDepth 100000 in
set_option maxHeartbeats 4000000 in
theorem bk_1e (sa sb xs : ByteArray) (ca ra cb rb xc xr : Int) (aca ara acb arb xa xb : Bool) (l : List UInt8) (er : Int) (her : er ≠ 0) (w : World) (hE : Env w)
    (HRa : ∀ W, Hid (Calls Tryd.prog 5 #[.agg #[.string sa, .int .i64 ca, .int .i64 ra, .bool aca, .bool ara]] W fun e w' => e = .returned (.bool false) ∧ Below W.heap.size W w'))
    (HQs : ∀ W, Hid (Calls Tryd.prog 6 #[.string (bs l)] W fun e w' => e = .returned (.tuple #[.agg #[.string xs, .int .i64 xc, .int .i64 xr, .bool xa, .bool xb], .int .i64 er]) ∧ Below W.heap.size W w'))
    (HAl : ∀ W, Env W → Hid (Calls Tryd.prog 10 #[] W fun e w' => e = .returned (.bool true) ∧ Below W.heap.size W w')) :
    Calls Tryd.prog 3 #[.agg #[.string sa, .int .i64 ca, .int .i64 ra, .bool aca, .bool ara], .agg #[.string sb, .int .i64 cb, .int .i64 rb, .bool acb, .bool arb], .string (bs l)] w fun e w' => e = .returned (.bool true) ∧ Below w.heap.size w w' := by
  go_enter Tryd.func3, Tryd.ntmps3
  go_wp2_with fail
  refine Calls.mono (HRa _).out ?_
  rintro _ w1 ⟨rfl, b1⟩
  obtain ⟨hA, hC, hB⟩ := two_rows w w1 _ _ _ _ b1
  clear b1 HRa
  go_wp2_with fail
  refine Calls.mono (HQs _).out ?_
  rintro _ t1 ⟨rfl, bt⟩
  have hX := Row.new t1 23 #[.string xs, .int .i64 xc, .int .i64 xr, .bool xa, .bool xb]
  have hBt := below_allocS (hB.trans (bt.mono hB.size)) (.cells #[.string xs, .int .i64 xc, .int .i64 xr, .bool xa, .bool xb] 23)
  clear bt HQs
  have hne : (er != 0) = true := by simpa using her
  clear her
  go_wp2_with fail
  all_goals first | (exfalso; apply undef_bool; assumption) | skip
  refine Calls.mono (HAl _ (hE.below hBt)).out ?_
  rintro _ t2 ⟨rfl, bt⟩
  clear HAl
  go_wp2
  go_ret
  exact ⟨rfl, hBt.trans (bt.mono hBt.size)⟩
set_option maxRecDepth 100000 in
set_option maxHeartbeats 4000000 in
theorem bk_1o (sa sb xs : ByteArray) (ca ra cb rb xc xr : Int) (aca ara acb arb xa xb : Bool) (l : List UInt8) (w : World) (hE : Env w)
    (HRa : ∀ W, Hid (Calls Tryd.prog 5 #[.agg #[.string sa, .int .i64 ca, .int .i64 ra, .bool aca, .bool ara]] W fun e w' => e = .returned (.bool false) ∧ Below W.heap.size W w'))
    (HQs : ∀ W, Hid (Calls Tryd.prog 6 #[.string (bs l)] W fun e w' => e = .returned (.tuple #[.agg #[.string xs, .int .i64 xc, .int .i64 xr, .bool xa, .bool xb], .int .i64 0]) ∧ Below W.heap.size W w'))
    (HPx : ∀ W, Env W → Hid (Calls Tryd.prog 7 #[.agg #[.string xs, .int .i64 xc, .int .i64 xr, .bool xa, .bool xb]] W fun e w' => e = .returned (.string (bs l)) ∧ Below W.heap.size W w'))
    (HRx : ∀ W, Hid (Calls Tryd.prog 5 #[.agg #[.string xs, .int .i64 xc, .int .i64 xr, .bool xa, .bool xb]] W fun e w' => e = .returned (.bool true) ∧ Below W.heap.size W w'))
    (HAl : ∀ W, Env W → Hid (Calls Tryd.prog 10 #[] W fun e w' => e = .returned (.bool true) ∧ Below W.heap.size W w')) :
    Calls Tryd.prog 3 #[.agg #[.string sa, .int .i64 ca, .int .i64 ra, .bool aca, .bool ara], .agg #[.string sb, .int .i64 cb, .int .i64 rb, .bool acb, .bool arb], .string (bs l)] w fun e w' => e = .returned (.bool true) ∧ Below w.heap.size w w' := by
  go_enter Tryd.func3, Tryd.ntmps3
  go_wp2_with fail
  refine Calls.mono (HRa _).out ?_
  rintro _ w1 ⟨rfl, b1⟩
  obtain ⟨hA, hC, hB⟩ := two_rows w w1 _ _ _ _ b1
  clear b1 HRa
  go_wp2_with fail
  refine Calls.mono (HQs _).out ?_
  rintro _ t1 ⟨rfl, bt⟩
  have hX := Row.new t1 23 #[.string xs, .int .i64 xc, .int .i64 xr, .bool xa, .bool xb]
  have hBt := below_allocS (hB.trans (bt.mono hB.size)) (.cells #[.string xs, .int .i64 xc, .int .i64 xr, .bool xa, .bool xb] 23)
  clear bt HQs
  obtain ⟨x0, x1, x2, x3, x4⟩ := hX.five
  go_wp2_with fail
  refine Calls.mono (HPx _ (hE.below hBt)).out ?_
  rintro _ t2 ⟨rfl, bt⟩
  have hX2 := hX.below bt hX.lt
  have hBu := hBt.trans (bt.mono hBt.size)
  clear bt HPx hX hBt x0 x1 x2 x3 x4
  obtain ⟨x0, x1, x2, x3, x4⟩ := hX2.five
  have hll : ((bs l).toList == (bs l).toList) = true := by simp
  go_wp2_with fail
  refine Calls.mono (HRx _).out ?_
  rintro _ t3 ⟨rfl, bt⟩
  have hBv := hBu.trans (bt.mono hBu.size)
  clear bt HRx hX2 hBu x0 x1 x2 x3 x4 hll
  go_wp2_with fail
  refine Calls.mono (HAl _ (hE.below hBv)).out ?_
  rintro _ t4 ⟨rfl, bt⟩
  clear HAl
  go_wp2
  go_ret
  exact ⟨rfl, hBv.trans (bt.mono hBv.size)⟩
set_option maxRecDepth 100000 in
set_option maxHeartbeats 4000000 in
theorem bk_2e (sa sb xs : ByteArray) (ca ra cb rb xc xr : Int) (aca ara acb arb xa xb : Bool) (l : List UInt8) (pa : List UInt8) (er : Int) (her : er ≠ 0) (w : World) (hE : Env w)
    (HRa : ∀ W, Hid (Calls Tryd.prog 5 #[.agg #[.string sa, .int .i64 ca, .int .i64 ra, .bool aca, .bool ara]] W fun e w' => e = .returned (.bool true) ∧ Below W.heap.size W w'))
    (HPa : ∀ W, Env W → Hid (Calls Tryd.prog 7 #[.agg #[.string sa, .int .i64 ca, .int .i64 ra, .bool aca, .bool ara]] W fun e w' => e = .returned (.string (bs pa)) ∧ Below W.heap.size W w'))
    (HQa : ∀ W, Hid (Calls Tryd.prog 6 #[.string (bs pa)] W fun e w' => e = .returned (.tuple #[.agg #[.string sa, .int .i64 ca, .int .i64 ra, .bool aca, .bool ara], .int .i64 0]) ∧ Below W.heap.size W w'))
    (HRb : ∀ W, Hid (Calls Tryd.prog 5 #[.agg #[.string sa, .int .i64 cb, .int .i64 rb, .bool acb, .bool arb]] W fun e w' => e = .returned (.bool false) ∧ Below W.heap.size W w'))
    (HQs : ∀ W, Hid (Calls Tryd.prog 6 #[.string (bs l)] W fun e w' => e = .returned (.tuple #[.agg #[.string xs, .int .i64 xc, .int .i64 xr, .bool xa, .bool xb], .int .i64 er]) ∧ Below W.heap.size W w'))
    (HAl : ∀ W, Env W → Hid (Calls Tryd.prog 10 #[] W fun e w' => e = .returned (.bool true) ∧ Below W.heap.size W w')) :
    Calls Tryd.prog 3 #[.agg #[.string sa, .int .i64 ca, .int .i64 ra, .bool aca, .bool ara], .agg #[.string sb, .int .i64 cb, .int .i64 rb, .bool acb, .bool arb], .string (bs l)] w fun e w' => e = .returned (.bool true) ∧ Below w.heap.size w w' := by
  go_enter Tryd.func3, Tryd.ntmps3
  go_wp2_with fail
  refine Calls.mono (HRa _).out ?_
  rintro _ w1 ⟨rfl, b1⟩
  obtain ⟨hA, hC, hB⟩ := two_rows w w1 _ _ _ _ b1
  clear b1 HRa
  obtain ⟨a0, a1, a2, a3, a4⟩ := hA.five
  go_wp2_with fail
  refine Calls.mono (HPa _ (hE.below hB)).out ?_
  rintro _ w2 ⟨rfl, b2⟩
  have hA2 := hA.below b2 hA.lt
  have hC2 := hC.below b2 hC.lt
  have hB2 := hB.trans (b2.mono hB.size)
  clear b2 HPa hA hC hB a0 a1 a2 a3 a4
  go_wp2_with fail
  refine Calls.mono (HQa _).out ?_
  rintro _ w3 ⟨rfl, b3⟩
  have hA3 := (hA2.below b3 hA2.lt).alloc (.cells #[.string sa, .int .i64 ca, .int .i64 ra, .bool aca, .bool ara] 23)
  have hC3 := (hC2.below b3 hC2.lt).alloc (.cells #[.string sa, .int .i64 ca, .int .i64 ra, .bool aca, .bool ara] 23)
  have hC3o := hC2.below b3 hC2.lt
  have hA3o := hA2.below b3 hA2.lt
  have hB3 := below_allocS (hB2.trans (b3.mono hB2.size)) (.cells #[.string sa, .int .i64 ca, .int .i64 ra, .bool aca, .bool ara] 23)
  have hB3o := hB2.trans (b3.mono hB2.size)
  clear b3 HQa hA2 hC2 hB2
  obtain ⟨a0, a1, a2, a3, a4⟩ := hA3.five
  obtain ⟨c0, c1, c2, c3, c4⟩ := hC3.five
  have fz := hC3.frozen
  obtain ⟨p0, p1, p2, p3, p4⟩ := hC3o.five
  have fzo := hC3o.frozen
  have hlo := hC3o.lt
  have qn := nsame23 sa ca ra aca ara
  have hC4 := (hC3o.set 0 (.string sa)).alloc (.cells #[.string sa, .int .i64 ca, .int .i64 ra, .bool aca, .bool ara] 23)
  have hA4 := (hA3o.off (B' := w.heap.size + 1) 0 (.string sa) (by omega)).alloc (.cells #[.string sa, .int .i64 ca, .int .i64 ra, .bool aca, .bool ara] 23)
  have hB4 := below_allocS (below_set hB3o (B := w.heap.size + 1) 0 (.string sa) (by omega)) (.cells #[.string sa, .int .i64 ca, .int .i64 ra, .bool aca, .bool ara] 23)
  change Row _ _ _ #[.string sa, .int .i64 cb, .int .i64 rb, .bool acb, .bool arb] at hC4
  have hR4 := hA4
  go_wp2_with fail
  refine Calls.mono (HRb _).out ?_
  rintro _ w4 ⟨rfl, b4⟩
  have hA5 := hA4.below b4 hA4.lt
  have hC5 := hC4.below b4 hC4.lt
  have hB5 := hB4.trans (b4.mono hB4.size)
  clear b4 HRb hA3 hC3 hC3o hA3o hB3 hB3o hA4 hC4 hB4 hR4 a0 a1 a2 a3 a4 c0 c1 c2 c3 c4 p0 p1 p2 p3 p4 fz fzo hlo
  clear qn
  go_wp2_with fail
  refine Calls.mono (HQs _).out ?_
  rintro _ t1 ⟨rfl, bt⟩
  have hX := Row.new t1 23 #[.string xs, .int .i64 xc, .int .i64 xr, .bool xa, .bool xb]
  have hBt := below_allocS (hB5.trans (bt.mono hB5.size)) (.cells #[.string xs, .int .i64 xc, .int .i64 xr, .bool xa, .bool xb] 23)
  clear bt HQs
  have hne : (er != 0) = true := by simpa using her
  clear her
  go_wp2_with fail
  all_goals first | (exfalso; apply undef_bool; assumption) | skip
  refine Calls.mono (HAl _ (hE.below hBt)).out ?_
  rintro _ t2 ⟨rfl, bt⟩
  clear HAl
  go_wp2
  go_ret
  exact ⟨rfl, hBt.trans (bt.mono hBt.size)⟩
set_option maxRecDepth 100000 in
set_option maxHeartbeats 4000000 in
theorem bk_2o (sa sb xs : ByteArray) (ca ra cb rb xc xr : Int) (aca ara acb arb xa xb : Bool) (l : List UInt8) (pa : List UInt8) (w : World) (hE : Env w)
    (HRa : ∀ W, Hid (Calls Tryd.prog 5 #[.agg #[.string sa, .int .i64 ca, .int .i64 ra, .bool aca, .bool ara]] W fun e w' => e = .returned (.bool true) ∧ Below W.heap.size W w'))
    (HPa : ∀ W, Env W → Hid (Calls Tryd.prog 7 #[.agg #[.string sa, .int .i64 ca, .int .i64 ra, .bool aca, .bool ara]] W fun e w' => e = .returned (.string (bs pa)) ∧ Below W.heap.size W w'))
    (HQa : ∀ W, Hid (Calls Tryd.prog 6 #[.string (bs pa)] W fun e w' => e = .returned (.tuple #[.agg #[.string sa, .int .i64 ca, .int .i64 ra, .bool aca, .bool ara], .int .i64 0]) ∧ Below W.heap.size W w'))
    (HRb : ∀ W, Hid (Calls Tryd.prog 5 #[.agg #[.string sa, .int .i64 cb, .int .i64 rb, .bool acb, .bool arb]] W fun e w' => e = .returned (.bool false) ∧ Below W.heap.size W w'))
    (HQs : ∀ W, Hid (Calls Tryd.prog 6 #[.string (bs l)] W fun e w' => e = .returned (.tuple #[.agg #[.string xs, .int .i64 xc, .int .i64 xr, .bool xa, .bool xb], .int .i64 0]) ∧ Below W.heap.size W w'))
    (HPx : ∀ W, Env W → Hid (Calls Tryd.prog 7 #[.agg #[.string xs, .int .i64 xc, .int .i64 xr, .bool xa, .bool xb]] W fun e w' => e = .returned (.string (bs l)) ∧ Below W.heap.size W w'))
    (HRx : ∀ W, Hid (Calls Tryd.prog 5 #[.agg #[.string xs, .int .i64 xc, .int .i64 xr, .bool xa, .bool xb]] W fun e w' => e = .returned (.bool true) ∧ Below W.heap.size W w'))
    (HAl : ∀ W, Env W → Hid (Calls Tryd.prog 10 #[] W fun e w' => e = .returned (.bool true) ∧ Below W.heap.size W w')) :
    Calls Tryd.prog 3 #[.agg #[.string sa, .int .i64 ca, .int .i64 ra, .bool aca, .bool ara], .agg #[.string sb, .int .i64 cb, .int .i64 rb, .bool acb, .bool arb], .string (bs l)] w fun e w' => e = .returned (.bool true) ∧ Below w.heap.size w w' := by
  go_enter Tryd.func3, Tryd.ntmps3
  go_wp2_with fail
  refine Calls.mono (HRa _).out ?_
  rintro _ w1 ⟨rfl, b1⟩
  obtain ⟨hA, hC, hB⟩ := two_rows w w1 _ _ _ _ b1
  clear b1 HRa
  obtain ⟨a0, a1, a2, a3, a4⟩ := hA.five
  go_wp2_with fail
  refine Calls.mono (HPa _ (hE.below hB)).out ?_
  rintro _ w2 ⟨rfl, b2⟩
  have hA2 := hA.below b2 hA.lt
  have hC2 := hC.below b2 hC.lt
  have hB2 := hB.trans (b2.mono hB.size)
  clear b2 HPa hA hC hB a0 a1 a2 a3 a4
  go_wp2_with fail
  refine Calls.mono (HQa _).out ?_
  rintro _ w3 ⟨rfl, b3⟩
  have hA3 := (hA2.below b3 hA2.lt).alloc (.cells #[.string sa, .int .i64 ca, .int .i64 ra, .bool aca, .bool ara] 23)
  have hC3 := (hC2.below b3 hC2.lt).alloc (.cells #[.string sa, .int .i64 ca, .int .i64 ra, .bool aca, .bool ara] 23)
  have hC3o := hC2.below b3 hC2.lt
  have hA3o := hA2.below b3 hA2.lt
  have hB3 := below_allocS (hB2.trans (b3.mono hB2.size)) (.cells #[.string sa, .int .i64 ca, .int .i64 ra, .bool aca, .bool ara] 23)
  have hB3o := hB2.trans (b3.mono hB2.size)
  clear b3 HQa hA2 hC2 hB2
  obtain ⟨a0, a1, a2, a3, a4⟩ := hA3.five
  obtain ⟨c0, c1, c2, c3, c4⟩ := hC3.five
  have fz := hC3.frozen
  obtain ⟨p0, p1, p2, p3, p4⟩ := hC3o.five
  have fzo := hC3o.frozen
  have hlo := hC3o.lt
  have qn := nsame23 sa ca ra aca ara
  have hC4 := (hC3o.set 0 (.string sa)).alloc (.cells #[.string sa, .int .i64 ca, .int .i64 ra, .bool aca, .bool ara] 23)
  have hA4 := (hA3o.off (B' := w.heap.size + 1) 0 (.string sa) (by omega)).alloc (.cells #[.string sa, .int .i64 ca, .int .i64 ra, .bool aca, .bool ara] 23)
  have hB4 := below_allocS (below_set hB3o (B := w.heap.size + 1) 0 (.string sa) (by omega)) (.cells #[.string sa, .int .i64 ca, .int .i64 ra, .bool aca, .bool ara] 23)
  change Row _ _ _ #[.string sa, .int .i64 cb, .int .i64 rb, .bool acb, .bool arb] at hC4
  have hR4 := hA4
  go_wp2_with fail
  refine Calls.mono (HRb _).out ?_
  rintro _ w4 ⟨rfl, b4⟩
  have hA5 := hA4.below b4 hA4.lt
  have hC5 := hC4.below b4 hC4.lt
  have hB5 := hB4.trans (b4.mono hB4.size)
  clear b4 HRb hA3 hC3 hC3o hA3o hB3 hB3o hA4 hC4 hB4 hR4 a0 a1 a2 a3 a4 c0 c1 c2 c3 c4 p0 p1 p2 p3 p4 fz fzo hlo
  clear qn
  go_wp2_with fail
  refine Calls.mono (HQs _).out ?_
  rintro _ t1 ⟨rfl, bt⟩
  have hX := Row.new t1 23 #[.string xs, .int .i64 xc, .int .i64 xr, .bool xa, .bool xb]
  have hBt := below_allocS (hB5.trans (bt.mono hB5.size)) (.cells #[.string xs, .int .i64 xc, .int .i64 xr, .bool xa, .bool xb] 23)
  clear bt HQs
  obtain ⟨x0, x1, x2, x3, x4⟩ := hX.five
  go_wp2_with fail
  refine Calls.mono (HPx _ (hE.below hBt)).out ?_
  rintro _ t2 ⟨rfl, bt⟩
  have hX2 := hX.below bt hX.lt
  have hBu := hBt.trans (bt.mono hBt.size)
  clear bt HPx hX hBt x0 x1 x2 x3 x4
  obtain ⟨x0, x1, x2, x3, x4⟩ := hX2.five
  have hll : ((bs l).toList == (bs l).toList) = true := by simp
  go_wp2_with fail
  refine Calls.mono (HRx _).out ?_
  rintro _ t3 ⟨rfl, bt⟩
  have hBv := hBu.trans (bt.mono hBu.size)
  clear bt HRx hX2 hBu x0 x1 x2 x3 x4 hll
  go_wp2_with fail
  refine Calls.mono (HAl _ (hE.below hBv)).out ?_
  rintro _ t4 ⟨rfl, bt⟩
  clear HAl
  go_wp2
  go_ret
  exact ⟨rfl, hBv.trans (bt.mono hBv.size)⟩
set_option maxRecDepth 100000 in
set_option maxHeartbeats 4000000 in
theorem bk_3e (sa sb xs : ByteArray) (ca ra cb rb xc xr : Int) (aca ara acb arb xa xb : Bool) (l : List UInt8) (pa : List UInt8) (pr : List UInt8) (er : Int) (her : er ≠ 0) (w : World) (hE : Env w)
    (HRa : ∀ W, Hid (Calls Tryd.prog 5 #[.agg #[.string sa, .int .i64 ca, .int .i64 ra, .bool aca, .bool ara]] W fun e w' => e = .returned (.bool true) ∧ Below W.heap.size W w'))
    (HPa : ∀ W, Env W → Hid (Calls Tryd.prog 7 #[.agg #[.string sa, .int .i64 ca, .int .i64 ra, .bool aca, .bool ara]] W fun e w' => e = .returned (.string (bs pa)) ∧ Below W.heap.size W w'))
    (HQa : ∀ W, Hid (Calls Tryd.prog 6 #[.string (bs pa)] W fun e w' => e = .returned (.tuple #[.agg #[.string sa, .int .i64 ca, .int .i64 ra, .bool aca, .bool ara], .int .i64 0]) ∧ Below W.heap.size W w'))
    (HRb : ∀ W, Hid (Calls Tryd.prog 5 #[.agg #[.string sa, .int .i64 cb, .int .i64 rb, .bool acb, .bool arb]] W fun e w' => e = .returned (.bool true) ∧ Below W.heap.size W w'))
    (HPr : ∀ W, Env W → Hid (Calls Tryd.prog 9 #[.agg #[.string sa, .int .i64 ca, .int .i64 ra, .bool aca, .bool ara], .agg #[.string sa, .int .i64 cb, .int .i64 rb, .bool acb, .bool arb]] W fun e w' => e = .returned (.string (bs pr)) ∧ Below W.heap.size W w'))
    (HQr : ∀ W, Hid (Calls Tryd.prog 8 #[.string (bs pr)] W fun e w' => e = .returned (.tuple #[.agg #[.string sa, .int .i64 ca, .int .i64 ra, .bool aca, .bool ara], .agg #[.string sa, .int .i64 cb, .int .i64 rb, .bool acb, .bool arb], .int .i64 0]) ∧ Below W.heap.size W w'))
    (HQs : ∀ W, Hid (Calls Tryd.prog 6 #[.string (bs l)] W fun e w' => e = .returned (.tuple #[.agg #[.string xs, .int .i64 xc, .int .i64 xr, .bool xa, .bool xb], .int .i64 er]) ∧ Below W.heap.size W w'))
    (HAl : ∀ W, Env W → Hid (Calls Tryd.prog 10 #[] W fun e w' => e = .returned (.bool true) ∧ Below W.heap.size W w')) :
    Calls Tryd.prog 3 #[.agg #[.string sa, .int .i64 ca, .int .i64 ra, .bool aca, .bool ara], .agg #[.string sb, .int .i64 cb, .int .i64 rb, .bool acb, .bool arb], .string (bs l)] w fun e w' => e = .returned (.bool true) ∧ Below w.heap.size w w' := by
  go_enter Tryd.func3, Tryd.ntmps3
  go_wp2_with fail
  refine Calls.mono (HRa _).out ?_
  rintro _ w1 ⟨rfl, b1⟩
  obtain ⟨hA, hC, hB⟩ := two_rows w w1 _ _ _ _ b1
  clear b1 HRa
  obtain ⟨a0, a1, a2, a3, a4⟩ := hA.five
  go_wp2_with fail
  refine Calls.mono (HPa _ (hE.below hB)).out ?_
  rintro _ w2 ⟨rfl, b2⟩
  have hA2 := hA.below b2 hA.lt
  have hC2 := hC.below b2 hC.lt
  have hB2 := hB.trans (b2.mono hB.size)
  clear b2 HPa hA hC hB a0 a1 a2 a3 a4
  go_wp2_with fail
  refine Calls.mono (HQa _).out ?_
  rintro _ w3 ⟨rfl, b3⟩
  have hA3 := (hA2.below b3 hA2.lt).alloc (.cells #[.string sa, .int .i64 ca, .int .i64 ra, .bool aca, .bool ara] 23)
  have hC3 := (hC2.below b3 hC2.lt).alloc (.cells #[.string sa, .int .i64 ca, .int .i64 ra, .bool aca, .bool ara] 23)
  have hC3o := hC2.below b3 hC2.lt
  have hA3o := hA2.below b3 hA2.lt
  have hB3 := below_allocS (hB2.trans (b3.mono hB2.size)) (.cells #[.string sa, .int .i64 ca, .int .i64 ra, .bool aca, .bool ara] 23)
  have hB3o := hB2.trans (b3.mono hB2.size)
  clear b3 HQa hA2 hC2 hB2
  obtain ⟨a0, a1, a2, a3, a4⟩ := hA3.five
  obtain ⟨c0, c1, c2, c3, c4⟩ := hC3.five
  have fz := hC3.frozen
  obtain ⟨p0, p1, p2, p3, p4⟩ := hC3o.five
  have fzo := hC3o.frozen
  have hlo := hC3o.lt
  have qn := nsame23 sa ca ra aca ara
  have hC4 := (hC3o.set 0 (.string sa)).alloc (.cells #[.string sa, .int .i64 ca, .int .i64 ra, .bool aca, .bool ara] 23)
  have hA4 := (hA3o.off (B' := w.heap.size + 1) 0 (.string sa) (by omega)).alloc (.cells #[.string sa, .int .i64 ca, .int .i64 ra, .bool aca, .bool ara] 23)
  have hB4 := below_allocS (below_set hB3o (B := w.heap.size + 1) 0 (.string sa) (by omega)) (.cells #[.string sa, .int .i64 ca, .int .i64 ra, .bool aca, .bool ara] 23)
  change Row _ _ _ #[.string sa, .int .i64 cb, .int .i64 rb, .bool acb, .bool arb] at hC4
  have hR4 := hA4
  go_wp2_with fail
  refine Calls.mono (HRb _).out ?_
  rintro _ w4 ⟨rfl, b4⟩
  have hA5 := hA4.below b4 hA4.lt
  have hC5 := hC4.below b4 hC4.lt
  have hB5 := hB4.trans (b4.mono hB4.size)
  clear b4 HRb hA3 hC3 hC3o hA3o hB3 hB3o hA4 hC4 hB4 hR4 a0 a1 a2 a3 a4 c0 c1 c2 c3 c4 p0 p1 p2 p3 p4 fz fzo hlo
  obtain ⟨a0, a1, a2, a3, a4⟩ := hA5.five
  obtain ⟨c0, c1, c2, c3, c4⟩ := hC5.five
  go_wp2_with fail
  refine Calls.mono (HPr _ (hE.below hB5)).out ?_
  rintro _ w5 ⟨rfl, b5⟩
  have hA6 := hA5.below b5 hA5.lt
  have hC6 := hC5.below b5 hC5.lt
  have hB6 := hB5.trans (b5.mono hB5.size)
  clear b5 HPr hA5 hC5 hB5 a0 a1 a2 a3 a4 c0 c1 c2 c3 c4
  go_wp2_with fail
  refine Calls.mono (HQr _).out ?_
  rintro _ w6 ⟨rfl, b6⟩
  have hA7 := ((hA6.below b6 hA6.lt).alloc (.cells #[.string sa, .int .i64 ca, .int .i64 ra, .bool aca, .bool ara] 23)).alloc (.cells #[.string sa, .int .i64 cb, .int .i64 rb, .bool acb, .bool arb] 23)
  have hC7 := ((hC6.below b6 hC6.lt).alloc (.cells #[.string sa, .int .i64 ca, .int .i64 ra, .bool aca, .bool ara] 23)).alloc (.cells #[.string sa, .int .i64 cb, .int .i64 rb, .bool acb, .bool arb] 23)
  have hB7 := below_allocS (below_allocS (hB6.trans (b6.mono hB6.size)) (.cells #[.string sa, .int .i64 ca, .int .i64 ra, .bool aca, .bool ara] 23)) (.cells #[.string sa, .int .i64 cb, .int .i64 rb, .bool acb, .bool arb] 23)
  have hlA := (hA6.below b6 hA6.lt).lt
  have hlC := (hC6.below b6 hC6.lt).lt
  clear b6 HQr hA6 hC6 hB6
  obtain ⟨a0, a1, a2, a3, a4⟩ := hA7.five
  obtain ⟨c0, c1, c2, c3, c4⟩ := hC7.five
  have qm := nsame23 sa cb rb acb arb
  go_wp2_with fail
  refine Calls.mono (HQs _).out ?_
  rintro _ t1 ⟨rfl, bt⟩
  have hX := Row.new t1 23 #[.string xs, .int .i64 xc, .int .i64 xr, .bool xa, .bool xb]
  have hBt := below_allocS (hB7.trans (bt.mono hB7.size)) (.cells #[.string xs, .int .i64 xc, .int .i64 xr, .bool xa, .bool xb] 23)
  clear bt HQs qn qm a0 a1 a2 a3 a4 c0 c1 c2 c3 c4 hA7 hC7
  have hne : (er != 0) = true := by simpa using her
  clear her
  go_wp2_with fail
  all_goals first | (exfalso; apply undef_bool; assumption) | skip
  refine Calls.mono (HAl _ (hE.below hBt)).out ?_
  rintro _ t2 ⟨rfl, bt⟩
  clear HAl
  go_wp2
  go_ret
  exact ⟨rfl, hBt.trans (bt.mono hBt.size)⟩
set_option maxRecDepth 100000 in
set_option maxHeartbeats 4000000 in
theorem bk_3o (sa sb xs : ByteArray) (ca ra cb rb xc xr : Int) (aca ara acb arb xa xb : Bool) (l : List UInt8) (pa : List UInt8) (pr : List UInt8) (w : World) (hE : Env w)
    (HRa : ∀ W, Hid (Calls Tryd.prog 5 #[.agg #[.string sa, .int .i64 ca, .int .i64 ra, .bool aca, .bool ara]] W fun e w' => e = .returned (.bool true) ∧ Below W.heap.size W w'))
    (HPa : ∀ W, Env W → Hid (Calls Tryd.prog 7 #[.agg #[.string sa, .int .i64 ca, .int .i64 ra, .bool aca, .bool ara]] W fun e w' => e = .returned (.string (bs pa)) ∧ Below W.heap.size W w'))
    (HQa : ∀ W, Hid (Calls Tryd.prog 6 #[.string (bs pa)] W fun e w' => e = .returned (.tuple #[.agg #[.string sa, .int .i64 ca, .int .i64 ra, .bool aca, .bool ara], .int .i64 0]) ∧ Below W.heap.size W w'))
    (HRb : ∀ W, Hid (Calls Tryd.prog 5 #[.agg #[.string sa, .int .i64 cb, .int .i64 rb, .bool acb, .bool arb]] W fun e w' => e = .returned (.bool true) ∧ Below W.heap.size W w'))
    (HPr : ∀ W, Env W → Hid (Calls Tryd.prog 9 #[.agg #[.string sa, .int .i64 ca, .int .i64 ra, .bool aca, .bool ara], .agg #[.string sa, .int .i64 cb, .int .i64 rb, .bool acb, .bool arb]] W fun e w' => e = .returned (.string (bs pr)) ∧ Below W.heap.size W w'))
    (HQr : ∀ W, Hid (Calls Tryd.prog 8 #[.string (bs pr)] W fun e w' => e = .returned (.tuple #[.agg #[.string sa, .int .i64 ca, .int .i64 ra, .bool aca, .bool ara], .agg #[.string sa, .int .i64 cb, .int .i64 rb, .bool acb, .bool arb], .int .i64 0]) ∧ Below W.heap.size W w'))
    (HQs : ∀ W, Hid (Calls Tryd.prog 6 #[.string (bs l)] W fun e w' => e = .returned (.tuple #[.agg #[.string xs, .int .i64 xc, .int .i64 xr, .bool xa, .bool xb], .int .i64 0]) ∧ Below W.heap.size W w'))
    (HPx : ∀ W, Env W → Hid (Calls Tryd.prog 7 #[.agg #[.string xs, .int .i64 xc, .int .i64 xr, .bool xa, .bool xb]] W fun e w' => e = .returned (.string (bs l)) ∧ Below W.heap.size W w'))
    (HRx : ∀ W, Hid (Calls Tryd.prog 5 #[.agg #[.string xs, .int .i64 xc, .int .i64 xr, .bool xa, .bool xb]] W fun e w' => e = .returned (.bool true) ∧ Below W.heap.size W w'))
    (HAl : ∀ W, Env W → Hid (Calls Tryd.prog 10 #[] W fun e w' => e = .returned (.bool true) ∧ Below W.heap.size W w')) :
    Calls Tryd.prog 3 #[.agg #[.string sa, .int .i64 ca, .int .i64 ra, .bool aca, .bool ara], .agg #[.string sb, .int .i64 cb, .int .i64 rb, .bool acb, .bool arb], .string (bs l)] w fun e w' => e = .returned (.bool true) ∧ Below w.heap.size w w' := by
  go_enter Tryd.func3, Tryd.ntmps3
  go_wp2_with fail
  refine Calls.mono (HRa _).out ?_
  rintro _ w1 ⟨rfl, b1⟩
  obtain ⟨hA, hC, hB⟩ := two_rows w w1 _ _ _ _ b1
  clear b1 HRa
  obtain ⟨a0, a1, a2, a3, a4⟩ := hA.five
  go_wp2_with fail
  refine Calls.mono (HPa _ (hE.below hB)).out ?_
  rintro _ w2 ⟨rfl, b2⟩
  have hA2 := hA.below b2 hA.lt
  have hC2 := hC.below b2 hC.lt
  have hB2 := hB.trans (b2.mono hB.size)
  clear b2 HPa hA hC hB a0 a1 a2 a3 a4
  go_wp2_with fail
  refine Calls.mono (HQa _).out ?_
  rintro _ w3 ⟨rfl, b3⟩
  have hA3 := (hA2.below b3 hA2.lt).alloc (.cells #[.string sa, .int .i64 ca, .int .i64 ra, .bool aca, .bool ara] 23)
  have hC3 := (hC2.below b3 hC2.lt).alloc (.cells #[.string sa, .int .i64 ca, .int .i64 ra, .bool aca, .bool ara] 23)
  have hC3o := hC2.below b3 hC2.lt
  have hA3o := hA2.below b3 hA2.lt
  have hB3 := below_allocS (hB2.trans (b3.mono hB2.size)) (.cells #[.string sa, .int .i64 ca, .int .i64 ra, .bool aca, .bool ara] 23)
  have hB3o := hB2.trans (b3.mono hB2.size)
  clear b3 HQa hA2 hC2 hB2
  obtain ⟨a0, a1, a2, a3, a4⟩ := hA3.five
  obtain ⟨c0, c1, c2, c3, c4⟩ := hC3.five
  have fz := hC3.frozen
  obtain ⟨p0, p1, p2, p3, p4⟩ := hC3o.five
  have fzo := hC3o.frozen
  have hlo := hC3o.lt
  have qn := nsame23 sa ca ra aca ara
  have hC4 := (hC3o.set 0 (.string sa)).alloc (.cells #[.string sa, .int .i64 ca, .int .i64 ra, .bool aca, .bool ara] 23)
  have hA4 := (hA3o.off (B' := w.heap.size + 1) 0 (.string sa) (by omega)).alloc (.cells #[.string sa, .int .i64 ca, .int .i64 ra, .bool aca, .bool ara] 23)
  have hB4 := below_allocS (below_set hB3o (B := w.heap.size + 1) 0 (.string sa) (by omega)) (.cells #[.string sa, .int .i64 ca, .int .i64 ra, .bool aca, .bool ara] 23)
  change Row _ _ _ #[.string sa, .int .i64 cb, .int .i64 rb, .bool acb, .bool arb] at hC4
  have hR4 := hA4
  go_wp2_with fail
  refine Calls.mono (HRb _).out ?_
  rintro _ w4 ⟨rfl, b4⟩
  have hA5 := hA4.below b4 hA4.lt
  have hC5 := hC4.below b4 hC4.lt
  have hB5 := hB4.trans (b4.mono hB4.size)
  clear b4 HRb hA3 hC3 hC3o hA3o hB3 hB3o hA4 hC4 hB4 hR4 a0 a1 a2 a3 a4 c0 c1 c2 c3 c4 p0 p1 p2 p3 p4 fz fzo hlo
  obtain ⟨a0, a1, a2, a3, a4⟩ := hA5.five
  obtain ⟨c0, c1, c2, c3, c4⟩ := hC5.five
  go_wp2_with fail
  refine Calls.mono (HPr _ (hE.below hB5)).out ?_
  rintro _ w5 ⟨rfl, b5⟩
  have hA6 := hA5.below b5 hA5.lt
  have hC6 := hC5.below b5 hC5.lt
  have hB6 := hB5.trans (b5.mono hB5.size)
  clear b5 HPr hA5 hC5 hB5 a0 a1 a2 a3 a4 c0 c1 c2 c3 c4
  go_wp2_with fail
  refine Calls.mono (HQr _).out ?_
  rintro _ w6 ⟨rfl, b6⟩
  have hA7 := ((hA6.below b6 hA6.lt).alloc (.cells #[.string sa, .int .i64 ca, .int .i64 ra, .bool aca, .bool ara] 23)).alloc (.cells #[.string sa, .int .i64 cb, .int .i64 rb, .bool acb, .bool arb] 23)
  have hC7 := ((hC6.below b6 hC6.lt).alloc (.cells #[.string sa, .int .i64 ca, .int .i64 ra, .bool aca, .bool ara] 23)).alloc (.cells #[.string sa, .int .i64 cb, .int .i64 rb, .bool acb, .bool arb] 23)
  have hB7 := below_allocS (below_allocS (hB6.trans (b6.mono hB6.size)) (.cells #[.string sa, .int .i64 ca, .int .i64 ra, .bool aca, .bool ara] 23)) (.cells #[.string sa, .int .i64 cb, .int .i64 rb, .bool acb, .bool arb] 23)
  have hlA := (hA6.below b6 hA6.lt).lt
  have hlC := (hC6.below b6 hC6.lt).lt
  clear b6 HQr hA6 hC6 hB6
  obtain ⟨a0, a1, a2, a3, a4⟩ := hA7.five
  obtain ⟨c0, c1, c2, c3, c4⟩ := hC7.five
  have qm := nsame23 sa cb rb acb arb
  go_wp2_with fail
  refine Calls.mono (HQs _).out ?_
  rintro _ t1 ⟨rfl, bt⟩
  have hX := Row.new t1 23 #[.string xs, .int .i64 xc, .int .i64 xr, .bool xa, .bool xb]
  have hBt := below_allocS (hB7.trans (bt.mono hB7.size)) (.cells #[.string xs, .int .i64 xc, .int .i64 xr, .bool xa, .bool xb] 23)
  clear bt HQs qn qm a0 a1 a2 a3 a4 c0 c1 c2 c3 c4 hA7 hC7
  obtain ⟨x0, x1, x2, x3, x4⟩ := hX.five
  go_wp2_with fail
  refine Calls.mono (HPx _ (hE.below hBt)).out ?_
  rintro _ t2 ⟨rfl, bt⟩
  have hX2 := hX.below bt hX.lt
  have hBu := hBt.trans (bt.mono hBt.size)
  clear bt HPx hX hBt x0 x1 x2 x3 x4
  obtain ⟨x0, x1, x2, x3, x4⟩ := hX2.five
  have hll : ((bs l).toList == (bs l).toList) = true := by simp
  go_wp2_with fail
  refine Calls.mono (HRx _).out ?_
  rintro _ t3 ⟨rfl, bt⟩
  have hBv := hBu.trans (bt.mono hBu.size)
  clear bt HRx hX2 hBu x0 x1 x2 x3 x4 hll
  go_wp2_with fail
  refine Calls.mono (HAl _ (hE.below hBv)).out ?_
  rintro _ t4 ⟨rfl, bt⟩
  clear HAl
  go_wp2
  go_ret
  exact ⟨rfl, hBv.trans (bt.mono hBv.size)⟩
end Go.Proofs.YtnblbakjfpfipaaDoor
