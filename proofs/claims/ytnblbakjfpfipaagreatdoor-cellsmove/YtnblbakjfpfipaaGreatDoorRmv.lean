/- CellsMove, walked. -/
import Derived.Test.YtnblbakjfpfipaaGreatDoorRsh
import Derived.Test.YtnblbakjfpfipaaGreatDoorRls
import Derived.Test.YtnblbakjfpfipaaGreatDoorWal
import Derived.Test.YtnblbakjfpfipaaGreatDoorWthp
namespace Go.Proofs.YtnblbakjfpfipaaGreatDoor
open Go.RowKit

set_option maxRecDepth 100000 in
set_option maxHeartbeats 4000000 in
theorem move_raw (sa sb xs : ByteArray) (ca ra cb rb xc xr dc dr b1 b2 b3 b4 : Int) (aca ara acb arb xa xb f le : Bool) (w : World) (hE : Env w)
    (H1 : ∀ W, Hid (Calls Tryz.prog 25 #[.agg #[.string sa, .int .i64 ca, .int .i64 ra, .bool aca, .bool ara], .int .i64 dc, .int .i64 dr] W fun e w' => e = .returned (.tuple #[.agg #[.string xs, .int .i64 xc, .int .i64 xr, .bool xa, .bool xb], .bool f]) ∧ Below W.heap.size W w'))
    (H2 : ∀ W, Hid (Calls Tryz.prog 26 #[.agg #[.string sa, .int .i64 ca, .int .i64 ra, .bool aca, .bool ara], .int .i64 dc, .int .i64 dr] W fun e w' => e = .returned (.tuple #[.agg #[.string xs, .int .i64 xc, .int .i64 xr, .bool xa, .bool xb], .bool f]) ∧ Below W.heap.size W w'))
    (H3 : ∀ W, Hid (Calls Tryz.prog 27 #[.agg #[.string sa, .int .i64 ca, .int .i64 ra, .bool aca, .bool ara], .agg #[.string sb, .int .i64 cb, .int .i64 rb, .bool acb, .bool arb]] W fun e w' => e = .returned (.tuple #[.int .i64 b1, .int .i64 b2, .int .i64 b3, .int .i64 b4]) ∧ Below W.heap.size W w'))
    (H4 : ∀ W, Hid (Calls Tryz.prog 28 #[.agg #[.string sa, .int .i64 ca, .int .i64 ra, .bool aca, .bool ara], .agg #[.string sb, .int .i64 cb, .int .i64 rb, .bool acb, .bool arb]] W fun e w' => e = .returned (.tuple #[.int .i64 b1, .int .i64 b2, .int .i64 b3, .int .i64 b4]) ∧ Below W.heap.size W w'))
    (H5 : ∀ W, Hid (Calls Tryz.prog 29 #[.agg #[.string sa, .int .i64 ca, .int .i64 ra, .bool aca, .bool ara], .agg #[.string sb, .int .i64 cb, .int .i64 rb, .bool acb, .bool arb]] W fun e w' => e = .returned (.bool le) ∧ Below W.heap.size W w'))
    (H6 : ∀ W, Hid (Calls Tryz.prog 30 #[.agg #[.string sa, .int .i64 ca, .int .i64 ra, .bool aca, .bool ara], .agg #[.string sb, .int .i64 cb, .int .i64 rb, .bool acb, .bool arb]] W fun e w' => e = .returned (.bool le) ∧ Below W.heap.size W w'))
    (H7 : ∀ W, Env W → Hid (Calls Tryz.prog 20 #[] W fun e w' => e = .returned (.bool true) ∧ Below W.heap.size W w')) :
    Calls Tryz.prog 5 #[.agg #[.string sa, .int .i64 ca, .int .i64 ra, .bool aca, .bool ara], .agg #[.string sb, .int .i64 cb, .int .i64 rb, .bool acb, .bool arb], .int .i64 dc, .int .i64 dr] w fun e w' => e = .returned (.bool true) ∧ Below w.heap.size w w' := by
  go_enter Tryz.func5, Tryz.ntmps5
  go_wp2_with fail
  refine Calls.mono (H1 _).out ?_
  rintro _ w1 ⟨rfl, b1'⟩
  obtain ⟨hA1, hC1, hB1⟩ := two_rows w w1 _ _ _ _ b1'
  have hA1 := hA1.alloc (.cells #[.string xs, .int .i64 xc, .int .i64 xr, .bool xa, .bool xb] 23)
  have hC1 := hC1.alloc (.cells #[.string xs, .int .i64 xc, .int .i64 xr, .bool xa, .bool xb] 23)
  have hX1 := Row.new w1 23 #[.string xs, .int .i64 xc, .int .i64 xr, .bool xa, .bool xb]
  have hB1 := below_allocS hB1 (.cells #[.string xs, .int .i64 xc, .int .i64 xr, .bool xa, .bool xb] 23)
  clear b1' H1
  obtain ⟨a0, a1, a2, a3, a4⟩ := hA1.five
  go_wp2_with fail
  refine Calls.mono (H2 _).out ?_
  rintro _ w2 ⟨rfl, b2'⟩
  have hA2 := (hA1.below b2' hA1.lt).alloc (.cells #[.string xs, .int .i64 xc, .int .i64 xr, .bool xa, .bool xb] 23)
  have hC2 := (hC1.below b2' hC1.lt).alloc (.cells #[.string xs, .int .i64 xc, .int .i64 xr, .bool xa, .bool xb] 23)
  have hX2 := (hX1.below b2' hX1.lt).alloc (.cells #[.string xs, .int .i64 xc, .int .i64 xr, .bool xa, .bool xb] 23)
  have hY2 := Row.new w2 23 #[.string xs, .int .i64 xc, .int .i64 xr, .bool xa, .bool xb]
  have hB2 := below_allocS (hB1.trans (b2'.mono hB1.size)) (.cells #[.string xs, .int .i64 xc, .int .i64 xr, .bool xa, .bool xb] 23)
  clear b2' H2 hA1 hC1 hX1 hB1 a0 a1 a2 a3 a4
  obtain ⟨a0, a1, a2, a3, a4⟩ := hA2.five
  obtain ⟨c0, c1, c2, c3, c4⟩ := hC2.five
  go_wp2_with fail
  refine Calls.mono (H3 _).out ?_
  rintro _ w3 ⟨rfl, b3'⟩
  have hA3 := hA2.below b3' hA2.lt
  have hC3 := hC2.below b3' hC2.lt
  have hX3 := hX2.below b3' hX2.lt
  have hY3 := hY2.below b3' hY2.lt
  have hB3 := hB2.trans (b3'.mono hB2.size)
  clear b3' H3 hA2 hC2 hX2 hY2 hB2 a0 a1 a2 a3 a4 c0 c1 c2 c3 c4
  obtain ⟨a0, a1, a2, a3, a4⟩ := hA3.five
  obtain ⟨c0, c1, c2, c3, c4⟩ := hC3.five
  go_wp2_with fail
  refine Calls.mono (H4 _).out ?_
  rintro _ W ⟨rfl, b4'⟩
  have hA := hA3.below b4' hA3.lt
  have hC := hC3.below b4' hC3.lt
  have hX := hX3.below b4' hX3.lt
  have hY := hY3.below b4' hY3.lt
  have hB := hB3.trans (b4'.mono hB3.size)
  clear b4' H4 hA3 hC3 hX3 hY3 hB3 a0 a1 a2 a3 a4 c0 c1 c2 c3 c4
  have hE0 := hE.below hB
  have hS : Below W.heap.size W W.drew := (Below.refl _ W).drew
  go_wp2_with fail
  generalize (Value.tuple #[.agg #[.string xs, .int .i64 xc, .int .i64 xr, .bool xa, .bool xb], .bool f]) = t1
  generalize (Value.tuple #[.int .i64 b1, .int .i64 b2, .int .i64 b3, .int .i64 b4]) = t2
  generalize (Value.agg #[.string sa, .int .i64 ca, .int .i64 ra, .bool aca, .bool ara]) = t3
  generalize (Value.agg #[.string sb, .int .i64 cb, .int .i64 rb, .bool acb, .bool arb]) = t4
  generalize (Value.agg #[.string xs, .int .i64 xc, .int .i64 xr, .bool xa, .bool xb]) = t5
  refine wp_region_M (fun wx : World => Below W.heap.size W wx) (fun j => decide (j < 41)) 41 rfl (by kernel_rfl) ?_
  refine wpM_held 0 (v := .agg #[.string xs, .int .i64 xc, .int .i64 xr, .bool xa, .bool xb]) rfl (by kernel_rfl) (by kernel_rfl) rfl (fun _ _ _ h => h) rfl (by intro wx hx; obtain ⟨x0, x1, x2, x3, x4⟩ := (hX.below hx hX.lt).five; go_simp <;> rfl) hS ?_
  obtain ⟨x0, x1, x2, x3, x4⟩ := (hY.below hS hY.lt).five
  refine wpM_one 1 rfl (by kernel_rfl) rfl ?_
  go_wp2_with fail
  refine ⟨fun _ => hS, ?_⟩
  clear x0 x1 x2 x3 x4
  have q1 := same23 xs xc xr xa xb
  refine wpM_one 2 rfl (by kernel_rfl) rfl ?_
  go_wp2_with fail
  refine ⟨fun _ => hS, ?_⟩
  clear q1
  refine wpM_one 3 rfl (by kernel_rfl) rfl ?_
  go_wp2_with fail
  refine ⟨fun _ => hS, ?_⟩
  refine wpM_held 4 (v := .bool f) rfl (by kernel_rfl) (by kernel_rfl) rfl (fun _ _ _ h => h) rfl (by intro wx hx; go_simp <;> rfl) hS ?_
  refine wpM_one 5 rfl (by kernel_rfl) rfl ?_
  go_wp2_with fail
  refine ⟨fun _ => hS, ?_⟩
  have eq1 : (f == f) = true := by simp
  refine wpM_one 6 rfl (by kernel_rfl) rfl ?_
  go_wp2_with fail
  refine ⟨fun _ => hS, ?_⟩
  clear eq1
  refine wpM_one 7 rfl (by kernel_rfl) rfl ?_
  go_wp2_with fail
  refine ⟨fun _ => hS, ?_⟩
  refine wpM_one 8 rfl (by kernel_rfl) rfl ?_
  go_wp2_with fail
  refine ⟨fun _ => hS, ?_⟩
  refine wpM_held 9 (v := .int .i64 b1) rfl (by kernel_rfl) (by kernel_rfl) rfl (fun _ _ _ h => h) rfl (by intro wx hx; go_simp <;> rfl) hS ?_
  refine wpM_one 10 rfl (by kernel_rfl) rfl ?_
  go_wp2_with fail
  refine ⟨fun _ => hS, ?_⟩
  have eq1 : (b1 == b1) = true := by simp
  refine wpM_one 11 rfl (by kernel_rfl) rfl ?_
  go_wp2_with fail
  refine ⟨fun _ => hS, ?_⟩
  clear eq1
  refine wpM_one 12 rfl (by kernel_rfl) rfl ?_
  go_wp2_with fail
  refine ⟨fun _ => hS, ?_⟩
  refine wpM_one 13 rfl (by kernel_rfl) rfl ?_
  go_wp2_with fail
  refine ⟨fun _ => hS, ?_⟩
  refine wpM_held 14 (v := .int .i64 b2) rfl (by kernel_rfl) (by kernel_rfl) rfl (fun _ _ _ h => h) rfl (by intro wx hx; go_simp <;> rfl) hS ?_
  refine wpM_one 15 rfl (by kernel_rfl) rfl ?_
  go_wp2_with fail
  refine ⟨fun _ => hS, ?_⟩
  have eq1 : (b2 == b2) = true := by simp
  refine wpM_one 16 rfl (by kernel_rfl) rfl ?_
  go_wp2_with fail
  refine ⟨fun _ => hS, ?_⟩
  clear eq1
  refine wpM_one 17 rfl (by kernel_rfl) rfl ?_
  go_wp2_with fail
  refine ⟨fun _ => hS, ?_⟩
  refine wpM_one 18 rfl (by kernel_rfl) rfl ?_
  go_wp2_with fail
  refine ⟨fun _ => hS, ?_⟩
  refine wpM_held 19 (v := .int .i64 b3) rfl (by kernel_rfl) (by kernel_rfl) rfl (fun _ _ _ h => h) rfl (by intro wx hx; go_simp <;> rfl) hS ?_
  refine wpM_one 20 rfl (by kernel_rfl) rfl ?_
  go_wp2_with fail
  refine ⟨fun _ => hS, ?_⟩
  have eq1 : (b3 == b3) = true := by simp
  refine wpM_one 21 rfl (by kernel_rfl) rfl ?_
  go_wp2_with fail
  refine ⟨fun _ => hS, ?_⟩
  clear eq1
  refine wpM_one 22 rfl (by kernel_rfl) rfl ?_
  go_wp2_with fail
  refine ⟨fun _ => hS, ?_⟩
  refine wpM_one 23 rfl (by kernel_rfl) rfl ?_
  go_wp2_with fail
  refine ⟨fun _ => hS, ?_⟩
  refine wpM_held 24 (v := .int .i64 b4) rfl (by kernel_rfl) (by kernel_rfl) rfl (fun _ _ _ h => h) rfl (by intro wx hx; go_simp <;> rfl) hS ?_
  refine wpM_one 25 rfl (by kernel_rfl) rfl ?_
  go_wp2_with fail
  refine ⟨fun _ => hS, ?_⟩
  have eq1 : (b4 == b4) = true := by simp
  refine wpM_one 26 rfl (by kernel_rfl) rfl ?_
  go_wp2_with fail
  refine ⟨fun _ => hS, ?_⟩
  clear eq1
  refine wpM_one 27 rfl (by kernel_rfl) rfl ?_
  go_wp2_with fail
  refine ⟨fun _ => hS, ?_⟩
  refine wpM_one 28 rfl (by kernel_rfl) rfl ?_
  go_wp2_with fail
  refine ⟨fun _ => hS, ?_⟩
  refine wpM_held 32 (v := .agg #[.string sa, .int .i64 ca, .int .i64 ra, .bool aca, .bool ara]) rfl (by kernel_rfl) (by kernel_rfl) rfl (fun _ _ _ h => h) rfl (by intro wx hx; obtain ⟨x0, x1, x2, x3, x4⟩ := (hA.below hx hA.lt).five; go_simp <;> rfl) hS ?_
  refine wpM_held 33 (v := .agg #[.string sb, .int .i64 cb, .int .i64 rb, .bool acb, .bool arb]) rfl (by kernel_rfl) (by kernel_rfl) rfl (fun _ _ _ h => h) rfl (by intro wx hx; obtain ⟨x0, x1, x2, x3, x4⟩ := (hC.below hx hC.lt).five; go_simp <;> rfl) hS ?_
  refine wpM_held 29 (v := .agg #[.string sa, .int .i64 ca, .int .i64 ra, .bool aca, .bool ara]) rfl (by kernel_rfl) (by kernel_rfl) rfl (fun _ _ _ h => h) rfl (by intro wx hx; obtain ⟨x0, x1, x2, x3, x4⟩ := (hA.below hx hA.lt).five; go_simp <;> rfl) hS ?_
  obtain ⟨x0, x1, x2, x3, x4⟩ := (hC.below hS hC.lt).five
  refine wpM_one 30 rfl (by kernel_rfl) rfl ?_
  go_wp2_with fail
  refine ⟨fun _ => hS, ?_⟩
  clear x0 x1 x2 x3 x4
  refine wpM_one 31 rfl (by kernel_rfl) rfl ?_
  go_wp2_with fail
  refine Calls.mono (H5 _).out ?_
  rintro _ v1 ⟨rfl, hb⟩
  have hS1 : Below W.heap.size W v1 := hS.trans (hb.mono hS.size)
  clear hb
  go_wp2_with fail
  refine ⟨fun _ => hS1, ?_⟩
  refine wpM_one 34 rfl (by kernel_rfl) rfl ?_
  go_wp2_with fail
  refine Calls.mono (H6 _).out ?_
  rintro _ v2 ⟨rfl, hb⟩
  have hS2 : Below W.heap.size W v2 := hS1.trans (hb.mono hS1.size)
  clear hb
  go_wp2_with fail
  refine ⟨fun _ => hS2, ?_⟩
  have eq1 : (le == le) = true := by simp
  refine wpM_one 35 rfl (by kernel_rfl) rfl ?_
  go_wp2_with fail
  refine ⟨fun _ => hS2, ?_⟩
  clear eq1
  refine wpM_one 36 rfl (by kernel_rfl) rfl ?_
  go_wp2_with fail
  refine ⟨fun _ => hS2, ?_⟩
  refine wpM_one 37 rfl (by kernel_rfl) rfl ?_
  go_wp2_with fail
  refine ⟨fun _ => hS2, ?_⟩
  refine wpM_one 38 rfl (by kernel_rfl) rfl ?_
  go_wp2_with fail
  refine Calls.mono (H7 _ (hE0.below hS2)).out ?_
  rintro _ v3 ⟨rfl, hb⟩
  have hS3 : Below W.heap.size W v3 := hS2.trans (hb.mono hS2.size)
  clear hb
  go_wp2_with fail
  refine ⟨fun _ => hS3, ?_⟩
  refine wpM_one 39 rfl (by kernel_rfl) rfl ?_
  go_wp2_with fail
  refine ⟨fun _ => hS3, ?_⟩
  refine wpM_one 40 rfl (by kernel_rfl) rfl ?_
  go_wp2_with fail
  refine ⟨fun _ => hS3, ?_⟩
  refine wpM_done (by kernel_rfl) ?_
  go_wp2
  go_ret
  exact ⟨rfl, hB.trans (hS3.mono hB.size)⟩
theorem move_any (a b : Rf) (dc dr : Int) (hc1 : -9223372036854775808 ≤ dc) (hc2 : dc ≤ 9223372036854775807) (hr1 : -9223372036854775808 ≤ dr) (hr2 : dr ≤ 9223372036854775807) (w : World) (hE : Env w) :
    Calls Tryz.prog 5 #[a.v, b.v, .int .i64 dc, .int .i64 dr] w fun e w' => e = .returned (.bool true) ∧ Below w.heap.size w w' := by
  have H1 : ∀ W, Hid _ := fun W => shift_any a dc dr hc1 hc2 hr1 hr2 W
  have H2 : ∀ W, Hid _ := fun W => refShift_any a dc dr hc1 hc2 hr1 hr2 W
  have H3 : ∀ W, Hid _ := fun W => box_any a b W
  have H4 : ∀ W, Hid _ := fun W => refBox_any a b W
  have H5 : ∀ W, Hid _ := fun W => less_any a b W
  have H6 : ∀ W, Hid _ := fun W => refLess_any a b W
  generalize (shiftR a dc dr).isSome = f at H1 H2
  generalize (shiftR a dc dr).getD Rf.zero = x at H1 H2
  obtain ⟨xs, xc, xr, xa, xb⟩ := x
  exact move_raw a.s b.s xs a.c a.r b.c b.r xc xr dc dr _ _ _ _ a.ac a.ar b.ac b.ar xa xb f _ w hE H1 H2 H3 H4 H5 H6 (fun W hW => alive_any W hW)
end Go.Proofs.YtnblbakjfpfipaaGreatDoor
