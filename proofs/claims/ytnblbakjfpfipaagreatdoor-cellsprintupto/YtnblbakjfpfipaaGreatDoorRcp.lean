/- CellsPrint, walked. -/
import Derived.Test.YtnblbakjfpfipaaGreatDoorRpt
import Derived.Test.YtnblbakjfpfipaaGreatDoorWal
namespace Go.Proofs.YtnblbakjfpfipaaGreatDoor
open Go.RowKit

set_option maxRecDepth 100000 in
set_option maxHeartbeats 8000000 in
theorem cprint_raw (sa sb ss sp sr sl sq : ByteArray) (ca ra cb rb n cn : Int) (aca ara acb arb f nb rb2 : Bool) (w : World) (hE : Env w)
    (H6 : ∀ W, Hid (Calls Tryz.prog 6 #[.string ss] W fun e w' => e = .returned (.tuple #[.int .i64 cn, .bool f]) ∧ Below W.heap.size W w'))
    (H7 : ∀ W, Hid (Calls Tryz.prog 7 #[.string ss] W fun e w' => e = .returned (.tuple #[.int .i64 cn, .bool f]) ∧ Below W.heap.size W w'))
    (H8 : ∀ W, Env W → Hid (Calls Tryz.prog 8 #[.agg #[.string sa, .int .i64 ca, .int .i64 ra, .bool aca, .bool ara]] W fun e w' => e = .returned (.string sp) ∧ Below W.heap.size W w'))
    (H9 : ∀ W, Hid (Calls Tryz.prog 9 #[.agg #[.string sa, .int .i64 ca, .int .i64 ra, .bool aca, .bool ara]] W fun e w' => e = .returned (.string sp) ∧ Below W.heap.size W w'))
    (H10 : ∀ W, Env W → Hid (Calls Tryz.prog 10 #[.agg #[.string sa, .int .i64 ca, .int .i64 ra, .bool aca, .bool ara], .agg #[.string sb, .int .i64 cb, .int .i64 rb, .bool acb, .bool arb]] W fun e w' => e = .returned (.string sr) ∧ Below W.heap.size W w'))
    (H11 : ∀ W, Hid (Calls Tryz.prog 11 #[.agg #[.string sa, .int .i64 ca, .int .i64 ra, .bool aca, .bool ara], .agg #[.string sb, .int .i64 cb, .int .i64 rb, .bool acb, .bool arb]] W fun e w' => e = .returned (.string sr) ∧ Below W.heap.size W w'))
    (H12 : ∀ W, Hid (Calls Tryz.prog 12 #[.int .i64 n] W fun e w' => e = .returned (.string sl) ∧ Below W.heap.size W w'))
    (H13 : ∀ W, Hid (Calls Tryz.prog 13 #[.int .i64 n] W fun e w' => e = .returned (.string sl) ∧ Below W.heap.size W w'))
    (H14 : ∀ W, Env W → Hid (Calls Tryz.prog 14 #[.string ss] W fun e w' => e = .returned (.string sq) ∧ Below W.heap.size W w'))
    (H15 : ∀ W, Hid (Calls Tryz.prog 15 #[.string ss] W fun e w' => e = .returned (.string sq) ∧ Below W.heap.size W w'))
    (H16 : ∀ W, Hid (Calls Tryz.prog 16 #[.string ss] W fun e w' => e = .returned (.bool nb) ∧ Below W.heap.size W w'))
    (H17 : ∀ W, Hid (Calls Tryz.prog 17 #[.string ss] W fun e w' => e = .returned (.bool nb) ∧ Below W.heap.size W w'))
    (H18 : ∀ W, Hid (Calls Tryz.prog 18 #[.agg #[.string sa, .int .i64 ca, .int .i64 ra, .bool aca, .bool ara]] W fun e w' => e = .returned (.bool rb2) ∧ Below W.heap.size W w'))
    (H19 : ∀ W, Hid (Calls Tryz.prog 19 #[.agg #[.string sa, .int .i64 ca, .int .i64 ra, .bool aca, .bool ara]] W fun e w' => e = .returned (.bool rb2) ∧ Below W.heap.size W w'))
    (H20 : ∀ W, Env W → Hid (Calls Tryz.prog 20 #[] W fun e w' => e = .returned (.bool true) ∧ Below W.heap.size W w'))
    : Calls Tryz.prog 3 #[.agg #[.string sa, .int .i64 ca, .int .i64 ra, .bool aca, .bool ara], .agg #[.string sb, .int .i64 cb, .int .i64 rb, .bool acb, .bool arb], .int .i64 n, .string ss] w fun e w' => e = .returned (.bool true) ∧ Below w.heap.size w w' := by
  go_enter Tryz.func3, Tryz.ntmps3
  go_wp2_with fail
  refine Calls.mono (H6 _).out ?_
  rintro _ w1 ⟨rfl, b1⟩
  obtain ⟨hA1, hC1, hB1⟩ := two_rows w w1 _ _ _ _ b1
  clear b1 H6
  go_wp2_with fail
  refine Calls.mono (H7 _).out ?_
  rintro _ W ⟨rfl, b2⟩
  have hA := hA1.below b2 hA1.lt
  have hC := hC1.below b2 hC1.lt
  have hB := hB1.trans (b2.mono hB1.size)
  clear b2 H7 hA1 hC1 hB1
  have hE0 := hE.below hB
  have S0 : Below W.heap.size W W.drew := (Below.refl _ W).drew
  go_wp2_with fail
  generalize (Value.tuple #[.int .i64 cn, .bool f]) = t1
  generalize (Value.agg #[.string sa, .int .i64 ca, .int .i64 ra, .bool aca, .bool ara]) = t3
  generalize (Value.agg #[.string sb, .int .i64 cb, .int .i64 rb, .bool acb, .bool arb]) = t4
  refine wp_region_M (fun wx : World => Below W.heap.size W wx) (fun j => decide (j < 56)) 56 rfl (by kernel_rfl) ?_
  refine wpM_held 2 (v := .agg #[.string sa, .int .i64 ca, .int .i64 ra, .bool aca, .bool ara]) rfl (by kernel_rfl) (by kernel_rfl) rfl (fun _ _ _ h => h) rfl (by intro wx hx; obtain ⟨x0, x1, x2, x3, x4⟩ := (hA.below hx hA.lt).five; go_simp <;> rfl) S0 ?_
  obtain ⟨x0, x1, x2, x3, x4⟩ := (hA.below S0 hA.lt).five
  refine wpM_one 0 rfl (by kernel_rfl) rfl ?_
  go_wp2_with fail
  refine ⟨fun _ => S0, ?_⟩
  clear x0 x1 x2 x3 x4
  refine wpM_one 1 rfl (by kernel_rfl) rfl ?_
  go_wp2_with fail
  refine Calls.mono (H8 _ (hE0.below S0)).out ?_
  rintro _ v1 ⟨rfl, hb⟩
  have S1 : Below W.heap.size W v1 := S0.trans (hb.mono S0.size)
  clear hb H8
  go_wp2_with fail
  refine ⟨fun _ => S1, ?_⟩
  refine wpM_one 3 rfl (by kernel_rfl) rfl ?_
  go_wp2_with fail
  refine Calls.mono (H9 _).out ?_
  rintro _ v2 ⟨rfl, hb⟩
  have S2 : Below W.heap.size W v2 := S1.trans (hb.mono S1.size)
  clear hb H9
  go_wp2_with fail
  refine ⟨fun _ => S2, ?_⟩
  have eq1 : (sp.toList == sp.toList) = true := by simp
  refine wpM_one 4 rfl (by kernel_rfl) rfl ?_
  go_wp2_with fail
  refine ⟨fun _ => S2, ?_⟩
  clear eq1
  refine wpM_one 5 rfl (by kernel_rfl) rfl ?_
  go_wp2_with fail
  refine ⟨fun _ => S2, ?_⟩
  refine wpM_held 9 (v := .agg #[.string sa, .int .i64 ca, .int .i64 ra, .bool aca, .bool ara]) rfl (by kernel_rfl) (by kernel_rfl) rfl (fun _ _ _ h => h) rfl (by intro wx hx; obtain ⟨x0, x1, x2, x3, x4⟩ := (hA.below hx hA.lt).five; go_simp <;> rfl) S2 ?_
  refine wpM_held 10 (v := .agg #[.string sb, .int .i64 cb, .int .i64 rb, .bool acb, .bool arb]) rfl (by kernel_rfl) (by kernel_rfl) rfl (fun _ _ _ h => h) rfl (by intro wx hx; obtain ⟨x0, x1, x2, x3, x4⟩ := (hC.below hx hC.lt).five; go_simp <;> rfl) S2 ?_
  refine wpM_held 6 (v := .agg #[.string sa, .int .i64 ca, .int .i64 ra, .bool aca, .bool ara]) rfl (by kernel_rfl) (by kernel_rfl) rfl (fun _ _ _ h => h) rfl (by intro wx hx; obtain ⟨x0, x1, x2, x3, x4⟩ := (hA.below hx hA.lt).five; go_simp <;> rfl) S2 ?_
  obtain ⟨x0, x1, x2, x3, x4⟩ := (hC.below S2 hC.lt).five
  refine wpM_one 7 rfl (by kernel_rfl) rfl ?_
  go_wp2_with fail
  refine ⟨fun _ => S2, ?_⟩
  clear x0 x1 x2 x3 x4
  refine wpM_one 8 rfl (by kernel_rfl) rfl ?_
  go_wp2_with fail
  refine Calls.mono (H10 _ (hE0.below S2)).out ?_
  rintro _ v3 ⟨rfl, hb⟩
  have S3 : Below W.heap.size W v3 := S2.trans (hb.mono S2.size)
  clear hb H10
  go_wp2_with fail
  refine ⟨fun _ => S3, ?_⟩
  refine wpM_one 11 rfl (by kernel_rfl) rfl ?_
  go_wp2_with fail
  refine Calls.mono (H11 _).out ?_
  rintro _ v4 ⟨rfl, hb⟩
  have S4 : Below W.heap.size W v4 := S3.trans (hb.mono S3.size)
  clear hb H11
  go_wp2_with fail
  refine ⟨fun _ => S4, ?_⟩
  have eq1 : (sr.toList == sr.toList) = true := by simp
  refine wpM_one 12 rfl (by kernel_rfl) rfl ?_
  go_wp2_with fail
  refine ⟨fun _ => S4, ?_⟩
  clear eq1
  refine wpM_one 13 rfl (by kernel_rfl) rfl ?_
  go_wp2_with fail
  refine ⟨fun _ => S4, ?_⟩
  refine wpM_one 14 rfl (by kernel_rfl) rfl ?_
  go_wp2_with fail
  refine ⟨fun _ => S4, ?_⟩
  refine wpM_held 17 (v := .int .i64 n) rfl (by kernel_rfl) (by kernel_rfl) rfl (fun _ _ _ h => h) rfl (by intro wx hx; go_simp <;> rfl) S4 ?_
  refine wpM_one 15 rfl (by kernel_rfl) rfl ?_
  go_wp2_with fail
  refine ⟨fun _ => S4, ?_⟩
  refine wpM_one 16 rfl (by kernel_rfl) rfl ?_
  go_wp2_with fail
  refine Calls.mono (H12 _).out ?_
  rintro _ v5 ⟨rfl, hb⟩
  have S5 : Below W.heap.size W v5 := S4.trans (hb.mono S4.size)
  clear hb H12
  go_wp2_with fail
  refine ⟨fun _ => S5, ?_⟩
  refine wpM_one 18 rfl (by kernel_rfl) rfl ?_
  go_wp2_with fail
  refine Calls.mono (H13 _).out ?_
  rintro _ v6 ⟨rfl, hb⟩
  have S6 : Below W.heap.size W v6 := S5.trans (hb.mono S5.size)
  clear hb H13
  go_wp2_with fail
  refine ⟨fun _ => S6, ?_⟩
  have eq1 : (sl.toList == sl.toList) = true := by simp
  refine wpM_one 19 rfl (by kernel_rfl) rfl ?_
  go_wp2_with fail
  refine ⟨fun _ => S6, ?_⟩
  clear eq1
  refine wpM_one 20 rfl (by kernel_rfl) rfl ?_
  go_wp2_with fail
  refine ⟨fun _ => S6, ?_⟩
  refine wpM_one 21 rfl (by kernel_rfl) rfl ?_
  go_wp2_with fail
  refine ⟨fun _ => S6, ?_⟩
  refine wpM_held 22 (v := .int .i64 cn) rfl (by kernel_rfl) (by kernel_rfl) rfl (fun _ _ _ h => h) rfl (by intro wx hx; go_simp <;> rfl) S6 ?_
  refine wpM_one 23 rfl (by kernel_rfl) rfl ?_
  go_wp2_with fail
  refine ⟨fun _ => S6, ?_⟩
  have eq1 : (cn == cn) = true := by simp
  refine wpM_one 24 rfl (by kernel_rfl) rfl ?_
  go_wp2_with fail
  refine ⟨fun _ => S6, ?_⟩
  clear eq1
  refine wpM_one 25 rfl (by kernel_rfl) rfl ?_
  go_wp2_with fail
  refine ⟨fun _ => S6, ?_⟩
  refine wpM_one 26 rfl (by kernel_rfl) rfl ?_
  go_wp2_with fail
  refine ⟨fun _ => S6, ?_⟩
  refine wpM_held 27 (v := .bool f) rfl (by kernel_rfl) (by kernel_rfl) rfl (fun _ _ _ h => h) rfl (by intro wx hx; go_simp <;> rfl) S6 ?_
  refine wpM_one 28 rfl (by kernel_rfl) rfl ?_
  go_wp2_with fail
  refine ⟨fun _ => S6, ?_⟩
  have eq1 : (f == f) = true := by simp
  refine wpM_one 29 rfl (by kernel_rfl) rfl ?_
  go_wp2_with fail
  refine ⟨fun _ => S6, ?_⟩
  clear eq1
  refine wpM_one 30 rfl (by kernel_rfl) rfl ?_
  go_wp2_with fail
  refine ⟨fun _ => S6, ?_⟩
  refine wpM_one 31 rfl (by kernel_rfl) rfl ?_
  go_wp2_with fail
  refine ⟨fun _ => S6, ?_⟩
  refine wpM_held 34 (v := .string ss) rfl (by kernel_rfl) (by kernel_rfl) rfl (fun _ _ _ h => h) rfl (by intro wx hx; go_simp <;> rfl) S6 ?_
  refine wpM_one 32 rfl (by kernel_rfl) rfl ?_
  go_wp2_with fail
  refine ⟨fun _ => S6, ?_⟩
  refine wpM_one 33 rfl (by kernel_rfl) rfl ?_
  go_wp2_with fail
  refine Calls.mono (H14 _ (hE0.below S6)).out ?_
  rintro _ v7 ⟨rfl, hb⟩
  have S7 : Below W.heap.size W v7 := S6.trans (hb.mono S6.size)
  clear hb H14
  go_wp2_with fail
  refine ⟨fun _ => S7, ?_⟩
  refine wpM_one 35 rfl (by kernel_rfl) rfl ?_
  go_wp2_with fail
  refine Calls.mono (H15 _).out ?_
  rintro _ v8 ⟨rfl, hb⟩
  have S8 : Below W.heap.size W v8 := S7.trans (hb.mono S7.size)
  clear hb H15
  go_wp2_with fail
  refine ⟨fun _ => S8, ?_⟩
  have eq1 : (sq.toList == sq.toList) = true := by simp
  refine wpM_one 36 rfl (by kernel_rfl) rfl ?_
  go_wp2_with fail
  refine ⟨fun _ => S8, ?_⟩
  clear eq1
  refine wpM_one 37 rfl (by kernel_rfl) rfl ?_
  go_wp2_with fail
  refine ⟨fun _ => S8, ?_⟩
  refine wpM_one 38 rfl (by kernel_rfl) rfl ?_
  go_wp2_with fail
  refine ⟨fun _ => S8, ?_⟩
  refine wpM_held 41 (v := .string ss) rfl (by kernel_rfl) (by kernel_rfl) rfl (fun _ _ _ h => h) rfl (by intro wx hx; go_simp <;> rfl) S8 ?_
  refine wpM_one 39 rfl (by kernel_rfl) rfl ?_
  go_wp2_with fail
  refine ⟨fun _ => S8, ?_⟩
  refine wpM_one 40 rfl (by kernel_rfl) rfl ?_
  go_wp2_with fail
  refine Calls.mono (H16 _).out ?_
  rintro _ v9 ⟨rfl, hb⟩
  have S9 : Below W.heap.size W v9 := S8.trans (hb.mono S8.size)
  clear hb H16
  go_wp2_with fail
  refine ⟨fun _ => S9, ?_⟩
  refine wpM_one 42 rfl (by kernel_rfl) rfl ?_
  go_wp2_with fail
  refine Calls.mono (H17 _).out ?_
  rintro _ v10 ⟨rfl, hb⟩
  have S10 : Below W.heap.size W v10 := S9.trans (hb.mono S9.size)
  clear hb H17
  go_wp2_with fail
  refine ⟨fun _ => S10, ?_⟩
  have eq1 : (nb == nb) = true := by simp
  refine wpM_one 43 rfl (by kernel_rfl) rfl ?_
  go_wp2_with fail
  refine ⟨fun _ => S10, ?_⟩
  clear eq1
  refine wpM_one 44 rfl (by kernel_rfl) rfl ?_
  go_wp2_with fail
  refine ⟨fun _ => S10, ?_⟩
  refine wpM_one 45 rfl (by kernel_rfl) rfl ?_
  go_wp2_with fail
  refine ⟨fun _ => S10, ?_⟩
  refine wpM_held 48 (v := .agg #[.string sa, .int .i64 ca, .int .i64 ra, .bool aca, .bool ara]) rfl (by kernel_rfl) (by kernel_rfl) rfl (fun _ _ _ h => h) rfl (by intro wx hx; obtain ⟨x0, x1, x2, x3, x4⟩ := (hA.below hx hA.lt).five; go_simp <;> rfl) S10 ?_
  obtain ⟨x0, x1, x2, x3, x4⟩ := (hA.below S10 hA.lt).five
  refine wpM_one 46 rfl (by kernel_rfl) rfl ?_
  go_wp2_with fail
  refine ⟨fun _ => S10, ?_⟩
  clear x0 x1 x2 x3 x4
  refine wpM_one 47 rfl (by kernel_rfl) rfl ?_
  go_wp2_with fail
  refine Calls.mono (H18 _).out ?_
  rintro _ v11 ⟨rfl, hb⟩
  have S11 : Below W.heap.size W v11 := S10.trans (hb.mono S10.size)
  clear hb H18
  go_wp2_with fail
  refine ⟨fun _ => S11, ?_⟩
  refine wpM_one 49 rfl (by kernel_rfl) rfl ?_
  go_wp2_with fail
  refine Calls.mono (H19 _).out ?_
  rintro _ v12 ⟨rfl, hb⟩
  have S12 : Below W.heap.size W v12 := S11.trans (hb.mono S11.size)
  clear hb H19
  go_wp2_with fail
  refine ⟨fun _ => S12, ?_⟩
  have eq1 : (rb2 == rb2) = true := by simp
  refine wpM_one 50 rfl (by kernel_rfl) rfl ?_
  go_wp2_with fail
  refine ⟨fun _ => S12, ?_⟩
  clear eq1
  refine wpM_one 51 rfl (by kernel_rfl) rfl ?_
  go_wp2_with fail
  refine ⟨fun _ => S12, ?_⟩
  refine wpM_one 52 rfl (by kernel_rfl) rfl ?_
  go_wp2_with fail
  refine ⟨fun _ => S12, ?_⟩
  refine wpM_one 53 rfl (by kernel_rfl) rfl ?_
  go_wp2_with fail
  refine Calls.mono (H20 _ (hE0.below S12)).out ?_
  rintro _ v13 ⟨rfl, hb⟩
  have S13 : Below W.heap.size W v13 := S12.trans (hb.mono S12.size)
  clear hb H20
  go_wp2_with fail
  refine ⟨fun _ => S13, ?_⟩
  refine wpM_one 54 rfl (by kernel_rfl) rfl ?_
  go_wp2_with fail
  refine ⟨fun _ => S13, ?_⟩
  refine wpM_one 55 rfl (by kernel_rfl) rfl ?_
  go_wp2_with fail
  refine ⟨fun _ => S13, ?_⟩
  refine wpM_done (by kernel_rfl) ?_
  go_wp2
  go_ret
  exact ⟨rfl, hB.trans (S13.mono hB.size)⟩
theorem below_same {w w' : World} (h : w' = w) : Below w.heap.size w w' := h ▸ Below.refl _ _
theorem cprint_any (a b : Rf) (n : Int) (l : List UInt8) (hl : l.length ≤ 1048576) (w : World) (hE : Env w) :
    Calls Tryz.prog 3 #[a.v, b.v, .int .i64 n, .string (bs l)] w fun e w' => e = .returned (.bool true) ∧ Below w.heap.size w w' :=
  cprint_raw a.s b.s (bs l) (bs (printL a)) (bs (printRangeL a b)) (bs (lettersS n)) (bs (quoteL l)) a.c a.r b.c b.r n ((colOf l).getD 0 : Nat) a.ac a.ar b.ac b.ar (colOf l).isSome (nameS l) (rightB a) w hE
    (fun W => (col_any l (by omega) W).mono fun _ _ h => ⟨h.1, below_same h.2⟩) (fun W => refCol_any l W)
    (fun W hW => print_any a W hW) (fun W => refPrint_any a W) (fun W hW => printRange_any a b W hW) (fun W => refPrintRange_any a b W)
    (fun W => letters_any n W) (fun W => refLetters_any n W) (fun W hW => quote_any l (by omega) W hW) (fun W => refQuote_any l (by omega) W)
    (fun W => (sheetName_any (bs l) W).mono fun _ _ h => ⟨h.1, below_same h.2⟩) (fun W => refName_any (bs l) W) (fun W => right_any a W) (fun W => refRight_any a W) (fun W hW => alive_any W hW)
end Go.Proofs.YtnblbakjfpfipaaGreatDoor
