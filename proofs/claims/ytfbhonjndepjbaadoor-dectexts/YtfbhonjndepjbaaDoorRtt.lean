import Derived.Test.YtfbhonjndepjbaaDoorRpx
import Derived.Test.YtfbhonjndepjbaaDoorWal
import Derived.Laws.StructEq
/- DecTexts' walk, given the document's Parse. -/
namespace Go.Proofs.YtfbhonjndepjbaaDoor
open Go.RowKit

theorem decPv_form (l : List UInt8) : ∃ p q s : Int, decPv l = .tuple #[.agg #[.int .i64 p, .int .i64 q], .int .i64 s] := by
  unfold decPv
  split
  · exact ⟨0, 0, 40, rfl⟩
  · exact decV_form _
set_option maxRecDepth 100000 in
set_option maxHeartbeats 2000000 in
theorem texts_any (l : List UInt8) (hl : l.length ≤ 140737488351232) (c e : Int) (hc : I64 c) (HRP : ∀ W, Calls Tryd.prog 39 #[.string (bs l)] W fun r w' => r = .returned (decPv l) ∧ Below W.heap.size W w') (w : World) (htab : PTab w) :
    Calls Tryd.prog 6 #[.string (bs l), .agg #[.int .i64 c, .int .i64 e]] w fun r w' => r = .returned (.bool true) ∧ Below w.heap.size w w' := by
  obtain ⟨ST, HP, HR⟩ : ∃ ST : ByteArray, (∀ W, PTab W → Hid (Calls Tryd.prog 40 #[.agg #[.int .i64 c, .int .i64 e]] W fun r w' => r = .returned (.string ST) ∧ Below W.heap.size W w')) ∧ (∀ W, Hid (Calls Tryd.prog 41 #[.agg #[.int .i64 c, .int .i64 e]] W fun r w' => r = .returned (.string ST) ∧ Below W.heap.size W w')) := by
    by_cases hw : within e
    · exact ⟨printS c e, fun W h => print_any c e hc hw W h, fun W => rprint_ok c e hc hw W _ rfl⟩
    · exact ⟨⟨#[63]⟩, fun W _ => print_bad c e hw W, fun W => rprint_bad c e hc hw W⟩
  have HQ : ∀ W, Hid (Calls Tryd.prog 38 #[.string (bs l)] W _) := fun W => dparse_any l hl W
  have HQ2 : ∀ W, Hid (Calls Tryd.prog 39 #[.string (bs l)] W _) := HRP
  obtain ⟨p, q, s, hf⟩ := decPv_form l
  rw [hf] at HQ HQ2
  have HA : ∀ W, Hid (Calls Tryd.prog 17 #[] W fun r w' => r = .returned (.bool true) ∧ Below W.heap.size W w') := fun W => alive_any W
  have HPT : Hid (PTab w) := htab
  clear HRP hf hc hl htab
  generalize bs l = str at *
  have r1 := Row.new w 23 #[.int .i64 c, .int .i64 e]
  have b0 := (Below.refl _ w).alloc (Nat.le_refl _) (.cells #[.int .i64 c, .int .i64 e] 23)
  go_enter Tryd.func6, Tryd.ntmps6
  go_wp2_with fail
  refine Calls.mono (HQ _).out ?_
  rintro _ w1 ⟨rfl, b1⟩
  have q1 := (r1.below b1 r1.lt).alloc (.cells #[.int .i64 p, .int .i64 q] 23)
  have x1 := Row.new w1 23 #[.int .i64 p, .int .i64 q]
  have hB1 := b0.trans (b1.mono b0.size)
  have hB2 := hB1.alloc hB1.size (.cells #[.int .i64 p, .int .i64 q] 23)
  clear r1 b0 b1 HQ hB1
  go_wp2_with fail
  generalize w1.alloc (.cells #[.int .i64 p, .int .i64 q] 23) = W2 at *
  generalize w1.heap.size = X at *
  refine Calls.mono (HQ2 _).out ?_
  rintro _ w2 ⟨rfl, b2⟩
  have q2 := (q1.below b2 q1.lt).alloc (.cells #[.int .i64 p, .int .i64 q] 23)
  have x2 := (x1.below b2 x1.lt).alloc (.cells #[.int .i64 p, .int .i64 q] 23)
  have y2 := Row.new w2 23 #[.int .i64 p, .int .i64 q]
  have hB3 := hB2.trans (b2.mono hB2.size)
  have hB4 := hB3.alloc hB3.size (.cells #[.int .i64 p, .int .i64 q] 23)
  clear q1 x1 b2 HQ2 hB2 hB3
  go_wp2_with fail
  generalize w2.alloc (.cells #[.int .i64 p, .int .i64 q] 23) = W3 at *
  generalize w2.heap.size = Y at *
  have hS : Below W3.heap.size W3 W3.drew := (Below.refl _ W3).drew
  have HT3 : Hid (PTab W3.drew) := (HPT.out.below hB4.drew)
  have ca : ∀ wx, Below W3.heap.size W3 wx → wx.cell? ⟨w.heap.size, 0, none⟩ = some (.int .i64 c) ∧ wx.cell? ⟨w.heap.size, 1, none⟩ = some (.int .i64 e) := fun wx hx => (q2.below hx q2.lt).duo
  have cx : ∀ wx, Below W3.heap.size W3 wx → wx.cell? ⟨X, 0, none⟩ = some (.int .i64 p) ∧ wx.cell? ⟨X, 1, none⟩ = some (.int .i64 q) := fun wx hx => (x2.below hx x2.lt).duo
  have cy : ∀ wx, Below W3.heap.size W3 wx → wx.cell? ⟨Y, 0, none⟩ = some (.int .i64 p) ∧ wx.cell? ⟨Y, 1, none⟩ = some (.int .i64 q) := fun wx hx => (y2.below hx y2.lt).duo
  refine wp_region_M (fun wx : World => Below W3.heap.size W3 wx) (fun j => decide (j < 19)) 19 rfl (by kernel_rfl) ?_
  refine wpM_held 0 (v := .agg #[.int .i64 p, .int .i64 q]) rfl (by kernel_rfl) (by kernel_rfl) rfl (fun _ _ _ h => h) rfl (by intro wx hx; obtain ⟨x0, x1⟩ := cx wx hx; go_simp <;> rfl) hS ?_
  refine wpM_held 1 (v := .agg #[.int .i64 p, .int .i64 q]) rfl (by kernel_rfl) (by kernel_rfl) rfl (fun _ _ _ h => h) rfl (by intro wx hx; obtain ⟨x0, x1⟩ := cy wx hx; go_simp <;> rfl) hS ?_
  refine wpM_one 2 rfl (by kernel_rfl) rfl ?_
  go_wp2_with fail
  refine ⟨fun _ => hS, ?_⟩
  refine wpM_one 3 rfl (by kernel_rfl) rfl ?_
  go_wp2_with fail
  refine ⟨fun _ => hS, ?_⟩
  refine wpM_held 4 (v := .int .i64 s) rfl (by kernel_rfl) (by kernel_rfl) rfl (fun _ _ _ h => h) rfl (by intro wx hx; go_simp <;> rfl) hS ?_
  refine wpM_held 5 (v := .int .i64 s) rfl (by kernel_rfl) (by kernel_rfl) rfl (fun _ _ _ h => h) rfl (by intro wx hx; go_simp <;> rfl) hS ?_
  refine wpM_one 6 rfl (by kernel_rfl) rfl ?_
  go_wp2_with fail
  refine ⟨fun _ => hS, ?_⟩
  refine wpM_one 7 rfl (by kernel_rfl) rfl ?_
  go_wp2_with fail
  refine ⟨fun _ => hS, ?_⟩
  refine wpM_one 8 rfl (by kernel_rfl) rfl ?_
  go_wp2_with fail
  refine ⟨fun _ => hS, ?_⟩
  refine wpM_held 9 (v := .agg #[.int .i64 c, .int .i64 e]) rfl (by kernel_rfl) (by kernel_rfl) rfl (fun _ _ _ h => h) rfl (by intro wx hx; obtain ⟨x0, x1⟩ := ca wx hx; go_simp <;> rfl) hS ?_
  refine wpM_held 11 (v := .agg #[.int .i64 c, .int .i64 e]) rfl (by kernel_rfl) (by kernel_rfl) rfl (fun _ _ _ h => h) rfl (by intro wx hx; obtain ⟨x0, x1⟩ := ca wx hx; go_simp <;> rfl) hS ?_
  refine wpM_one 10 rfl (by kernel_rfl) rfl ?_
  go_wp2_with fail
  refine Calls.mono (HP _ HT3.out).out ?_
  rintro _ w4 ⟨rfl, b4⟩
  have hS4 : Below W3.heap.size W3 w4 := hS.trans (b4.mono hS.size)
  clear b4 hS
  go_wp2_with fail
  refine ⟨fun _ => hS4, ?_⟩
  refine wpM_one 12 rfl (by kernel_rfl) rfl ?_
  go_wp2_with fail
  refine Calls.mono (HR _).out ?_
  rintro _ w5 ⟨rfl, b5⟩
  have hS5 : Below W3.heap.size W3 w5 := hS4.trans (b5.mono hS4.size)
  clear b5 hS4
  go_wp2_with fail
  refine ⟨fun _ => hS5, ?_⟩
  refine wpM_one 13 rfl (by kernel_rfl) rfl ?_
  go_wp2_with fail
  refine ⟨fun _ => hS5, ?_⟩
  refine wpM_one 14 rfl (by kernel_rfl) rfl ?_
  go_wp2_with fail
  refine ⟨fun _ => hS5, ?_⟩
  refine wpM_one 15 rfl (by kernel_rfl) rfl ?_
  go_wp2_with fail
  refine ⟨fun _ => hS5, ?_⟩
  refine wpM_one 16 rfl (by kernel_rfl) rfl ?_
  go_wp2_with fail
  refine Calls.mono (HA _).out ?_
  rintro _ w6 ⟨rfl, b6⟩
  have hS6 : Below W3.heap.size W3 w6 := hS5.trans (b6.mono hS5.size)
  clear b6 hS5
  go_wp2_with fail
  refine ⟨fun _ => hS6, ?_⟩
  refine wpM_one 17 rfl (by kernel_rfl) rfl ?_
  go_wp2_with fail
  refine ⟨fun _ => hS6, ?_⟩
  refine wpM_one 18 rfl (by kernel_rfl) rfl ?_
  go_wp2_with fail
  refine ⟨fun _ => hS6, ?_⟩
  refine wpM_done (by kernel_rfl) ?_
  have hBe := hB4.trans (hS6.mono hB4.size)
  go_wp2
  go_ret
  exact ⟨rfl, hBe⟩
end Go.Proofs.YtfbhonjndepjbaaDoor
