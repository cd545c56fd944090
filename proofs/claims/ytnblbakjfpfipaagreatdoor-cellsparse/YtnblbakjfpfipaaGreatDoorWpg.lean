import Derived.Test.YtnblbakjfpfipaaGreatDoorWpt
/- PrintRange. -/
namespace Go.Proofs.YtnblbakjfpfipaaGreatDoor
open Go.RowKit

/-- The second one with the first one's sheet, if it has none. -/
def withSheet (a b : Rf) : Rf := if b.s.toList.isEmpty then ⟨a.s, b.c, b.r, b.ac, b.ar⟩ else b
/-- How a range is written. -/
def printRangeL (a b : Rf) : List UInt8 :=
  if rightB a && rightB (withSheet a b) && (a.s.toList == (withSheet a b).s.toList) then printL a ++ [58] ++ placeL b.c b.r b.ac b.ar else goneL
theorem printL_len (x : Rf) : (printL x).length ≤ 72 := by
  unfold printL
  split
  · rename_i h
    have hb := rightB_bounds h
    have h1 := placeL_len x.c x.r x.ac x.ar (by omega) (by omega)
    have h2 := quoteL_len x.s.data.toList
    have h3 := rightB_len h
    split
    · omega
    · simp only [List.length_append, List.length_cons, List.length_nil]
      omega
  · simp [goneL]
set_option maxRecDepth 100000 in
set_option maxHeartbeats 2000000 in
theorem pr_ae (sa sb : ByteArray) (ca ra cb rb : Int) (aca ara acb arb : Bool) (he : sb.toList.isEmpty = true) (HA : ∀ W, Hid (Calls Tryz.prog 18 #[.agg #[.string sa, .int .i64 ca, .int .i64 ra, .bool aca, .bool ara]] W fun e w' => e = .returned (.bool false) ∧ Below W.heap.size W w')) (w : World) :
    Calls Tryz.prog 10 #[.agg #[.string sa, .int .i64 ca, .int .i64 ra, .bool aca, .bool ara], .agg #[.string sb, .int .i64 cb, .int .i64 rb, .bool acb, .bool arb]] w fun e w' => e = .returned (.string (bs goneL)) ∧ Below w.heap.size w w' := by
  go_enter Tryz.func10, Tryz.ntmps10
  go_wp2_with fail
  refine Calls.mono (HA _).out ?_
  rintro _ w1 ⟨rfl, b1⟩
  obtain ⟨hA, hC, hB⟩ := two_rows w w1 _ _ _ _ b1
  clear b1 HA
  go_wp2
  go_ret
  exact ⟨rfl, hB⟩
set_option maxRecDepth 100000 in
set_option maxHeartbeats 2000000 in
theorem pr_be (sa sb : ByteArray) (ca ra cb rb : Int) (aca ara acb arb : Bool) (he : sb.toList.isEmpty = true) (HA : ∀ W, Hid (Calls Tryz.prog 18 #[.agg #[.string sa, .int .i64 ca, .int .i64 ra, .bool aca, .bool ara]] W fun e w' => e = .returned (.bool true) ∧ Below W.heap.size W w')) (HC : ∀ W, Hid (Calls Tryz.prog 18 #[.agg #[.string sa, .int .i64 cb, .int .i64 rb, .bool acb, .bool arb]] W fun e w' => e = .returned (.bool false) ∧ Below W.heap.size W w')) (w : World) :
    Calls Tryz.prog 10 #[.agg #[.string sa, .int .i64 ca, .int .i64 ra, .bool aca, .bool ara], .agg #[.string sb, .int .i64 cb, .int .i64 rb, .bool acb, .bool arb]] w fun e w' => e = .returned (.string (bs goneL)) ∧ Below w.heap.size w w' := by
  go_enter Tryz.func10, Tryz.ntmps10
  go_wp2_with fail
  refine Calls.mono (HA _).out ?_
  rintro _ w1 ⟨rfl, b1⟩
  obtain ⟨hA, hC, hB⟩ := two_rows w w1 _ _ _ _ b1
  have hlt := hC.lt
  clear b1 HA
  obtain ⟨c0, c1, c2, c3, c4⟩ := hC.five
  go_wp2_with fail
  refine Calls.mono (HC _).out ?_
  rintro _ w2 ⟨rfl, b2⟩
  have hA2 := hA.below b2 hA.lt
  have hC2 := hC.below b2 hC.lt
  have hB2 := hB.trans (b2.mono hB.size)
  clear b2 HC hA hC hB c0 c1 c2 c3 c4
  go_wp2
  go_ret
  exact ⟨rfl, hB2⟩
set_option maxRecDepth 100000 in
set_option maxHeartbeats 2000000 in
theorem pr_de (sa sb : ByteArray) (ca ra cb rb : Int) (aca ara acb arb : Bool) (he : sb.toList.isEmpty = true) (HA : ∀ W, Hid (Calls Tryz.prog 18 #[.agg #[.string sa, .int .i64 ca, .int .i64 ra, .bool aca, .bool ara]] W fun e w' => e = .returned (.bool true) ∧ Below W.heap.size W w')) (HC : ∀ W, Hid (Calls Tryz.prog 18 #[.agg #[.string sa, .int .i64 cb, .int .i64 rb, .bool acb, .bool arb]] W fun e w' => e = .returned (.bool true) ∧ Below W.heap.size W w')) (pl pa : List UInt8) (k1 : (bs pl).size ≤ 7) (k2 : (bs pa).size ≤ 72) (HP : ∀ W, Env W → Hid (Calls Tryz.prog 8 #[.agg #[.string sa, .int .i64 ca, .int .i64 ra, .bool aca, .bool ara]] W fun e w' => e = .returned (.string (bs pa)) ∧ Below W.heap.size W w')) (HQ : ∀ W, Env W → Hid (Calls Tryz.prog 32 #[.agg #[.string sa, .int .i64 cb, .int .i64 rb, .bool acb, .bool arb]] W fun e w' => e = .returned (.string (bs pl)) ∧ Below W.heap.size W w')) (w : World) (hE : Env w) :
    Calls Tryz.prog 10 #[.agg #[.string sa, .int .i64 ca, .int .i64 ra, .bool aca, .bool ara], .agg #[.string sb, .int .i64 cb, .int .i64 rb, .bool acb, .bool arb]] w fun e w' => e = .returned (.string (bs (pa ++ [58] ++ pl))) ∧ Below w.heap.size w w' := by
  go_enter Tryz.func10, Tryz.ntmps10
  go_wp2_with fail
  refine Calls.mono (HA _).out ?_
  rintro _ w1 ⟨rfl, b1⟩
  obtain ⟨hA, hC, hB⟩ := two_rows w w1 _ _ _ _ b1
  have hlt := hC.lt
  clear b1 HA
  obtain ⟨c0, c1, c2, c3, c4⟩ := hC.five
  go_wp2_with fail
  refine Calls.mono (HC _).out ?_
  rintro _ w2 ⟨rfl, b2⟩
  have hA2 := hA.below b2 hA.lt
  have hC2 := hC.below b2 hC.lt
  have hB2 := hB.trans (b2.mono hB.size)
  clear b2 HC hA hC hB c0 c1 c2 c3 c4
  obtain ⟨a0, a1, a2, a3, a4⟩ := hA2.five
  obtain ⟨c0, c1, c2, c3, c4⟩ := hC2.five
  have hE0 := hE.below hB2
  have hS : Below w2.heap.size w2 w2.drew := (Below.refl _ w2).drew
  have k3 : (⟨#[58]⟩ : ByteArray).size = 1 := rfl
  go_wp2_with fail
  refine wp_region_M (fun wx : World => Below w2.heap.size w2 wx) (fun j => decide (j < 7)) 7 rfl (by kernel_rfl) ?_
  refine wpM_held 0 (v := .agg #[.string sa, .int .i64 ca, .int .i64 ra, .bool aca, .bool ara]) rfl (by kernel_rfl) (by kernel_rfl) rfl (fun _ _ _ h => h) rfl (by intro wx hx; obtain ⟨x0, x1, x2, x3, x4⟩ := (hA2.below hx hA2.lt).five; go_simp <;> rfl) hS ?_
  refine wpM_held 3 (v := .agg #[.string sa, .int .i64 cb, .int .i64 rb, .bool acb, .bool arb]) rfl (by kernel_rfl) (by kernel_rfl) rfl (fun _ _ _ h => h) rfl (by intro wx hx; obtain ⟨x0, x1, x2, x3, x4⟩ := (hC2.below hx hC2.lt).five; go_simp <;> rfl) hS ?_
  refine wpM_one 1 rfl (by kernel_rfl) rfl ?_
  go_wp2_with fail
  refine Calls.mono (HP _ (hE0.below hS)).out ?_
  rintro _ w3 ⟨rfl, hb3⟩
  have hS1 : Below w2.heap.size w2 w3 := hS.trans (hb3.mono hS.size)
  clear hb3
  go_wp2_with fail
  refine ⟨fun _ => hS1, ?_⟩
  refine wpM_held 2 (v := .string (bs pa ++ ⟨#[58]⟩)) rfl (by kernel_rfl) (by kernel_rfl) rfl (fun _ _ _ h => h) rfl (by intro wx hx; go_simp <;> first | rfl | omega) hS1 ?_
  refine wpM_one 4 rfl (by kernel_rfl) rfl ?_
  go_wp2_with fail
  refine Calls.mono (HQ _ (hE0.below hS1)).out ?_
  rintro _ w4 ⟨rfl, hb4⟩
  have hS2 : Below w2.heap.size w2 w4 := hS1.trans (hb4.mono hS1.size)
  clear hb4
  go_wp2_with fail
  refine ⟨fun _ => hS2, ?_⟩
  refine wpM_one 5 rfl (by kernel_rfl) rfl ?_
  go_wp2_with fail
  refine ⟨fun _ => hS2, ?_⟩
  refine wpM_one 6 rfl (by kernel_rfl) rfl ?_
  go_wp2_with fail
  refine ⟨fun _ => hS2, ?_⟩
  refine wpM_done (by kernel_rfl) ?_
  go_wp2
  go_ret
  refine ⟨?_, hB2.trans (hS2.mono hB2.size)⟩
  rw [show (⟨#[58]⟩ : ByteArray) = bs [58] from rfl, bs_append, bs_append, List.append_assoc]
  rfl
set_option maxRecDepth 100000 in
set_option maxHeartbeats 2000000 in
theorem pr_an (sa sb : ByteArray) (ca ra cb rb : Int) (aca ara acb arb : Bool) (he : sb.toList.isEmpty = false) (HA : ∀ W, Hid (Calls Tryz.prog 18 #[.agg #[.string sa, .int .i64 ca, .int .i64 ra, .bool aca, .bool ara]] W fun e w' => e = .returned (.bool false) ∧ Below W.heap.size W w')) (w : World) :
    Calls Tryz.prog 10 #[.agg #[.string sa, .int .i64 ca, .int .i64 ra, .bool aca, .bool ara], .agg #[.string sb, .int .i64 cb, .int .i64 rb, .bool acb, .bool arb]] w fun e w' => e = .returned (.string (bs goneL)) ∧ Below w.heap.size w w' := by
  go_enter Tryz.func10, Tryz.ntmps10
  go_wp2_with fail
  refine Calls.mono (HA _).out ?_
  rintro _ w1 ⟨rfl, b1⟩
  obtain ⟨hA, hC, hB⟩ := two_rows w w1 _ _ _ _ b1
  clear b1 HA
  go_wp2
  go_ret
  exact ⟨rfl, hB⟩
set_option maxRecDepth 100000 in
set_option maxHeartbeats 2000000 in
theorem pr_bn (sa sb : ByteArray) (ca ra cb rb : Int) (aca ara acb arb : Bool) (he : sb.toList.isEmpty = false) (HA : ∀ W, Hid (Calls Tryz.prog 18 #[.agg #[.string sa, .int .i64 ca, .int .i64 ra, .bool aca, .bool ara]] W fun e w' => e = .returned (.bool true) ∧ Below W.heap.size W w')) (HC : ∀ W, Hid (Calls Tryz.prog 18 #[.agg #[.string sb, .int .i64 cb, .int .i64 rb, .bool acb, .bool arb]] W fun e w' => e = .returned (.bool false) ∧ Below W.heap.size W w')) (w : World) :
    Calls Tryz.prog 10 #[.agg #[.string sa, .int .i64 ca, .int .i64 ra, .bool aca, .bool ara], .agg #[.string sb, .int .i64 cb, .int .i64 rb, .bool acb, .bool arb]] w fun e w' => e = .returned (.string (bs goneL)) ∧ Below w.heap.size w w' := by
  go_enter Tryz.func10, Tryz.ntmps10
  go_wp2_with fail
  refine Calls.mono (HA _).out ?_
  rintro _ w1 ⟨rfl, b1⟩
  obtain ⟨hA, hC, hB⟩ := two_rows w w1 _ _ _ _ b1
  have hlt := hC.lt
  clear b1 HA
  obtain ⟨c0, c1, c2, c3, c4⟩ := hC.five
  go_wp2_with fail
  refine Calls.mono (HC _).out ?_
  rintro _ w2 ⟨rfl, b2⟩
  have hA2 := hA.below b2 hA.lt
  have hC2 := hC.below b2 hC.lt
  have hB2 := hB.trans (b2.mono hB.size)
  clear b2 HC hA hC hB c0 c1 c2 c3 c4
  go_wp2
  go_ret
  exact ⟨rfl, hB2⟩
set_option maxRecDepth 100000 in
set_option maxHeartbeats 2000000 in
theorem pr_cn (sa sb : ByteArray) (ca ra cb rb : Int) (aca ara acb arb : Bool) (he : sb.toList.isEmpty = false) (HA : ∀ W, Hid (Calls Tryz.prog 18 #[.agg #[.string sa, .int .i64 ca, .int .i64 ra, .bool aca, .bool ara]] W fun e w' => e = .returned (.bool true) ∧ Below W.heap.size W w')) (HC : ∀ W, Hid (Calls Tryz.prog 18 #[.agg #[.string sb, .int .i64 cb, .int .i64 rb, .bool acb, .bool arb]] W fun e w' => e = .returned (.bool true) ∧ Below W.heap.size W w')) (hne : (sa.toList == sb.toList) = false) (w : World) :
    Calls Tryz.prog 10 #[.agg #[.string sa, .int .i64 ca, .int .i64 ra, .bool aca, .bool ara], .agg #[.string sb, .int .i64 cb, .int .i64 rb, .bool acb, .bool arb]] w fun e w' => e = .returned (.string (bs goneL)) ∧ Below w.heap.size w w' := by
  go_enter Tryz.func10, Tryz.ntmps10
  go_wp2_with fail
  refine Calls.mono (HA _).out ?_
  rintro _ w1 ⟨rfl, b1⟩
  obtain ⟨hA, hC, hB⟩ := two_rows w w1 _ _ _ _ b1
  have hlt := hC.lt
  clear b1 HA
  obtain ⟨c0, c1, c2, c3, c4⟩ := hC.five
  go_wp2_with fail
  refine Calls.mono (HC _).out ?_
  rintro _ w2 ⟨rfl, b2⟩
  have hA2 := hA.below b2 hA.lt
  have hC2 := hC.below b2 hC.lt
  have hB2 := hB.trans (b2.mono hB.size)
  clear b2 HC hA hC hB c0 c1 c2 c3 c4
  obtain ⟨a0, a1, a2, a3, a4⟩ := hA2.five
  obtain ⟨c0, c1, c2, c3, c4⟩ := hC2.five
  go_wp2
  go_ret
  exact ⟨rfl, hB2⟩
set_option maxRecDepth 100000 in
set_option maxHeartbeats 2000000 in
theorem pr_dn (sa sb : ByteArray) (ca ra cb rb : Int) (aca ara acb arb : Bool) (he : sb.toList.isEmpty = false) (HA : ∀ W, Hid (Calls Tryz.prog 18 #[.agg #[.string sa, .int .i64 ca, .int .i64 ra, .bool aca, .bool ara]] W fun e w' => e = .returned (.bool true) ∧ Below W.heap.size W w')) (HC : ∀ W, Hid (Calls Tryz.prog 18 #[.agg #[.string sb, .int .i64 cb, .int .i64 rb, .bool acb, .bool arb]] W fun e w' => e = .returned (.bool true) ∧ Below W.heap.size W w')) (heq : (sa.toList == sb.toList) = true) (pl pa : List UInt8) (k1 : (bs pl).size ≤ 7) (k2 : (bs pa).size ≤ 72) (HP : ∀ W, Env W → Hid (Calls Tryz.prog 8 #[.agg #[.string sa, .int .i64 ca, .int .i64 ra, .bool aca, .bool ara]] W fun e w' => e = .returned (.string (bs pa)) ∧ Below W.heap.size W w')) (HQ : ∀ W, Env W → Hid (Calls Tryz.prog 32 #[.agg #[.string sb, .int .i64 cb, .int .i64 rb, .bool acb, .bool arb]] W fun e w' => e = .returned (.string (bs pl)) ∧ Below W.heap.size W w')) (w : World) (hE : Env w) :
    Calls Tryz.prog 10 #[.agg #[.string sa, .int .i64 ca, .int .i64 ra, .bool aca, .bool ara], .agg #[.string sb, .int .i64 cb, .int .i64 rb, .bool acb, .bool arb]] w fun e w' => e = .returned (.string (bs (pa ++ [58] ++ pl))) ∧ Below w.heap.size w w' := by
  go_enter Tryz.func10, Tryz.ntmps10
  go_wp2_with fail
  refine Calls.mono (HA _).out ?_
  rintro _ w1 ⟨rfl, b1⟩
  obtain ⟨hA, hC, hB⟩ := two_rows w w1 _ _ _ _ b1
  have hlt := hC.lt
  clear b1 HA
  obtain ⟨c0, c1, c2, c3, c4⟩ := hC.five
  go_wp2_with fail
  refine Calls.mono (HC _).out ?_
  rintro _ w2 ⟨rfl, b2⟩
  have hA2 := hA.below b2 hA.lt
  have hC2 := hC.below b2 hC.lt
  have hB2 := hB.trans (b2.mono hB.size)
  clear b2 HC hA hC hB c0 c1 c2 c3 c4
  obtain ⟨a0, a1, a2, a3, a4⟩ := hA2.five
  obtain ⟨c0, c1, c2, c3, c4⟩ := hC2.five
  have hE0 := hE.below hB2
  have hS : Below w2.heap.size w2 w2.drew := (Below.refl _ w2).drew
  have k3 : (⟨#[58]⟩ : ByteArray).size = 1 := rfl
  go_wp2_with fail
  refine wp_region_M (fun wx : World => Below w2.heap.size w2 wx) (fun j => decide (j < 7)) 7 rfl (by kernel_rfl) ?_
  refine wpM_held 0 (v := .agg #[.string sa, .int .i64 ca, .int .i64 ra, .bool aca, .bool ara]) rfl (by kernel_rfl) (by kernel_rfl) rfl (fun _ _ _ h => h) rfl (by intro wx hx; obtain ⟨x0, x1, x2, x3, x4⟩ := (hA2.below hx hA2.lt).five; go_simp <;> rfl) hS ?_
  refine wpM_held 3 (v := .agg #[.string sb, .int .i64 cb, .int .i64 rb, .bool acb, .bool arb]) rfl (by kernel_rfl) (by kernel_rfl) rfl (fun _ _ _ h => h) rfl (by intro wx hx; obtain ⟨x0, x1, x2, x3, x4⟩ := (hC2.below hx hC2.lt).five; go_simp <;> rfl) hS ?_
  refine wpM_one 1 rfl (by kernel_rfl) rfl ?_
  go_wp2_with fail
  refine Calls.mono (HP _ (hE0.below hS)).out ?_
  rintro _ w3 ⟨rfl, hb3⟩
  have hS1 : Below w2.heap.size w2 w3 := hS.trans (hb3.mono hS.size)
  clear hb3
  go_wp2_with fail
  refine ⟨fun _ => hS1, ?_⟩
  refine wpM_held 2 (v := .string (bs pa ++ ⟨#[58]⟩)) rfl (by kernel_rfl) (by kernel_rfl) rfl (fun _ _ _ h => h) rfl (by intro wx hx; go_simp <;> first | rfl | omega) hS1 ?_
  refine wpM_one 4 rfl (by kernel_rfl) rfl ?_
  go_wp2_with fail
  refine Calls.mono (HQ _ (hE0.below hS1)).out ?_
  rintro _ w4 ⟨rfl, hb4⟩
  have hS2 : Below w2.heap.size w2 w4 := hS1.trans (hb4.mono hS1.size)
  clear hb4
  go_wp2_with fail
  refine ⟨fun _ => hS2, ?_⟩
  refine wpM_one 5 rfl (by kernel_rfl) rfl ?_
  go_wp2_with fail
  refine ⟨fun _ => hS2, ?_⟩
  refine wpM_one 6 rfl (by kernel_rfl) rfl ?_
  go_wp2_with fail
  refine ⟨fun _ => hS2, ?_⟩
  refine wpM_done (by kernel_rfl) ?_
  go_wp2
  go_ret
  refine ⟨?_, hB2.trans (hS2.mono hB2.size)⟩
  rw [show (⟨#[58]⟩ : ByteArray) = bs [58] from rfl, bs_append, bs_append, List.append_assoc]
  rfl
theorem printRange_any (a b : Rf) (w : World) (hE : Env w) : Calls Tryz.prog 10 #[a.v, b.v] w fun e w' => e = .returned (.string (bs (printRangeL a b))) ∧ Below w.heap.size w w' := by
  have HA : ∀ W, Hid _ := fun W => right_any a W
  have HC : ∀ W, Hid _ := fun W => right_any (withSheet a b) W
  have HP : ∀ W, Env W → Hid _ := fun W hW => print_any a W hW
  have hlp := printL_len a
  unfold printRangeL
  cases h1 : rightB a
  · rw [h1] at HA
    obtain ⟨sa, ca, ra, aca, ara⟩ := a
    obtain ⟨sb, cb, rb, acb, arb⟩ := b
    cases he : sb.toList.isEmpty
    · exact pr_an sa sb ca ra cb rb aca ara acb arb he HA w
    · exact pr_ae sa sb ca ra cb rb aca ara acb arb he HA w
  cases h2 : rightB (withSheet a b)
  · rw [h1] at HA
    rw [h2] at HC
    obtain ⟨sa, ca, ra, aca, ara⟩ := a
    obtain ⟨sb, cb, rb, acb, arb⟩ := b
    unfold withSheet at HC
    cases he : sb.toList.isEmpty
    · simp only [he, Bool.false_eq_true, if_false] at HC
      exact pr_bn sa sb ca ra cb rb aca ara acb arb he HA HC w
    · simp only [he, if_true] at HC
      exact pr_be sa sb ca ra cb rb aca ara acb arb he HA HC w
  have hb := rightB_bounds h2
  have HQ : ∀ W, Env W → Hid _ := fun W hW => place_any (withSheet a b) (by omega) (by omega) W hW
  have hpl := placeL_len (withSheet a b).c (withSheet a b).r (withSheet a b).ac (withSheet a b).ar (by omega) (by omega)
  rw [h1] at HA
  rw [h2] at HC
  have ep : placeL (withSheet a b).c (withSheet a b).r (withSheet a b).ac (withSheet a b).ar = placeL b.c b.r b.ac b.ar := by unfold withSheet; split <;> rfl
  rw [ep] at HQ hpl
  generalize placeL b.c b.r b.ac b.ar = pl at HQ hpl ⊢
  generalize printL a = pa at HP hlp ⊢
  have k1 : (bs pl).size ≤ 7 := by rw [bs_size]; exact hpl
  have k2 : (bs pa).size ≤ 72 := by rw [bs_size]; exact hlp
  clear hpl hlp hb h1 h2 ep
  obtain ⟨sa, ca, ra, aca, ara⟩ := a
  obtain ⟨sb, cb, rb, acb, arb⟩ := b
  unfold withSheet at *
  cases he : sb.toList.isEmpty
  · simp only [he, Bool.false_eq_true, if_false] at HC HQ ⊢
    cases hq : (sa.toList == sb.toList)
    · exact pr_cn sa sb ca ra cb rb aca ara acb arb he HA HC hq w
    · exact pr_dn sa sb ca ra cb rb aca ara acb arb he HA HC hq pl pa k1 k2 HP HQ w hE
  · simp only [he, if_true] at HC HQ ⊢
    simp only [beq_self_eq_true, Bool.and_self, if_true]
    exact pr_de sa sb ca ra cb rb aca ara acb arb he HA HC pl pa k1 k2 HP HQ w hE
end Go.Proofs.YtnblbakjfpfipaaGreatDoor
