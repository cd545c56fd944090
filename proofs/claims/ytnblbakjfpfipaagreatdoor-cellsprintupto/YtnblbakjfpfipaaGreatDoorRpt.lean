/- The document's Print and PrintRange. -/
import Derived.Test.YtnblbakjfpfipaaGreatDoorRqt
import Derived.Test.YtnblbakjfpfipaaGreatDoorRnm
import Derived.Test.YtnblbakjfpfipaaGreatDoorRsn
import Derived.Test.YtnblbakjfpfipaaGreatDoorWpg
import Derived.Test.YtnblbakjfpfipaaGreatDoorWthp
namespace Go.Proofs.YtnblbakjfpfipaaGreatDoor
open Go.RowKit

set_option maxRecDepth 100000 in
set_option maxHeartbeats 2000000 in
theorem refPrint_any (x : Rf) (w : World) : Calls Tryz.prog 9 #[x.v] w fun e w' => e = .returned (.string (bs (printL x))) ∧ Below w.heap.size w w' := by
  have HR : ∀ W, Hid _ := fun W => refRight_any x W
  unfold printL
  cases h : rightB x
  · rw [h] at HR
    obtain ⟨s, c, r, ac, ar⟩ := x
    unfold Rf.v at HR ⊢
    simp only at HR ⊢
    clear h
    go_enter Tryz.func9, Tryz.ntmps9
    go_wp2_with fail
    refine Calls.mono (HR _).out ?_
    rintro _ w1 ⟨rfl, b1⟩
    clear HR
    go_wp2
    go_ret
    exact ⟨rfl, ((Below.refl _ w).alloc (Nat.le_refl _) _).trans (b1.mono (by simp))⟩
  · rw [h] at HR
    have hb := rightB_bounds h
    have hlen := rightB_len h
    have HP : ∀ W, Hid _ := fun W => bare_any x (by omega) (by omega) W
    have hpl := placeL_len x.c x.r x.ac x.ar (by omega) (by omega)
    have HQ : ∀ W, Hid (Calls Tryz.prog 15 #[.string x.s] W fun e w' => e = .returned (.string (bs (quoteL x.s.data.toList))) ∧ Below W.heap.size W w') := fun W => refQuote_any x.s.data.toList (by omega) W
    have hql := quoteL_len x.s.data.toList
    obtain ⟨s, c, r, ac, ar⟩ := x
    unfold Rf.v at HR HP ⊢
    simp only at HR HP HQ hql hlen hpl ⊢
    have kp : (bs (placeL c r ac ar)).size ≤ 7 := by rw [bs_size]; exact hpl
    have kq : (bs (quoteL s.data.toList)).size ≤ 64 := by rw [bs_size]; omega
    generalize placeL c r ac ar = pl at HP kp ⊢
    generalize quoteL s.data.toList = ql at HQ kq ⊢
    clear hb hpl hql hlen h
    by_cases h0 : s.data.toList = []
    · rw [if_pos h0]
      have he : s.toList.isEmpty = true := by rw [Lib.toList_data, h0]; rfl
      clear h0 HQ kq
      go_enter Tryz.func9, Tryz.ntmps9
      go_wp2_with fail
      refine Calls.mono (HR _).out ?_
      rintro _ w1 ⟨rfl, b1⟩
      obtain ⟨hA, hB⟩ := one_row w w1 _ _ b1
      clear b1 HR
      obtain ⟨a0, a1, a2, a3, a4⟩ := hA.five
      go_wp2_with fail
      refine Calls.mono (HP _).out ?_
      rintro _ w2 ⟨rfl, b2⟩
      clear HP
      go_wp2
      go_ret
      exact ⟨rfl, hB.trans (b2.mono hB.size)⟩
    · rw [if_neg h0]
      have he : s.toList.isEmpty = false := by rw [Lib.toList_data]; simpa using h0
      clear h0
      go_enter Tryz.func9, Tryz.ntmps9
      go_wp2_with fail
      refine Calls.mono (HR _).out ?_
      rintro _ W ⟨rfl, b1⟩
      obtain ⟨hA, hB⟩ := one_row w W _ _ b1
      clear b1 HR
      obtain ⟨a0, a1, a2, a3, a4⟩ := hA.five
      have hS : Below W.heap.size W W.drew := (Below.refl _ W).drew
      go_wp2_with fail
      refine wp_region_M (fun wx : World => Below W.heap.size W wx) (fun j => decide (j < 8)) 8 rfl (by kernel_rfl) ?_
      refine wpM_held 0 (v := ?_) rfl (by kernel_rfl) (by kernel_rfl) rfl (fun _ _ _ h => h) rfl (by intro wx hx; go_simp <;> rfl) hS ?_
      refine wpM_held 1 (v := .string s) rfl (by kernel_rfl) (by kernel_rfl) rfl (fun _ _ _ h => h) rfl (by intro wx hx; obtain ⟨x0, x1, x2, x3, x4⟩ := (hA.below hx hA.lt).five; go_simp <;> rfl) hS ?_
      refine wpM_held 4 (v := .agg #[.string s, .int .i64 c, .int .i64 r, .bool ac, .bool ar]) rfl (by kernel_rfl) (by kernel_rfl) rfl (fun _ _ _ h => h) rfl (by intro wx hx; obtain ⟨x0, x1, x2, x3, x4⟩ := (hA.below hx hA.lt).five; go_simp <;> rfl) hS ?_
      refine wpM_one 2 rfl (by kernel_rfl) rfl ?_
      go_wp2_with fail
      refine Calls.mono (HQ _).out ?_
      rintro _ w1 ⟨rfl, hb1⟩
      have hS1 : Below W.heap.size W w1 := hS.trans (hb1.mono hS.size)
      clear hb1
      go_wp2_with fail
      refine ⟨fun _ => hS1, ?_⟩
      have k3 : (⟨#[33]⟩ : ByteArray).size = 1 := rfl
      refine wpM_held 3 (v := .string (bs ql ++ ⟨#[33]⟩)) rfl (by kernel_rfl) (by kernel_rfl) rfl (fun _ _ _ h => h) rfl (by intro wx hx; go_simp <;> first | rfl | omega) hS1 ?_
      refine wpM_one 5 rfl (by kernel_rfl) rfl ?_
      go_wp2_with fail
      refine Calls.mono (HP _).out ?_
      rintro _ w2 ⟨rfl, hb2⟩
      have hS2 : Below W.heap.size W w2 := hS1.trans (hb2.mono hS1.size)
      clear hb2
      go_wp2_with fail
      refine ⟨fun _ => hS2, ?_⟩
      refine wpM_one 6 rfl (by kernel_rfl) rfl ?_
      go_wp2_with fail
      refine ⟨fun _ => hS2, ?_⟩
      refine wpM_one 7 rfl (by kernel_rfl) rfl ?_
      go_wp2_with fail
      refine ⟨fun _ => hS2, ?_⟩
      refine wpM_done (by kernel_rfl) ?_
      go_wp2
      go_ret
      refine ⟨?_, hB.trans (hS2.mono hB.size)⟩
      rw [show (⟨#[33]⟩ : ByteArray) = bs [33] from rfl, bs_append, bs_append, List.append_assoc]
      rfl
theorem range_eq (a b : Rf) : printRangeL a b = if rightB a && rightB b && (b.s.toList.isEmpty || (b.s.toList == a.s.toList)) then printL a ++ [58] ++ placeL b.c b.r b.ac b.ar else goneL := by
  unfold printRangeL
  cases h1 : rightB a
  · rfl
  · cases he : b.s.toList.isEmpty
    · have ew : withSheet a b = b := by unfold withSheet; rw [he]; rfl
      rw [ew]
      simp only [Bool.true_and, Bool.false_or]
      rw [show (a.s.toList == b.s.toList) = (b.s.toList == a.s.toList) from BEq.comm]
    · have ew : withSheet a b = ⟨a.s, b.c, b.r, b.ac, b.ar⟩ := by unfold withSheet; rw [he]; rfl
      have er : rightB ⟨a.s, b.c, b.r, b.ac, b.ar⟩ = rightB b := by
        have hn : (a.s.toList.isEmpty || nameS a.s.data.toList) = true := by
          unfold rightB at h1
          rw [Bool.and_eq_true] at h1
          exact h1.2
        unfold rightB
        simp only
        rw [hn, he]
        rfl
      rw [ew, er]
      simp
set_option maxRecDepth 100000 in
set_option maxHeartbeats 2000000 in
theorem rr_a (sa sb : ByteArray) (ca ra cb rb : Int) (aca ara acb arb : Bool) (HA : ∀ W, Hid (Calls Tryz.prog 19 #[.agg #[.string sa, .int .i64 ca, .int .i64 ra, .bool aca, .bool ara]] W fun e w' => e = .returned (.bool false) ∧ Below W.heap.size W w')) (w : World) :
    Calls Tryz.prog 11 #[.agg #[.string sa, .int .i64 ca, .int .i64 ra, .bool aca, .bool ara], .agg #[.string sb, .int .i64 cb, .int .i64 rb, .bool acb, .bool arb]] w fun e w' => e = .returned (.string (bs goneL)) ∧ Below w.heap.size w w' := by
  go_enter Tryz.func11, Tryz.ntmps11
  go_wp2_with fail
  refine Calls.mono (HA _).out ?_
  rintro _ w1 ⟨rfl, b1⟩
  obtain ⟨hA, hC, hB⟩ := two_rows w w1 _ _ _ _ b1
  clear b1 HA
  go_wp2
  all_goals first | (exfalso; apply undef_bool; assumption) | skip
  all_goals
    go_ret
    exact ⟨rfl, hB⟩
set_option maxRecDepth 100000 in
set_option maxHeartbeats 2000000 in
theorem rr_b (sa sb : ByteArray) (ca ra cb rb : Int) (aca ara acb arb : Bool) (HA : ∀ W, Hid (Calls Tryz.prog 19 #[.agg #[.string sa, .int .i64 ca, .int .i64 ra, .bool aca, .bool ara]] W fun e w' => e = .returned (.bool true) ∧ Below W.heap.size W w')) (HC : ∀ W, Hid (Calls Tryz.prog 19 #[.agg #[.string sb, .int .i64 cb, .int .i64 rb, .bool acb, .bool arb]] W fun e w' => e = .returned (.bool false) ∧ Below W.heap.size W w')) (w : World) :
    Calls Tryz.prog 11 #[.agg #[.string sa, .int .i64 ca, .int .i64 ra, .bool aca, .bool ara], .agg #[.string sb, .int .i64 cb, .int .i64 rb, .bool acb, .bool arb]] w fun e w' => e = .returned (.string (bs goneL)) ∧ Below w.heap.size w w' := by
  go_enter Tryz.func11, Tryz.ntmps11
  go_wp2_with fail
  refine Calls.mono (HA _).out ?_
  rintro _ w1 ⟨rfl, b1⟩
  obtain ⟨hA, hC, hB⟩ := two_rows w w1 _ _ _ _ b1
  clear b1 HA
  obtain ⟨c0, c1, c2, c3, c4⟩ := hC.five
  go_wp2_with fail
  refine Calls.mono (HC _).out ?_
  rintro _ w2 ⟨rfl, b2⟩
  have hA2 := hA.below b2 hA.lt
  have hC2 := hC.below b2 hC.lt
  have hB2 := hB.trans (b2.mono hB.size)
  clear b2 HC hA hC hB c0 c1 c2 c3 c4
  go_wp2
  all_goals first | (exfalso; apply undef_bool; assumption) | skip
  all_goals
    go_ret
    exact ⟨rfl, hB2⟩
set_option maxRecDepth 100000 in
set_option maxHeartbeats 2000000 in
theorem rr_c (sa sb : ByteArray) (ca ra cb rb : Int) (aca ara acb arb : Bool) (HA : ∀ W, Hid (Calls Tryz.prog 19 #[.agg #[.string sa, .int .i64 ca, .int .i64 ra, .bool aca, .bool ara]] W fun e w' => e = .returned (.bool true) ∧ Below W.heap.size W w')) (HC : ∀ W, Hid (Calls Tryz.prog 19 #[.agg #[.string sb, .int .i64 cb, .int .i64 rb, .bool acb, .bool arb]] W fun e w' => e = .returned (.bool true) ∧ Below W.heap.size W w')) (he : sb.toList.isEmpty = false) (hne : (sb.toList == sa.toList) = false) (w : World) :
    Calls Tryz.prog 11 #[.agg #[.string sa, .int .i64 ca, .int .i64 ra, .bool aca, .bool ara], .agg #[.string sb, .int .i64 cb, .int .i64 rb, .bool acb, .bool arb]] w fun e w' => e = .returned (.string (bs goneL)) ∧ Below w.heap.size w w' := by
  go_enter Tryz.func11, Tryz.ntmps11
  go_wp2_with fail
  refine Calls.mono (HA _).out ?_
  rintro _ w1 ⟨rfl, b1⟩
  obtain ⟨hA, hC, hB⟩ := two_rows w w1 _ _ _ _ b1
  clear b1 HA
  obtain ⟨c0, c1, c2, c3, c4⟩ := hC.five
  go_wp2_with fail
  refine Calls.mono (HC _).out ?_
  rintro _ w2 ⟨rfl, b2⟩
  have hA2 := hA.below b2 hA.lt
  have hC2 := hC.below b2 hC.lt
  have hB2 := hB.trans (b2.mono hB.size)
  clear b2 HC hA hC hB c0 c1 c2 c3 c4
  obtain ⟨a0, a1, a2, a3, a4⟩ := hA2.five
  obtain ⟨c0, c1, c2, c3, c4⟩ := hC2.five
  go_wp2
  go_ret
  exact ⟨rfl, hB2⟩
set_option maxRecDepth 100000 in
set_option maxHeartbeats 2000000 in
theorem rr_d (sa sb : ByteArray) (ca ra cb rb : Int) (aca ara acb arb : Bool) (HA : ∀ W, Hid (Calls Tryz.prog 19 #[.agg #[.string sa, .int .i64 ca, .int .i64 ra, .bool aca, .bool ara]] W fun e w' => e = .returned (.bool true) ∧ Below W.heap.size W w')) (HC : ∀ W, Hid (Calls Tryz.prog 19 #[.agg #[.string sb, .int .i64 cb, .int .i64 rb, .bool acb, .bool arb]] W fun e w' => e = .returned (.bool true) ∧ Below W.heap.size W w')) (he : sb.toList.isEmpty = true) (pl pa : List UInt8) (k1 : (bs pl).size ≤ 7) (k2 : (bs pa).size ≤ 72) (HP : ∀ W, Hid (Calls Tryz.prog 9 #[.agg #[.string sa, .int .i64 ca, .int .i64 ra, .bool aca, .bool ara]] W fun e w' => e = .returned (.string (bs pa)) ∧ Below W.heap.size W w')) (HQ : ∀ W, Hid (Calls Tryz.prog 33 #[.agg #[.string sb, .int .i64 cb, .int .i64 rb, .bool acb, .bool arb]] W fun e w' => e = .returned (.string (bs pl)) ∧ Below W.heap.size W w')) (w : World) :
    Calls Tryz.prog 11 #[.agg #[.string sa, .int .i64 ca, .int .i64 ra, .bool aca, .bool ara], .agg #[.string sb, .int .i64 cb, .int .i64 rb, .bool acb, .bool arb]] w fun e w' => e = .returned (.string (bs (pa ++ [58] ++ pl))) ∧ Below w.heap.size w w' := by
  go_enter Tryz.func11, Tryz.ntmps11
  go_wp2_with fail
  refine Calls.mono (HA _).out ?_
  rintro _ w1 ⟨rfl, b1⟩
  obtain ⟨hA, hC, hB⟩ := two_rows w w1 _ _ _ _ b1
  clear b1 HA
  obtain ⟨c0, c1, c2, c3, c4⟩ := hC.five
  go_wp2_with fail
  refine Calls.mono (HC _).out ?_
  rintro _ w2 ⟨rfl, b2⟩
  have hA2 := hA.below b2 hA.lt
  have hC2 := hC.below b2 hC.lt
  have hB2 := hB.trans (b2.mono hB.size)
  clear b2 HC hA hC hB c0 c1 c2 c3 c4
  obtain ⟨a0, a1, a2, a3, a4⟩ := hA2.five
  obtain ⟨c0, c1, c2, c3, c4⟩ := hC2.five
  have hS : Below w2.heap.size w2 w2.drew := (Below.refl _ w2).drew
  have k3 : (⟨#[58]⟩ : ByteArray).size = 1 := rfl
  go_wp2_with fail
  all_goals first | (exfalso; apply undef_bool; assumption) | skip
  refine wp_region_M (fun wx : World => Below w2.heap.size w2 wx) (fun j => decide (j < 7)) 7 rfl (by kernel_rfl) ?_
  refine wpM_held 0 (v := .agg #[.string sa, .int .i64 ca, .int .i64 ra, .bool aca, .bool ara]) rfl (by kernel_rfl) (by kernel_rfl) rfl (fun _ _ _ h => h) rfl (by intro wx hx; obtain ⟨x0, x1, x2, x3, x4⟩ := (hA2.below hx hA2.lt).five; go_simp <;> rfl) hS ?_
  refine wpM_held 3 (v := .agg #[.string sb, .int .i64 cb, .int .i64 rb, .bool acb, .bool arb]) rfl (by kernel_rfl) (by kernel_rfl) rfl (fun _ _ _ h => h) rfl (by intro wx hx; obtain ⟨x0, x1, x2, x3, x4⟩ := (hC2.below hx hC2.lt).five; go_simp <;> rfl) hS ?_
  refine wpM_one 1 rfl (by kernel_rfl) rfl ?_
  go_wp2_with fail
  refine Calls.mono (HP _).out ?_
  rintro _ w3 ⟨rfl, hb3⟩
  have hS1 : Below w2.heap.size w2 w3 := hS.trans (hb3.mono hS.size)
  clear hb3
  go_wp2_with fail
  refine ⟨fun _ => hS1, ?_⟩
  refine wpM_held 2 (v := .string (bs pa ++ ⟨#[58]⟩)) rfl (by kernel_rfl) (by kernel_rfl) rfl (fun _ _ _ h => h) rfl (by intro wx hx; go_simp <;> first | rfl | omega) hS1 ?_
  refine wpM_one 4 rfl (by kernel_rfl) rfl ?_
  go_wp2_with fail
  refine Calls.mono (HQ _).out ?_
  rintro _ w4 ⟨rfl, hb4⟩
  have hS2 : Below w2.heap.size w2 w4 := hS1.trans (hb4.mono hS1.size)
  clear hb4
  go_wp2_with fail
  refine ⟨fun _ => hS2, ?_⟩
  refine wpM_one 5 rfl (by kernel_rfl) rfl ?_
  go_wp2_with fail
  refine ⟨fun _ => hS2, ?_⟩
  refine wpM_one 6 rfl (by kernel_rfl) rfl ?_
  go_wp2_with fail
  refine ⟨fun _ => hS2, ?_⟩
  refine wpM_done (by kernel_rfl) ?_
  go_wp2
  go_ret
  refine ⟨?_, hB2.trans (hS2.mono hB2.size)⟩
  rw [show (⟨#[58]⟩ : ByteArray) = bs [58] from rfl, bs_append, bs_append, List.append_assoc]
  rfl
set_option maxRecDepth 100000 in
set_option maxHeartbeats 2000000 in
theorem rr_e (sa sb : ByteArray) (ca ra cb rb : Int) (aca ara acb arb : Bool) (HA : ∀ W, Hid (Calls Tryz.prog 19 #[.agg #[.string sa, .int .i64 ca, .int .i64 ra, .bool aca, .bool ara]] W fun e w' => e = .returned (.bool true) ∧ Below W.heap.size W w')) (HC : ∀ W, Hid (Calls Tryz.prog 19 #[.agg #[.string sb, .int .i64 cb, .int .i64 rb, .bool acb, .bool arb]] W fun e w' => e = .returned (.bool true) ∧ Below W.heap.size W w')) (he : sb.toList.isEmpty = false) (heq : (sb.toList == sa.toList) = true) (pl pa : List UInt8) (k1 : (bs pl).size ≤ 7) (k2 : (bs pa).size ≤ 72) (HP : ∀ W, Hid (Calls Tryz.prog 9 #[.agg #[.string sa, .int .i64 ca, .int .i64 ra, .bool aca, .bool ara]] W fun e w' => e = .returned (.string (bs pa)) ∧ Below W.heap.size W w')) (HQ : ∀ W, Hid (Calls Tryz.prog 33 #[.agg #[.string sb, .int .i64 cb, .int .i64 rb, .bool acb, .bool arb]] W fun e w' => e = .returned (.string (bs pl)) ∧ Below W.heap.size W w')) (w : World) :
    Calls Tryz.prog 11 #[.agg #[.string sa, .int .i64 ca, .int .i64 ra, .bool aca, .bool ara], .agg #[.string sb, .int .i64 cb, .int .i64 rb, .bool acb, .bool arb]] w fun e w' => e = .returned (.string (bs (pa ++ [58] ++ pl))) ∧ Below w.heap.size w w' := by
  go_enter Tryz.func11, Tryz.ntmps11
  go_wp2_with fail
  refine Calls.mono (HA _).out ?_
  rintro _ w1 ⟨rfl, b1⟩
  obtain ⟨hA, hC, hB⟩ := two_rows w w1 _ _ _ _ b1
  clear b1 HA
  obtain ⟨c0, c1, c2, c3, c4⟩ := hC.five
  go_wp2_with fail
  refine Calls.mono (HC _).out ?_
  rintro _ w2 ⟨rfl, b2⟩
  have hA2 := hA.below b2 hA.lt
  have hC2 := hC.below b2 hC.lt
  have hB2 := hB.trans (b2.mono hB.size)
  clear b2 HC hA hC hB c0 c1 c2 c3 c4
  obtain ⟨a0, a1, a2, a3, a4⟩ := hA2.five
  obtain ⟨c0, c1, c2, c3, c4⟩ := hC2.five
  have hS : Below w2.heap.size w2 w2.drew := (Below.refl _ w2).drew
  have k3 : (⟨#[58]⟩ : ByteArray).size = 1 := rfl
  go_wp2_with fail
  all_goals first | (exfalso; apply undef_bool; assumption) | skip
  refine wp_region_M (fun wx : World => Below w2.heap.size w2 wx) (fun j => decide (j < 7)) 7 rfl (by kernel_rfl) ?_
  refine wpM_held 0 (v := .agg #[.string sa, .int .i64 ca, .int .i64 ra, .bool aca, .bool ara]) rfl (by kernel_rfl) (by kernel_rfl) rfl (fun _ _ _ h => h) rfl (by intro wx hx; obtain ⟨x0, x1, x2, x3, x4⟩ := (hA2.below hx hA2.lt).five; go_simp <;> rfl) hS ?_
  refine wpM_held 3 (v := .agg #[.string sb, .int .i64 cb, .int .i64 rb, .bool acb, .bool arb]) rfl (by kernel_rfl) (by kernel_rfl) rfl (fun _ _ _ h => h) rfl (by intro wx hx; obtain ⟨x0, x1, x2, x3, x4⟩ := (hC2.below hx hC2.lt).five; go_simp <;> rfl) hS ?_
  refine wpM_one 1 rfl (by kernel_rfl) rfl ?_
  go_wp2_with fail
  refine Calls.mono (HP _).out ?_
  rintro _ w3 ⟨rfl, hb3⟩
  have hS1 : Below w2.heap.size w2 w3 := hS.trans (hb3.mono hS.size)
  clear hb3
  go_wp2_with fail
  refine ⟨fun _ => hS1, ?_⟩
  refine wpM_held 2 (v := .string (bs pa ++ ⟨#[58]⟩)) rfl (by kernel_rfl) (by kernel_rfl) rfl (fun _ _ _ h => h) rfl (by intro wx hx; go_simp <;> first | rfl | omega) hS1 ?_
  refine wpM_one 4 rfl (by kernel_rfl) rfl ?_
  go_wp2_with fail
  refine Calls.mono (HQ _).out ?_
  rintro _ w4 ⟨rfl, hb4⟩
  have hS2 : Below w2.heap.size w2 w4 := hS1.trans (hb4.mono hS1.size)
  clear hb4
  go_wp2_with fail
  refine ⟨fun _ => hS2, ?_⟩
  refine wpM_one 5 rfl (by kernel_rfl) rfl ?_
  go_wp2_with fail
  refine ⟨fun _ => hS2, ?_⟩
  refine wpM_one 6 rfl (by kernel_rfl) rfl ?_
  go_wp2_with fail
  refine ⟨fun _ => hS2, ?_⟩
  refine wpM_done (by kernel_rfl) ?_
  go_wp2
  go_ret
  refine ⟨?_, hB2.trans (hS2.mono hB2.size)⟩
  rw [show (⟨#[58]⟩ : ByteArray) = bs [58] from rfl, bs_append, bs_append, List.append_assoc]
  rfl
theorem refPrintRange_any (a b : Rf) (w : World) : Calls Tryz.prog 11 #[a.v, b.v] w fun e w' => e = .returned (.string (bs (printRangeL a b))) ∧ Below w.heap.size w w' := by
  have HA : ∀ W, Hid _ := fun W => refRight_any a W
  have HC : ∀ W, Hid _ := fun W => refRight_any b W
  have HP : ∀ W, Hid _ := fun W => refPrint_any a W
  have hlp := printL_len a
  rw [range_eq]
  cases h1 : rightB a
  · rw [h1] at HA
    exact rr_a a.s b.s a.c a.r b.c b.r a.ac a.ar b.ac b.ar HA w
  cases h2 : rightB b
  · rw [h1] at HA
    rw [h2] at HC
    exact rr_b a.s b.s a.c a.r b.c b.r a.ac a.ar b.ac b.ar HA HC w
  have hb := rightB_bounds h2
  have HQ : ∀ W, Hid _ := fun W => bare_any b (by omega) (by omega) W
  have hpl := placeL_len b.c b.r b.ac b.ar (by omega) (by omega)
  rw [h1] at HA
  rw [h2] at HC
  have k1 : (bs (placeL b.c b.r b.ac b.ar)).size ≤ 7 := by rw [bs_size]; exact hpl
  have k2 : (bs (printL a)).size ≤ 72 := by rw [bs_size]; exact hlp
  cases he : b.s.toList.isEmpty
  · cases hq : (b.s.toList == a.s.toList)
    · exact rr_c a.s b.s a.c a.r b.c b.r a.ac a.ar b.ac b.ar HA HC he hq w
    · exact rr_e a.s b.s a.c a.r b.c b.r a.ac a.ar b.ac b.ar HA HC he hq _ _ k1 k2 HP HQ w
  · exact rr_d a.s b.s a.c a.r b.c b.r a.ac a.ar b.ac b.ar HA HC he _ _ k1 k2 HP HQ w
end Go.Proofs.YtnblbakjfpfipaaGreatDoor
