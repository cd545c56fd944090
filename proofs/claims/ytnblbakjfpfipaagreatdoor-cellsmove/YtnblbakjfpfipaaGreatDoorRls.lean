/- Less, the program's and the document's. -/
import Derived.Test.YtnblbakjfpfipaaGreatDoorRbx
namespace Go.Proofs.YtnblbakjfpfipaaGreatDoor
open Go.RowKit

/-- Which stands ahead. -/
def lessB (a b : Rf) : Bool := if a.s.toList == b.s.toList then (if a.r = b.r then decide (a.c < b.c) else decide (a.r < b.r)) else Op.bytesLess a.s.toList b.s.toList
theorem bytesLess_irr (l : List UInt8) : Op.bytesLess l l = false := by
  induction l with
  | nil => rfl
  | cons a l ih => simp [Op.bytesLess, ih]
theorem cmpI_lt (x y : Int) : (Lib.compareInt x y < 0 ↔ x < y) ∧ (Lib.compareInt x y = 0 ↔ x = y) := by
  unfold Lib.compareInt
  split
  · constructor <;> constructor <;> intro h <;> omega
  · split
    · constructor <;> constructor <;> intro h <;> omega
    · constructor <;> constructor <;> intro h <;> omega
theorem orI_less (a b : Rf) : decide (orI (cmpS a.s b.s) (Lib.compareInt a.r b.r) (Lib.compareInt a.c b.c) < 0) = lessB a b := by
  have h1 := cmpI_lt a.r b.r
  have h2 := cmpI_lt a.c b.c
  unfold lessB orI cmpS
  cases he : (a.s.toList == b.s.toList)
  · cases hl : Op.bytesLess a.s.toList b.s.toList <;> simp
  · have e : a.s.toList = b.s.toList := by simpa using he
    have hl : Op.bytesLess a.s.toList b.s.toList = false := by rw [e]; exact bytesLess_irr _
    rw [hl]
    simp only [Bool.false_eq_true, if_false, Bool.not_true, Bool.and_false, if_true]
    by_cases hr : a.r = b.r
    · rw [if_pos (h1.2.2 hr), if_pos hr]
      exact decide_eq_decide.2 h2.1
    · rw [if_neg (fun e => hr (h1.2.1 e)), if_neg hr]
      exact decide_eq_decide.2 h1.1
set_option maxRecDepth 100000 in
set_option maxHeartbeats 1000000 in
theorem refLess_any (a b : Rf) (w : World) : Calls Tryz.prog 30 #[a.v, b.v] w fun e w' => e = .returned (.bool (lessB a b)) ∧ Below w.heap.size w w' := by
  obtain ⟨sa, ca, ra, aca, ara⟩ := a
  obtain ⟨sb, cb, rb, acb, arb⟩ := b
  unfold Rf.v lessB
  simp only
  have hB : Below w.heap.size w ((w.alloc (.cells #[.string sa, .int .i64 ca, .int .i64 ra, .bool aca, .bool ara] 23)).alloc (.cells #[.string sb, .int .i64 cb, .int .i64 rb, .bool acb, .bool arb] 23)) := ((Below.refl _ w).alloc (Nat.le_refl _) _).alloc (by simp) _
  have HB : Hid _ := hB
  clear hB
  cases he : (sa.toList == sb.toList)
  · go_enter Tryz.func30, Tryz.ntmps30
    go_wp2
    go_ret
    exact ⟨by simp, HB.out⟩
  · by_cases hr : ra = rb
    · have er : ((ra != rb) : Bool) = false := by simp [hr]
      rw [if_pos hr]
      clear hr
      go_enter Tryz.func30, Tryz.ntmps30
      go_wp2
      go_ret
      exact ⟨by simp, HB.out⟩
    · have er : ((ra != rb) : Bool) = true := by simp [hr]
      rw [if_neg hr]
      clear hr
      go_enter Tryz.func30, Tryz.ntmps30
      go_wp2
      go_ret
      exact ⟨by simp, HB.out⟩
set_option maxRecDepth 100000 in
set_option maxHeartbeats 2000000 in
theorem less_any (a b : Rf) (w : World) : Calls Tryz.prog 29 #[a.v, b.v] w fun e w' => e = .returned (.bool (lessB a b)) ∧ Below w.heap.size w w' := by
  rw [← orI_less]
  have HS : ∀ W, Hid _ := fun W => compareS_any a.s b.s W
  have HR : ∀ W, Hid _ := fun W => Tryz.cmp_Compare_int a.r b.r W
  have HC : ∀ W, Hid _ := fun W => Tryz.cmp_Compare_int a.c b.c W
  obtain ⟨sa, ca, ra, aca, ara⟩ := a
  obtain ⟨sb, cb, rb, acb, arb⟩ := b
  unfold Rf.v
  simp only at HS HR HC ⊢
  generalize cmpS sa sb = x at *
  generalize Lib.compareInt ra rb = y at *
  generalize Lib.compareInt ca cb = z at *
  go_enter Tryz.func29, Tryz.ntmps29
  go_wp2_with fail
  obtain ⟨hA, hC, hB⟩ := two_rows w _ _ _ 23 23 (Below.refl _ ((w.alloc (.cells #[.string sa, .int .i64 ca, .int .i64 ra, .bool aca, .bool ara] 23)).alloc (.cells #[.string sb, .int .i64 cb, .int .i64 rb, .bool acb, .bool arb] 23)))
  generalize ((w.alloc (.cells #[.string sa, .int .i64 ca, .int .i64 ra, .bool aca, .bool ara] 23)).alloc (.cells #[.string sb, .int .i64 cb, .int .i64 rb, .bool acb, .bool arb] 23)) = W at *
  have hS : Below W.heap.size W W.drew := (Below.refl _ W).drew
  refine wp_region_M (fun wx : World => Below W.heap.size W wx) (fun j => decide (j < 16)) 19 rfl (by kernel_rfl) ?_
  refine wpM_held 0 (v := ?_) rfl (by kernel_rfl) (by kernel_rfl) rfl (fun _ _ _ h => h) rfl (by intro wx hx; go_simp <;> rfl) hS ?_
  refine wpM_held 1 (v := .string sa) rfl (by kernel_rfl) (by kernel_rfl) rfl (fun _ _ _ h => h) rfl (by intro wx hx; obtain ⟨x0, x1, x2, x3, x4⟩ := (hA.below hx hA.lt).five; go_simp <;> rfl) hS ?_
  refine wpM_held 2 (v := ?_) rfl (by kernel_rfl) (by kernel_rfl) rfl (fun _ _ _ h => h) rfl (by intro wx hx; go_simp <;> rfl) hS ?_
  refine wpM_held 3 (v := .string sb) rfl (by kernel_rfl) (by kernel_rfl) rfl (fun _ _ _ h => h) rfl (by intro wx hx; obtain ⟨x0, x1, x2, x3, x4⟩ := (hC.below hx hC.lt).five; go_simp <;> rfl) hS ?_
  refine wpM_held 5 (v := ?_) rfl (by kernel_rfl) (by kernel_rfl) rfl (fun _ _ _ h => h) rfl (by intro wx hx; go_simp <;> rfl) hS ?_
  refine wpM_held 6 (v := .int .i64 ra) rfl (by kernel_rfl) (by kernel_rfl) rfl (fun _ _ _ h => h) rfl (by intro wx hx; obtain ⟨x0, x1, x2, x3, x4⟩ := (hA.below hx hA.lt).five; go_simp <;> rfl) hS ?_
  refine wpM_held 7 (v := ?_) rfl (by kernel_rfl) (by kernel_rfl) rfl (fun _ _ _ h => h) rfl (by intro wx hx; go_simp <;> rfl) hS ?_
  refine wpM_held 8 (v := .int .i64 rb) rfl (by kernel_rfl) (by kernel_rfl) rfl (fun _ _ _ h => h) rfl (by intro wx hx; obtain ⟨x0, x1, x2, x3, x4⟩ := (hC.below hx hC.lt).five; go_simp <;> rfl) hS ?_
  refine wpM_held 10 (v := ?_) rfl (by kernel_rfl) (by kernel_rfl) rfl (fun _ _ _ h => h) rfl (by intro wx hx; go_simp <;> rfl) hS ?_
  refine wpM_held 11 (v := .int .i64 ca) rfl (by kernel_rfl) (by kernel_rfl) rfl (fun _ _ _ h => h) rfl (by intro wx hx; obtain ⟨x0, x1, x2, x3, x4⟩ := (hA.below hx hA.lt).five; go_simp <;> rfl) hS ?_
  refine wpM_held 12 (v := ?_) rfl (by kernel_rfl) (by kernel_rfl) rfl (fun _ _ _ h => h) rfl (by intro wx hx; go_simp <;> rfl) hS ?_
  refine wpM_held 13 (v := .int .i64 cb) rfl (by kernel_rfl) (by kernel_rfl) rfl (fun _ _ _ h => h) rfl (by intro wx hx; obtain ⟨x0, x1, x2, x3, x4⟩ := (hC.below hx hC.lt).five; go_simp <;> rfl) hS ?_
  refine wpM_one 4 rfl (by kernel_rfl) rfl ?_
  go_wp2_with fail
  refine Calls.mono (HS _).out ?_
  rintro _ w1 ⟨rfl, hw1⟩
  rw [hw1]
  clear hw1 w1
  go_wp2_with fail
  refine ⟨fun _ => hS, ?_⟩
  refine wpM_one 9 rfl (by kernel_rfl) rfl ?_
  go_wp2_with fail
  refine Calls.mono (HR _).out ?_
  rintro _ w1 ⟨rfl, hw1⟩
  rw [hw1]
  clear hw1 w1
  go_wp2_with fail
  refine ⟨fun _ => hS, ?_⟩
  refine wpM_one 14 rfl (by kernel_rfl) rfl ?_
  go_wp2_with fail
  refine Calls.mono (HC _).out ?_
  rintro _ w1 ⟨rfl, hw1⟩
  rw [hw1]
  clear hw1 w1
  go_wp2_with fail
  refine ⟨fun _ => hS, ?_⟩
  refine wpM_one 15 rfl (by kernel_rfl) rfl ?_
  go_wp2_with fail
  refine ⟨fun _ => by first | exact hS.alloc (Nat.le_refl _) _ | exact ((Below.refl _ W).alloc (Nat.le_refl _) _).drew, ?_⟩
  have hN := Row.new W 3 #[.int .i64 x, .int .i64 y, .int .i64 z]
  have HO : ∀ q, Hid _ := fun q => or_any x y z W.heap.size ((W.alloc (.cells #[.int .i64 x, .int .i64 y, .int .i64 z] 3)).drewN q) (hN.cell rfl) (hN.cell rfl) (hN.cell rfl)
  have hB2 : Below w.heap.size w (W.alloc (.cells #[.int .i64 x, .int .i64 y, .int .i64 z] 3)).drew := (hB.alloc hB.size _).drew
  refine wpM_one 16 rfl (by kernel_rfl) rfl ?_
  go_wp2_with fail
  refine Calls.mono (HO 1).out ?_
  rintro _ w1 ⟨rfl, hw1⟩
  rw [hw1]
  clear hw1 w1
  go_wp2_with fail
  refine ⟨(fun h => by simp at h), ?_⟩
  refine wpM_one 17 rfl (by kernel_rfl) rfl ?_
  go_wp2_with fail
  refine ⟨(fun h => by simp at h), ?_⟩
  refine wpM_one 18 rfl (by kernel_rfl) rfl ?_
  go_wp2_with fail
  refine ⟨(fun h => by simp at h), ?_⟩
  refine wpM_done (by kernel_rfl) ?_
  go_wp2
  go_ret
  exact ⟨rfl, hB2⟩
end Go.Proofs.YtnblbakjfpfipaaGreatDoor
