import Derived.Test.YtnhflnpjepiceaaGreatDoorRvs
import Derived.Test.YtnhflnpjepiceaaGreatDoorVnmM
/- val: the document's Right and clean. -/
namespace Go.Proofs.YtnhflnpjepiceaaGreatDoor
open Go.RowKit

set_option maxRecDepth 100000 in
set_option maxHeartbeats 2000000 in
theorem rright_num (c e : Int) (s : ByteArray) (b : Bool) (x : Int) (hc : I64 c) (w : World) : Calls Tryz.prog 10 #[.agg #[.int .i64 1, .int .i64 c, .int .i64 e, .string s, .bool b, .int .i64 x]] w fun r w' => r = .returned (.bool (rightB c e && (⟨1, c, e, s, b, x⟩ : Vl).eqB (vN c e))) ∧ Below w.heap.size w w' := by
  have h0 := R1.start w #[.int .i64 1, .int .i64 c, .int .i64 e, .string s, .bool b, .int .i64 x]
  have HC : ∀ V, Hid (Calls Tryz.prog 46 #[.agg #[.int .i64 c, .int .i64 e]] V fun r w' => r = .returned (.bool (rightB c e)) ∧ Below V.heap.size V w') := fun V => rright_any c e hc V
  generalize rightB c e = F at HC ⊢
  go_enter Tryz.func10, Tryz.ntmps10
  go_wp2_with fail
  refine Calls.mono (HC _).out ?_
  rintro _ w1 ⟨rfl, b1⟩
  have h1 := h0.next b1
  obtain ⟨m0, m1, m2, m3, m4, m5⟩ := h1.1.six
  have pb := h1.2
  clear h0 b1 h1 HC
  cases F
  · go_wp2
    go_ret
    exact ⟨by simp, pb⟩
  · go_wp2
    all_goals
      go_ret
      refine ⟨?_, pb⟩
      simp_all [Vl.eqB, vN, ByteArray.toList_eq]
set_option maxRecDepth 100000 in
set_option maxHeartbeats 2000000 in
theorem rright_text (c e : Int) (s : ByteArray) (b : Bool) (x : Int) (w : World) : Calls Tryz.prog 10 #[.agg #[.int .i64 2, .int .i64 c, .int .i64 e, .string s, .bool b, .int .i64 x]] w fun r w' => r = .returned (.bool (textB s && (⟨2, c, e, s, b, x⟩ : Vl).eqB (vT s))) ∧ Below w.heap.size w w' := by
  have h0 := R1.start w #[.int .i64 2, .int .i64 c, .int .i64 e, .string s, .bool b, .int .i64 x]
  have HC : ∀ V, Hid (Calls Tryz.prog 47 #[.string s] V fun r w' => r = .returned (.bool (textB s)) ∧ Below V.heap.size V w') := fun V => risText_any s V
  generalize textB s = F at HC ⊢
  go_enter Tryz.func10, Tryz.ntmps10
  go_wp2_with fail
  refine Calls.mono (HC _).out ?_
  rintro _ w1 ⟨rfl, b1⟩
  have h1 := h0.next b1
  obtain ⟨m0, m1, m2, m3, m4, m5⟩ := h1.1.six
  have pb := h1.2
  clear h0 b1 h1 HC
  cases F
  · go_wp2
    go_ret
    exact ⟨by simp, pb⟩
  · go_wp2
    all_goals
      go_ret
      refine ⟨?_, pb⟩
      simp_all [Vl.eqB, vT, ByteArray.toList_eq]
set_option maxRecDepth 100000 in
set_option maxHeartbeats 2000000 in
theorem rright_empty (c e : Int) (s : ByteArray) (b : Bool) (x : Int) (w : World) : Calls Tryz.prog 10 #[.agg #[.int .i64 0, .int .i64 c, .int .i64 e, .string s, .bool b, .int .i64 x]] w fun r w' => r = .returned (.bool ((⟨0, c, e, s, b, x⟩ : Vl).eqB vE)) ∧ Below w.heap.size w w' := by
  have pb : ∀ o, Below w.heap.size w (w.alloc o) := fun o => (Below.refl _ w).alloc (Nat.le_refl _) _
  go_enter Tryz.func10, Tryz.ntmps10
  go_wp2
  all_goals
    go_ret
    refine ⟨?_, pb _⟩
    simp_all [Vl.eqB, vE, ByteArray.toList_eq]
set_option maxRecDepth 100000 in
set_option maxHeartbeats 2000000 in
theorem rright_bool (c e : Int) (s : ByteArray) (b : Bool) (x : Int) (w : World) : Calls Tryz.prog 10 #[.agg #[.int .i64 3, .int .i64 c, .int .i64 e, .string s, .bool b, .int .i64 x]] w fun r w' => r = .returned (.bool ((⟨3, c, e, s, b, x⟩ : Vl).eqB (vB b))) ∧ Below w.heap.size w w' := by
  have pb : ∀ o, Below w.heap.size w (w.alloc o) := fun o => (Below.refl _ w).alloc (Nat.le_refl _) _
  go_enter Tryz.func10, Tryz.ntmps10
  go_wp2
  all_goals
    go_ret
    refine ⟨?_, pb _⟩
    simp_all [Vl.eqB, vB, ByteArray.toList_eq]
set_option maxRecDepth 100000 in
set_option maxHeartbeats 2000000 in
theorem rright_none (k c e : Int) (s : ByteArray) (b : Bool) (x : Int) (h0 : ¬ k = 0) (h1 : ¬ k = 1) (h2 : ¬ k = 2) (h3 : ¬ k = 3) (h4 : ¬ k = 4) (w : World) : Calls Tryz.prog 10 #[.agg #[.int .i64 k, .int .i64 c, .int .i64 e, .string s, .bool b, .int .i64 x]] w fun r w' => r = .returned (.bool (false)) ∧ Below w.heap.size w w' := by
  have pb : ∀ o, Below w.heap.size w (w.alloc o) := fun o => (Below.refl _ w).alloc (Nat.le_refl _) _
  go_enter Tryz.func10, Tryz.ntmps10
  go_wp2
  all_goals
    go_ret
    refine ⟨?_, pb _⟩
    rfl
set_option maxRecDepth 100000 in
set_option maxHeartbeats 2000000 in
theorem rright_errno (c e : Int) (s : ByteArray) (b : Bool) (x : Int) (hx : ¬ 1 ≤ x) (w : World) : Calls Tryz.prog 10 #[.agg #[.int .i64 4, .int .i64 c, .int .i64 e, .string s, .bool b, .int .i64 x]] w fun r w' => r = .returned (.bool (false)) ∧ Below w.heap.size w w' := by
  have pb : ∀ o, Below w.heap.size w (w.alloc o) := fun o => (Below.refl _ w).alloc (Nat.le_refl _) _
  go_enter Tryz.func10, Tryz.ntmps10
  go_wp2
  all_goals
    go_ret
    refine ⟨?_, pb _⟩
    rfl
set_option maxRecDepth 100000 in
set_option maxHeartbeats 2000000 in
theorem rright_errgt (c e : Int) (s : ByteArray) (b : Bool) (x : Int) (hx : 1 ≤ x) (hy : ¬ x ≤ 7) (w : World) : Calls Tryz.prog 10 #[.agg #[.int .i64 4, .int .i64 c, .int .i64 e, .string s, .bool b, .int .i64 x]] w fun r w' => r = .returned (.bool (false)) ∧ Below w.heap.size w w' := by
  have pb : ∀ o, Below w.heap.size w (w.alloc o) := fun o => (Below.refl _ w).alloc (Nat.le_refl _) _
  go_enter Tryz.func10, Tryz.ntmps10
  go_wp2
  all_goals
    go_ret
    refine ⟨?_, pb _⟩
    rfl
set_option maxRecDepth 100000 in
set_option maxHeartbeats 2000000 in
theorem rright_errok (c e : Int) (s : ByteArray) (b : Bool) (x : Int) (hx : 1 ≤ x) (hy : x ≤ 7) (w : World) : Calls Tryz.prog 10 #[.agg #[.int .i64 4, .int .i64 c, .int .i64 e, .string s, .bool b, .int .i64 x]] w fun r w' => r = .returned (.bool ((⟨4, c, e, s, b, x⟩ : Vl).eqB (vX x))) ∧ Below w.heap.size w w' := by
  have pb : ∀ o, Below w.heap.size w (w.alloc o) := fun o => (Below.refl _ w).alloc (Nat.le_refl _) _
  go_enter Tryz.func10, Tryz.ntmps10
  go_wp2
  all_goals
    go_ret
    refine ⟨?_, pb _⟩
    simp_all [Vl.eqB, vX, ByteArray.toList_eq]
theorem rvright_any (v : Vl) (hc : I64 v.c) (w : World) : Calls Tryz.prog 10 #[v.v] w fun r w' => r = .returned (.bool (rightV v)) ∧ Below w.heap.size w w' := by
  obtain ⟨k, c, e, s, b, x⟩ := v
  unfold rightV Vl.v Vl.cells
  by_cases h0 : k = 0
  · subst h0; exact rright_empty c e s b x w
  by_cases h1 : k = 1
  · subst h1; exact rright_num c e s b x hc w
  by_cases h2 : k = 2
  · subst h2; exact rright_text c e s b x w
  by_cases h3 : k = 3
  · subst h3; exact rright_bool c e s b x w
  by_cases h4 : k = 4
  · subst h4
    show Calls Tryz.prog 10 _ w fun r w' => r = .returned (.bool (codeB x && (⟨4, c, e, s, b, x⟩ : Vl).eqB (vX x))) ∧ _
    unfold codeB
    by_cases hx : 1 ≤ x
    · by_cases hy : x ≤ 7
      · rw [decide_eq_true ⟨hx, hy⟩]; exact rright_errok c e s b x hx hy w
      · rw [decide_eq_false (by omega)]; exact rright_errgt c e s b x hx hy w
    · rw [decide_eq_false (by omega)]; exact rright_errno c e s b x hx w
  · simp only [h0, h1, h2, h3, h4, if_false]
    exact rright_none k c e s b x h0 h1 h2 h3 h4 w
set_option maxRecDepth 100000 in
set_option maxHeartbeats 1200000 in
theorem rtaken_any (v : Vl) (hc : I64 v.c) (w : World) : Calls Tryz.prog 50 #[v.v] w fun r w' => r = .returned (cleanV v).v ∧ Below w.heap.size w w' := by
  have HR : ∀ V, Hid (Calls Tryz.prog 10 #[v.v] V fun r w' => r = .returned (.bool (rightV v)) ∧ Below V.heap.size V w') := fun V => rvright_any v hc V
  unfold cleanV
  obtain ⟨R, hR⟩ : ∃ R, rightV v = R := ⟨_, rfl⟩
  rw [hR] at HR ⊢
  clear hR hc
  obtain ⟨k, c, e, s, b, x⟩ := v
  unfold Vl.v Vl.cells at *
  have h0 := PR.start w #[.int .i64 k, .int .i64 c, .int .i64 e, .string s, .bool b, .int .i64 x] #[.int .i64 0, .int .i64 0, .int .i64 0, .string .empty, .bool false, .int .i64 0]
  cases R
  · go_enter Tryz.func50, Tryz.ntmps50
    go_wp2_with fail
    refine Calls.mono (HR _).out ?_
    rintro _ w1 ⟨rfl, b1⟩
    have h1 := h0.next b1
    clear h0 b1 HR
    go_wp2_with fail
    refine Calls.mono (rerr_any 2 _) ?_
    rintro _ w2 ⟨rfl, b2⟩
    rw [errW2]
    have h2 := h1.next b2
    obtain ⟨y0, y1, y2, y3, y4, y5⟩ := h2.2.1.six
    have zf := h2.2.1.frozen
    have wl := h2.2.1.lt
    clear h1 b2
    go_wp2
    exact bodyPost_ret (ret_one rfl (g := w.heap.size + 1) rfl ((h2.setR _ _ _ _ _ _).res rfl)) rfl ⟨rfl, (h2.setR _ _ _ _ _ _).2.2⟩
  · go_enter Tryz.func50, Tryz.ntmps50
    go_wp2_with fail
    refine Calls.mono (HR _).out ?_
    rintro _ w1 ⟨rfl, b1⟩
    have h1 := h0.next b1
    obtain ⟨y0, y1, y2, y3, y4, y5⟩ := h1.2.1.six
    obtain ⟨m0, m1, m2, m3, m4, m5⟩ := h1.1.six
    have zf := h1.2.1.frozen
    have wl := h1.2.1.lt
    clear h0 b1 HR
    go_wp2
    exact bodyPost_ret (ret_one rfl (g := w.heap.size + 1) rfl ((h1.setR _ _ _ _ _ _).res rfl)) rfl ⟨rfl, (h1.setR _ _ _ _ _ _).2.2⟩

end Go.Proofs.YtnhflnpjepiceaaGreatDoor
