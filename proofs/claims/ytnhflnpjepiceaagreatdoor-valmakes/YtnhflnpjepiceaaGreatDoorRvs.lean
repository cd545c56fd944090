import Derived.Test.YtnhflnpjepiceaaGreatDoorVrtM
import Derived.Test.YtnhflnpjepiceaaGreatDoorUfsM
import Derived.Test.YtnhflnpjepiceaaGreatDoorRrg
/- val: the document's Truth, word, text, Err, Str, Of. -/
namespace Go.Proofs.YtnhflnpjepiceaaGreatDoor
open Go.RowKit

set_option maxRecDepth 100000 in
set_option maxHeartbeats 400000 in
theorem rtruth_any (b : Bool) (w : World) : Calls Tryz.prog 33 #[.bool b] w fun r w' => r = .returned (vB b).v ∧ Below w.heap.size w w' := by
  go_enter Tryz.func33, Tryz.ntmps33
  go_wp2
  refine bodyPost_ret (ret_one rfl (g := w.heap.size) rfl (load25 (Row.new w 25 _) rfl)) rfl ⟨rfl, ?_⟩
  exact (Below.refl _ w).alloc (Nat.le_refl _) _
set_option maxRecDepth 100000 in
set_option maxHeartbeats 400000 in
theorem rerr_any (x : Int) (w : World) : Calls Tryz.prog 28 #[.int .i64 x] w fun r w' => r = .returned (errW x).v ∧ Below w.heap.size w w' := by
  unfold errW codeB
  by_cases h1 : x < 1
  · rw [decide_eq_false (by omega)]
    go_enter Tryz.func28, Tryz.ntmps28
    go_wp2
    refine bodyPost_ret (ret_one rfl (g := w.heap.size) rfl (load25 (Row.new w 25 _) rfl)) rfl ⟨rfl, ?_⟩
    exact (Below.refl _ w).alloc (Nat.le_refl _) _
  · by_cases h2 : 7 < x
    · rw [decide_eq_false (by omega)]
      go_enter Tryz.func28, Tryz.ntmps28
      go_wp2
      refine bodyPost_ret (ret_one rfl (g := w.heap.size) rfl (load25 (Row.new w 25 _) rfl)) rfl ⟨rfl, ?_⟩
      exact (Below.refl _ w).alloc (Nat.le_refl _) _
    · rw [decide_eq_true (by omega)]
      go_enter Tryz.func28, Tryz.ntmps28
      go_wp2
      refine bodyPost_ret (ret_one rfl (g := w.heap.size) rfl (load25 (Row.new w 25 _) rfl)) rfl ⟨rfl, ?_⟩
      exact (Below.refl _ w).alloc (Nat.le_refl _) _
set_option maxRecDepth 100000 in
set_option maxHeartbeats 400000 in
theorem risText_any (s : ByteArray) (w : World) : Calls Tryz.prog 47 #[.string s] w fun r w' => r = .returned (.bool (textB s)) ∧ Below w.heap.size w w' := by
  unfold textB
  have HX : s.size ≤ 255 → ∀ V, Hid (Calls Tryz.prog 90 #[.string s] V fun e w' => e = .returned (.int .i64 (errX (xmlL (natsOf s)))) ∧ Below V.heap.size V w') := fun h V => xml_any s (by omega) V
  obtain ⟨R, HR⟩ : ∃ R, Hid (xmlL (natsOf s) = R) := ⟨_, rfl⟩
  simp only [HR.out] at HX ⊢
  by_cases h1 : s.size ≤ 255
  · rw [decide_eq_true h1]
    cases R
    · go_enter Tryz.func47, Tryz.ntmps47
      go_wp2_with fail
      refine Calls.mono (HX h1 _).out ?_
      rintro _ w1 ⟨rfl, b1⟩
      unfold errX
      go_wp2
      go_ret
      exact ⟨rfl, b1⟩
    · go_enter Tryz.func47, Tryz.ntmps47
      go_wp2_with fail
      refine Calls.mono (HX h1 _).out ?_
      rintro _ w1 ⟨rfl, b1⟩
      unfold errX
      go_wp2
      go_ret
      exact ⟨rfl, b1⟩
  · rw [decide_eq_false h1]
    go_enter Tryz.func47, Tryz.ntmps47
    go_wp2
    go_ret
    exact ⟨rfl, Below.refl _ _⟩
set_option maxRecDepth 100000 in
set_option maxHeartbeats 400000 in
theorem rstr_any (s : ByteArray) (w : World) : Calls Tryz.prog 26 #[.string s] w fun r w' => r = .returned (strW s).v ∧ Below w.heap.size w w' := by
  unfold strW
  have r0 := Row.new w 25 #[.int .i64 0, .int .i64 0, .int .i64 0, .string .empty, .bool false, .int .i64 0]
  have b0 : Below w.heap.size w (w.alloc (.cells #[.int .i64 0, .int .i64 0, .int .i64 0, .string .empty, .bool false, .int .i64 0] 25)) := (Below.refl _ w).alloc (Nat.le_refl _) _
  cases h : textB s with
  | false =>
    go_enter Tryz.func26, Tryz.ntmps26
    go_wp2_with fail
    refine Calls.mono (risText_any s _) ?_
    rintro _ w1 ⟨rfl, b1⟩
    rw [h]
    go_wp2_with fail
    refine Calls.mono (rerr_any 2 _) ?_
    rintro _ w2 ⟨rfl, b2⟩
    rw [errW2]
    have s1 := b1.size
    simp only [World.size_alloc] at s1
    have r2 := (r0.below b1 (by simp)).below b2 (by omega)
    have bb : Below w.heap.size w w2 := (b0.trans (b1.mono (by simp))).trans (b2.mono (by omega))
    obtain ⟨y0, y1, y2, y3, y4, y5⟩ := r2.six
    have zf := r2.frozen
    have wl := r2.lt
    clear b1 b2 b0 r0
    go_wp2
    exact bodyPost_ret (ret_one rfl (g := w.heap.size) rfl (load25 (r2.set6 _ _ _ _ _ _) rfl)) rfl ⟨rfl, below_set6 bb (Nat.le_refl _) _ _ _ _ _ _⟩
  | true =>
    go_enter Tryz.func26, Tryz.ntmps26
    go_wp2_with fail
    refine Calls.mono (risText_any s _) ?_
    rintro _ w1 ⟨rfl, b1⟩
    rw [h]
    have r2 := r0.below b1 (by simp)
    have bb : Below w.heap.size w w1 := b0.trans (b1.mono (by simp))
    obtain ⟨y0, y1, y2, y3, y4, y5⟩ := r2.six
    have zf := r2.frozen
    have wl := r2.lt
    clear b1 b0 r0
    go_wp2
    exact bodyPost_ret (ret_one rfl (g := w.heap.size) rfl (load25 (r2.set6 _ _ _ _ _ _) rfl)) rfl ⟨rfl, below_set6 bb (Nat.le_refl _) _ _ _ _ _ _⟩
set_option maxRecDepth 100000 in
set_option maxHeartbeats 1200000 in
theorem rof_val (c e er : Int) (hc : I64 c) (w : World) : Calls Tryz.prog 24 #[.agg #[.int .i64 c, .int .i64 e], .int .i64 er] w fun r w' => r = .returned (ofW c e er).v ∧ Below w.heap.size w w' := by
  have HR : ∀ V, Hid (Calls Tryz.prog 46 #[.agg #[.int .i64 c, .int .i64 e]] V fun r w' => r = .returned (.bool (rightB c e)) ∧ Below V.heap.size V w') := fun V => rright_any c e hc V
  unfold ofW
  obtain ⟨R, hR⟩ : ∃ R, rightB c e = R := ⟨_, rfl⟩
  rw [hR] at HR ⊢
  clear hR hc
  have h0 := DR.start w #[.int .i64 c, .int .i64 e] #[.int .i64 0, .int .i64 0, .int .i64 0, .string .empty, .bool false, .int .i64 0]
  by_cases e1 : er = 31
  · subst e1
    rw [if_pos rfl]
    go_enter Tryz.func24, Tryz.ntmps24
    go_wp2_with fail
    refine Calls.mono (rerr_any 1 _) ?_
    rintro _ w2 ⟨rfl, b2⟩
    rw [errW1]
    have h2 := h0.next b2
    obtain ⟨y0, y1, y2, y3, y4, y5⟩ := h2.2.1.six
    have zf := h2.2.1.frozen
    have wl := h2.2.1.lt
    clear b2 HR h0
    go_wp2
    exact bodyPost_ret (ret_one rfl (g := w.heap.size + 1) rfl (h2.ret _ _ _ _ _ _)) rfl ⟨rfl, below_set6 h2.2.2 (by omega) _ _ _ _ _ _⟩
  · rw [if_neg e1]
    by_cases e0 : er = 0
    · subst e0
      cases R
      · rw [if_pos (.inr rfl)]
        go_enter Tryz.func24, Tryz.ntmps24
        go_wp2_with fail
        refine Calls.mono (HR _).out ?_
        rintro _ w1 ⟨rfl, b1⟩
        have h1 := h0.next b1
        clear h0 b1 HR
        go_wp2_with fail
        refine Calls.mono (rerr_any 5 _) ?_
        rintro _ w2 ⟨rfl, b2⟩
        rw [errW5]
        have h2 := h1.next b2
        obtain ⟨y0, y1, y2, y3, y4, y5⟩ := h2.2.1.six
        have zf := h2.2.1.frozen
        have wl := h2.2.1.lt
        clear h1 b2
        go_wp2
        exact bodyPost_ret (ret_one rfl (g := w.heap.size + 1) rfl (h2.ret _ _ _ _ _ _)) rfl ⟨rfl, below_set6 h2.2.2 (by omega) _ _ _ _ _ _⟩
      · rw [if_neg (by simp)]
        go_enter Tryz.func24, Tryz.ntmps24
        go_wp2_with fail
        refine Calls.mono (HR _).out ?_
        rintro _ w1 ⟨rfl, b1⟩
        have h2 := h0.next b1
        obtain ⟨y0, y1, y2, y3, y4, y5⟩ := h2.2.1.six
        obtain ⟨m0, m1⟩ := h2.1.duo
        have zf := h2.2.1.frozen
        have wl := h2.2.1.lt
        clear h0 b1 HR
        go_wp2
        exact bodyPost_ret (ret_one rfl (g := w.heap.size + 1) rfl (h2.ret _ _ _ _ _ _)) rfl ⟨rfl, below_set6 h2.2.2 (by omega) _ _ _ _ _ _⟩
    · rw [if_pos (.inl e0)]
      have e3 : (er == 31) = false := by simpa using e1
      have e4 : (er != 0) = true := by simpa using e0
      go_enter Tryz.func24, Tryz.ntmps24
      go_wp2_with fail
      refine Calls.mono (rerr_any 5 _) ?_
      rintro _ w2 ⟨rfl, b2⟩
      rw [errW5]
      have h2 := h0.next b2
      obtain ⟨y0, y1, y2, y3, y4, y5⟩ := h2.2.1.six
      have zf := h2.2.1.frozen
      have wl := h2.2.1.lt
      clear b2 HR h0
      go_wp2
      exact bodyPost_ret (ret_one rfl (g := w.heap.size + 1) rfl (h2.ret _ _ _ _ _ _)) rfl ⟨rfl, below_set6 h2.2.2 (by omega) _ _ _ _ _ _⟩
end Go.Proofs.YtnhflnpjepiceaaGreatDoor
