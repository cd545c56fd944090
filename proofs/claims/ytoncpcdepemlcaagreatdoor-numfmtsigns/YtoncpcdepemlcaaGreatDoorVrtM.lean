import Derived.Test.YtoncpcdepemlcaaGreatDoorVrwM
import Derived.Test.YtoncpcdepemlcaaGreatDoorWprM
/- val: Right of any value. -/
namespace Go.Proofs.YtoncpcdepemlcaaGreatDoor
open Go.RowKit

def rightV (v : Vl) : Bool := if v.k = 0 then v.eqB vE else if v.k = 1 then rightB v.c v.e && v.eqB (vN v.c v.e) else if v.k = 2 then textB v.s && v.eqB (vT v.s) else if v.k = 3 then v.eqB (vB v.b) else if v.k = 4 then codeB v.x && v.eqB (vX v.x) else false
set_option maxRecDepth 100000 in
set_option maxHeartbeats 1200000 in
theorem right_num (c e : Int) (s : ByteArray) (b : Bool) (x : Int) (hc : I64 c) (w : World) : Calls Tryz.prog 21 #[.agg #[.int .i64 1, .int .i64 c, .int .i64 e, .string s, .bool b, .int .i64 x]] w fun r w' => r = .returned (.bool (rightB c e && (⟨1, c, e, s, b, x⟩ : Vl).eqB (vN c e))) ∧ Below w.heap.size w w' := by
  have r0 := (Row.new w 40 #[.int .i64 1, .int .i64 c, .int .i64 e, .string s, .bool b, .int .i64 x]).alloc (.cells #[.int .i64 1, .int .i64 0, .int .i64 0, .string ⟨#[]⟩, .bool false, .int .i64 0] 40)
  have r1 := Row.new1 w (.cells #[.int .i64 1, .int .i64 c, .int .i64 e, .string s, .bool b, .int .i64 x] 40) 40 #[.int .i64 1, .int .i64 0, .int .i64 0, .string ⟨#[]⟩, .bool false, .int .i64 0]
  have b0 : Below w.heap.size w ((w.alloc (.cells #[.int .i64 1, .int .i64 c, .int .i64 e, .string s, .bool b, .int .i64 x] 40)).alloc (.cells #[.int .i64 1, .int .i64 0, .int .i64 0, .string ⟨#[]⟩, .bool false, .int .i64 0] 40)) := ((Below.refl _ w).alloc (Nat.le_refl _) _).alloc (by simp) _
  have HCALL : ∀ V, Hid (Calls Tryz.prog 42 #[.agg #[.int .i64 c, .int .i64 e]] V fun r w' => r = .returned (.bool (rightB c e)) ∧ Below V.heap.size V w') := fun V => right_any c e hc V
  obtain ⟨F, HF⟩ : ∃ F, Hid (rightB c e = F) := ⟨_, rfl⟩
  rw [HF.out] at HCALL ⊢
  have hne : w.heap.size ≠ w.heap.size + 1 := by omega
  go_enter Tryz.func21, Tryz.ntmps21
  go_upto_region 6 with fail
  have hsz : ((w.alloc (.cells #[.int .i64 1, .int .i64 c, .int .i64 e, .string s, .bool b, .int .i64 x] 40)).alloc (.cells #[.int .i64 1, .int .i64 0, .int .i64 0, .string ⟨#[]⟩, .bool false, .int .i64 0] 40)).heap.size = w.heap.size + 2 := by simp
  generalize (w.alloc (.cells #[.int .i64 1, .int .i64 c, .int .i64 e, .string s, .bool b, .int .i64 x] 40)).alloc (.cells #[.int .i64 1, .int .i64 0, .int .i64 0, .string ⟨#[]⟩, .bool false, .int .i64 0] 40) = W at *
  have hS : Below W.heap.size W W.drew := (Below.refl _ W).drew
  have ca := fun wx (hx : Below W.heap.size W wx) => (r0.below hx r0.lt).six
  refine wp_region_M (fun wx : World => Below W.heap.size W wx) (fun j => decide (j < 6)) 8 rfl (by kernel_rfl) ?_
  refine wpM_held 0 (v := ?_) rfl (by kernel_rfl) (by kernel_rfl) rfl (fun _ _ _ h => h) rfl (by intro wx hx; go_simp <;> rfl) hS ?_
  refine wpM_held 1 (v := .agg #[.int .i64 c, .int .i64 e]) rfl (by kernel_rfl) (by kernel_rfl) rfl (fun _ _ _ h => h) rfl (by intro wx hx; obtain ⟨x0, x1, x2, x3, x4, x5⟩ := ca wx hx; go_simp <;> rfl) hS ?_
  refine wpM_held 2 (v := ?_) rfl (by kernel_rfl) (by kernel_rfl) rfl (fun _ _ _ h => h) rfl (by intro wx hx; go_simp <;> rfl) hS ?_
  refine wpM_held 3 (v := .agg #[.int .i64 c, .int .i64 e]) rfl (by kernel_rfl) (by kernel_rfl) rfl (fun _ _ _ h => h) rfl (by intro wx hx; obtain ⟨x0, x1, x2, x3, x4, x5⟩ := ca wx hx; go_simp <;> rfl) hS ?_
  refine wpM_held 5 (v := ?_) rfl (by kernel_rfl) (by kernel_rfl) rfl (fun _ _ _ h => h) rfl (by intro wx hx; go_simp <;> rfl) hS ?_
  refine wpM_one 4 rfl (by kernel_rfl) rfl ?_
  go_wp2_with fail
  refine Calls.mono (HCALL _).out ?_
  rintro _ w4 ⟨rfl, b4⟩
  have hS4 : Below W.heap.size W w4 := hS.trans (b4.mono hS.size)
  have q0 := r0.below hS4 r0.lt
  have q1 := r1.below hS4 r1.lt
  have hb : Below w.heap.size w w4 := b0.trans (hS4.mono (by omega))
  obtain ⟨y0, y1, y2, y3, y4, y5⟩ := q1.six
  have zf := q1.frozen
  have wl := q1.lt
  go_wp2_with fail
  refine ⟨fun _ => hS4, ?_⟩
  refine wpM_one 6 rfl (by kernel_rfl) rfl ?_
  go_wp2_with fail
  refine ⟨fun h => absurd h (by decide), ?_⟩
  refine wpM_one 7 rfl (by kernel_rfl) rfl ?_
  go_wp2_with fail
  refine ⟨fun h => absurd h (by decide), ?_⟩
  refine wpM_done (by kernel_rfl) ?_
  have p0 := ((q0.off 1 ((.int .i64 c)) hne).off 2 ((.int .i64 e)) hne)
  have p1 := ((q1.set 1 ((.int .i64 c))).set 2 ((.int .i64 e)))
  have pb := (below_set (B := w.heap.size + 1) (below_set (B := w.heap.size + 1) hb 1 ((.int .i64 c)) (by omega)) 2 ((.int .i64 e)) (by omega))
  obtain ⟨m0, m1, m2, m3, m4, m5⟩ := p0.six
  obtain ⟨n0, n1, n2, n3, n4, n5⟩ := p1.six
  clear r0 r1 b0 HCALL hS ca b4 hS4 q0 q1 hb y0 y1 y2 y3 y4 y5 zf wl
  generalize ((w4.setCell ⟨w.heap.size + 1, 1, none⟩ (.int .i64 c)).setCell ⟨w.heap.size + 1, 2, none⟩ (.int .i64 e)) = w5 at *
  cases F
  · go_wp2
    go_ret
    exact ⟨by simp, pb⟩
  · go_wp2
    all_goals
      go_ret
      refine ⟨?_, pb⟩
      simp_all [Vl.eqB, vN, ByteArray.toList_eq]
set_option maxRecDepth 100000 in
set_option maxHeartbeats 1200000 in
theorem right_text (c e : Int) (s : ByteArray) (b : Bool) (x : Int) (w : World) : Calls Tryz.prog 21 #[.agg #[.int .i64 2, .int .i64 c, .int .i64 e, .string s, .bool b, .int .i64 x]] w fun r w' => r = .returned (.bool (textB s && (⟨2, c, e, s, b, x⟩ : Vl).eqB (vT s))) ∧ Below w.heap.size w w' := by
  have r0 := (Row.new w 40 #[.int .i64 2, .int .i64 c, .int .i64 e, .string s, .bool b, .int .i64 x]).alloc (.cells #[.int .i64 2, .int .i64 0, .int .i64 0, .string ⟨#[]⟩, .bool false, .int .i64 0] 40)
  have r1 := Row.new1 w (.cells #[.int .i64 2, .int .i64 c, .int .i64 e, .string s, .bool b, .int .i64 x] 40) 40 #[.int .i64 2, .int .i64 0, .int .i64 0, .string ⟨#[]⟩, .bool false, .int .i64 0]
  have b0 : Below w.heap.size w ((w.alloc (.cells #[.int .i64 2, .int .i64 c, .int .i64 e, .string s, .bool b, .int .i64 x] 40)).alloc (.cells #[.int .i64 2, .int .i64 0, .int .i64 0, .string ⟨#[]⟩, .bool false, .int .i64 0] 40)) := ((Below.refl _ w).alloc (Nat.le_refl _) _).alloc (by simp) _
  have HCALL : ∀ V, Hid (Calls Tryz.prog 43 #[.string s] V fun r w' => r = .returned (.bool (textB s)) ∧ Below V.heap.size V w') := fun V => isText_any s V
  obtain ⟨F, HF⟩ : ∃ F, Hid (textB s = F) := ⟨_, rfl⟩
  rw [HF.out] at HCALL ⊢
  have hne : w.heap.size ≠ w.heap.size + 1 := by omega
  go_enter Tryz.func21, Tryz.ntmps21
  go_upto_region 8 with fail
  have hsz : ((w.alloc (.cells #[.int .i64 2, .int .i64 c, .int .i64 e, .string s, .bool b, .int .i64 x] 40)).alloc (.cells #[.int .i64 2, .int .i64 0, .int .i64 0, .string ⟨#[]⟩, .bool false, .int .i64 0] 40)).heap.size = w.heap.size + 2 := by simp
  generalize (w.alloc (.cells #[.int .i64 2, .int .i64 c, .int .i64 e, .string s, .bool b, .int .i64 x] 40)).alloc (.cells #[.int .i64 2, .int .i64 0, .int .i64 0, .string ⟨#[]⟩, .bool false, .int .i64 0] 40) = W at *
  have hS : Below W.heap.size W W.drew := (Below.refl _ W).drew
  have ca := fun wx (hx : Below W.heap.size W wx) => (r0.below hx r0.lt).six
  refine wp_region_M (fun wx : World => Below W.heap.size W wx) (fun j => decide (j < 6)) 8 rfl (by kernel_rfl) ?_
  refine wpM_held 0 (v := ?_) rfl (by kernel_rfl) (by kernel_rfl) rfl (fun _ _ _ h => h) rfl (by intro wx hx; go_simp <;> rfl) hS ?_
  refine wpM_held 1 (v := .string s) rfl (by kernel_rfl) (by kernel_rfl) rfl (fun _ _ _ h => h) rfl (by intro wx hx; obtain ⟨x0, x1, x2, x3, x4, x5⟩ := ca wx hx; go_simp <;> rfl) hS ?_
  refine wpM_held 2 (v := ?_) rfl (by kernel_rfl) (by kernel_rfl) rfl (fun _ _ _ h => h) rfl (by intro wx hx; go_simp <;> rfl) hS ?_
  refine wpM_held 3 (v := .string s) rfl (by kernel_rfl) (by kernel_rfl) rfl (fun _ _ _ h => h) rfl (by intro wx hx; obtain ⟨x0, x1, x2, x3, x4, x5⟩ := ca wx hx; go_simp <;> rfl) hS ?_
  refine wpM_held 5 (v := ?_) rfl (by kernel_rfl) (by kernel_rfl) rfl (fun _ _ _ h => h) rfl (by intro wx hx; go_simp <;> rfl) hS ?_
  refine wpM_one 4 rfl (by kernel_rfl) rfl ?_
  go_wp2_with fail
  refine Calls.mono (HCALL _).out ?_
  rintro _ w4 ⟨rfl, b4⟩
  have hS4 : Below W.heap.size W w4 := hS.trans (b4.mono hS.size)
  have q0 := r0.below hS4 r0.lt
  have q1 := r1.below hS4 r1.lt
  have hb : Below w.heap.size w w4 := b0.trans (hS4.mono (by omega))
  obtain ⟨y0, y1, y2, y3, y4, y5⟩ := q1.six
  have zf := q1.frozen
  have wl := q1.lt
  go_wp2_with fail
  refine ⟨fun _ => hS4, ?_⟩
  refine wpM_one 6 rfl (by kernel_rfl) rfl ?_
  go_wp2_with fail
  refine ⟨fun h => absurd h (by decide), ?_⟩
  refine wpM_one 7 rfl (by kernel_rfl) rfl ?_
  go_wp2_with fail
  refine ⟨fun h => absurd h (by decide), ?_⟩
  refine wpM_done (by kernel_rfl) ?_
  have p0 := (q0.off 3 ((.string s)) hne)
  have p1 := (q1.set 3 ((.string s)))
  have pb := (below_set (B := w.heap.size + 1) hb 3 ((.string s)) (by omega))
  obtain ⟨m0, m1, m2, m3, m4, m5⟩ := p0.six
  obtain ⟨n0, n1, n2, n3, n4, n5⟩ := p1.six
  clear r0 r1 b0 HCALL hS ca b4 hS4 q0 q1 hb y0 y1 y2 y3 y4 y5 zf wl
  generalize (w4.setCell ⟨w.heap.size + 1, 3, none⟩ (.string s)) = w5 at *
  cases F
  · go_wp2
    go_ret
    exact ⟨by simp, pb⟩
  · go_wp2
    all_goals
      go_ret
      refine ⟨?_, pb⟩
      simp_all [Vl.eqB, vT, ByteArray.toList_eq]
set_option maxRecDepth 100000 in
set_option maxHeartbeats 1200000 in
theorem right_err (c e : Int) (s : ByteArray) (b : Bool) (x : Int) (w : World) : Calls Tryz.prog 21 #[.agg #[.int .i64 4, .int .i64 c, .int .i64 e, .string s, .bool b, .int .i64 x]] w fun r w' => r = .returned (.bool (codeB x && (⟨4, c, e, s, b, x⟩ : Vl).eqB (vX x))) ∧ Below w.heap.size w w' := by
  have r0 := (Row.new w 40 #[.int .i64 4, .int .i64 c, .int .i64 e, .string s, .bool b, .int .i64 x]).alloc (.cells #[.int .i64 4, .int .i64 0, .int .i64 0, .string ⟨#[]⟩, .bool false, .int .i64 0] 40)
  have r1 := Row.new1 w (.cells #[.int .i64 4, .int .i64 c, .int .i64 e, .string s, .bool b, .int .i64 x] 40) 40 #[.int .i64 4, .int .i64 0, .int .i64 0, .string ⟨#[]⟩, .bool false, .int .i64 0]
  have b0 : Below w.heap.size w ((w.alloc (.cells #[.int .i64 4, .int .i64 c, .int .i64 e, .string s, .bool b, .int .i64 x] 40)).alloc (.cells #[.int .i64 4, .int .i64 0, .int .i64 0, .string ⟨#[]⟩, .bool false, .int .i64 0] 40)) := ((Below.refl _ w).alloc (Nat.le_refl _) _).alloc (by simp) _
  have HCALL : ∀ V, Hid (Calls Tryz.prog 44 #[.int .i64 x] V fun r w' => r = .returned (.bool (codeB x)) ∧ Below V.heap.size V w') := fun V => (isCode_any x V).mono (fun r w h => ⟨h.1, by rw [h.2]; exact Below.refl _ _⟩)
  obtain ⟨F, HF⟩ : ∃ F, Hid (codeB x = F) := ⟨_, rfl⟩
  rw [HF.out] at HCALL ⊢
  have hne : w.heap.size ≠ w.heap.size + 1 := by omega
  go_enter Tryz.func21, Tryz.ntmps21
  go_upto_region 12 with fail
  have hsz : ((w.alloc (.cells #[.int .i64 4, .int .i64 c, .int .i64 e, .string s, .bool b, .int .i64 x] 40)).alloc (.cells #[.int .i64 4, .int .i64 0, .int .i64 0, .string ⟨#[]⟩, .bool false, .int .i64 0] 40)).heap.size = w.heap.size + 2 := by simp
  generalize (w.alloc (.cells #[.int .i64 4, .int .i64 c, .int .i64 e, .string s, .bool b, .int .i64 x] 40)).alloc (.cells #[.int .i64 4, .int .i64 0, .int .i64 0, .string ⟨#[]⟩, .bool false, .int .i64 0] 40) = W at *
  have hS : Below W.heap.size W W.drew := (Below.refl _ W).drew
  have ca := fun wx (hx : Below W.heap.size W wx) => (r0.below hx r0.lt).six
  refine wp_region_M (fun wx : World => Below W.heap.size W wx) (fun j => decide (j < 6)) 8 rfl (by kernel_rfl) ?_
  refine wpM_held 0 (v := ?_) rfl (by kernel_rfl) (by kernel_rfl) rfl (fun _ _ _ h => h) rfl (by intro wx hx; go_simp <;> rfl) hS ?_
  refine wpM_held 1 (v := .int .i64 x) rfl (by kernel_rfl) (by kernel_rfl) rfl (fun _ _ _ h => h) rfl (by intro wx hx; obtain ⟨x0, x1, x2, x3, x4, x5⟩ := ca wx hx; go_simp <;> rfl) hS ?_
  refine wpM_held 2 (v := ?_) rfl (by kernel_rfl) (by kernel_rfl) rfl (fun _ _ _ h => h) rfl (by intro wx hx; go_simp <;> rfl) hS ?_
  refine wpM_held 3 (v := .int .i64 x) rfl (by kernel_rfl) (by kernel_rfl) rfl (fun _ _ _ h => h) rfl (by intro wx hx; obtain ⟨x0, x1, x2, x3, x4, x5⟩ := ca wx hx; go_simp <;> rfl) hS ?_
  refine wpM_held 5 (v := ?_) rfl (by kernel_rfl) (by kernel_rfl) rfl (fun _ _ _ h => h) rfl (by intro wx hx; go_simp <;> rfl) hS ?_
  refine wpM_one 4 rfl (by kernel_rfl) rfl ?_
  go_wp2_with fail
  refine Calls.mono (HCALL _).out ?_
  rintro _ w4 ⟨rfl, b4⟩
  have hS4 : Below W.heap.size W w4 := hS.trans (b4.mono hS.size)
  have q0 := r0.below hS4 r0.lt
  have q1 := r1.below hS4 r1.lt
  have hb : Below w.heap.size w w4 := b0.trans (hS4.mono (by omega))
  obtain ⟨y0, y1, y2, y3, y4, y5⟩ := q1.six
  have zf := q1.frozen
  have wl := q1.lt
  go_wp2_with fail
  refine ⟨fun _ => hS4, ?_⟩
  refine wpM_one 6 rfl (by kernel_rfl) rfl ?_
  go_wp2_with fail
  refine ⟨fun h => absurd h (by decide), ?_⟩
  refine wpM_one 7 rfl (by kernel_rfl) rfl ?_
  go_wp2_with fail
  refine ⟨fun h => absurd h (by decide), ?_⟩
  refine wpM_done (by kernel_rfl) ?_
  have p0 := (q0.off 5 ((.int .i64 x)) hne)
  have p1 := (q1.set 5 ((.int .i64 x)))
  have pb := (below_set (B := w.heap.size + 1) hb 5 ((.int .i64 x)) (by omega))
  obtain ⟨m0, m1, m2, m3, m4, m5⟩ := p0.six
  obtain ⟨n0, n1, n2, n3, n4, n5⟩ := p1.six
  clear r0 r1 b0 HCALL hS ca b4 hS4 q0 q1 hb y0 y1 y2 y3 y4 y5 zf wl
  generalize (w4.setCell ⟨w.heap.size + 1, 5, none⟩ (.int .i64 x)) = w5 at *
  cases F
  · go_wp2
    go_ret
    exact ⟨by simp, pb⟩
  · go_wp2
    all_goals
      go_ret
      refine ⟨?_, pb⟩
      simp_all [Vl.eqB, vX, ByteArray.toList_eq]
set_option maxRecDepth 100000 in
set_option maxHeartbeats 1200000 in
theorem right_empty (c e : Int) (s : ByteArray) (b : Bool) (x : Int) (w : World) : Calls Tryz.prog 21 #[.agg #[.int .i64 0, .int .i64 c, .int .i64 e, .string s, .bool b, .int .i64 x]] w fun r w' => r = .returned (.bool ((⟨0, c, e, s, b, x⟩ : Vl).eqB vE)) ∧ Below w.heap.size w w' := by
  have pb : ∀ o o2, Below w.heap.size w ((w.alloc o).alloc o2) := fun o o2 => ((Below.refl _ w).alloc (Nat.le_refl _) _).alloc (by simp) _
  go_enter Tryz.func21, Tryz.ntmps21
  go_wp2
  all_goals
    go_ret
    refine ⟨?_, pb _ _⟩
    simp_all [Vl.eqB, vE, ByteArray.toList_eq]
set_option maxRecDepth 100000 in
set_option maxHeartbeats 1200000 in
theorem right_bool (c e : Int) (s : ByteArray) (b : Bool) (x : Int) (w : World) : Calls Tryz.prog 21 #[.agg #[.int .i64 3, .int .i64 c, .int .i64 e, .string s, .bool b, .int .i64 x]] w fun r w' => r = .returned (.bool ((⟨3, c, e, s, b, x⟩ : Vl).eqB (vB b))) ∧ Below w.heap.size w w' := by
  have pb : ∀ o o2, Below w.heap.size w ((w.alloc o).alloc o2) := fun o o2 => ((Below.refl _ w).alloc (Nat.le_refl _) _).alloc (by simp) _
  go_enter Tryz.func21, Tryz.ntmps21
  go_wp2
  all_goals
    go_ret
    refine ⟨?_, pb _ _⟩
    simp_all [Vl.eqB, vB, ByteArray.toList_eq]
set_option maxRecDepth 100000 in
set_option maxHeartbeats 1200000 in
theorem right_none (k c e : Int) (s : ByteArray) (b : Bool) (x : Int) (h0 : ¬ k = 0) (h1 : ¬ k = 1) (h2 : ¬ k = 2) (h3 : ¬ k = 3) (h4 : ¬ k = 4) (w : World) : Calls Tryz.prog 21 #[.agg #[.int .i64 k, .int .i64 c, .int .i64 e, .string s, .bool b, .int .i64 x]] w fun r w' => r = .returned (.bool (false)) ∧ Below w.heap.size w w' := by
  have pb : ∀ o o2, Below w.heap.size w ((w.alloc o).alloc o2) := fun o o2 => ((Below.refl _ w).alloc (Nat.le_refl _) _).alloc (by simp) _
  go_enter Tryz.func21, Tryz.ntmps21
  go_wp2
  all_goals
    go_ret
    refine ⟨?_, pb _ _⟩
    rfl
theorem vright_any (v : Vl) (hc : I64 v.c) (w : World) : Calls Tryz.prog 21 #[v.v] w fun r w' => r = .returned (.bool (rightV v)) ∧ Below w.heap.size w w' := by
  obtain ⟨k, c, e, s, b, x⟩ := v
  unfold rightV Vl.v Vl.cells
  by_cases h0 : k = 0
  · subst h0; exact right_empty c e s b x w
  by_cases h1 : k = 1
  · subst h1; exact right_num c e s b x hc w
  by_cases h2 : k = 2
  · subst h2; exact right_text c e s b x w
  by_cases h3 : k = 3
  · subst h3; exact right_bool c e s b x w
  by_cases h4 : k = 4
  · subst h4; exact right_err c e s b x w
  · simp only [h0, h1, h2, h3, h4, if_false]
    exact right_none k c e s b x h0 h1 h2 h3 h4 w
end Go.Proofs.YtoncpcdepemlcaaGreatDoor
/- val: taken, Of; what stands in memory of a call: its parameter and its result. -/
namespace Go.Proofs.YtoncpcdepemlcaaGreatDoor
open Go.RowKit

/-- The blocks of a call: its parameter's value and its result's. -/
def PR (w W : World) (p q : Array Value) : Prop := Row W w.heap.size 40 p ∧ Row W (w.heap.size + 1) 40 q ∧ Below w.heap.size w W
theorem PR.start (w : World) (p q : Array Value) : PR w ((w.alloc (.cells p 40)).alloc (.cells q 40)) p q :=
  ⟨(Row.new w 40 p).alloc _, Row.new1 w _ 40 q, ((Below.refl _ w).alloc (Nat.le_refl _) _).alloc (by simp) _⟩
theorem PR.next {w W W' : World} {p q : Array Value} (h : PR w W p q) (b : Below W.heap.size W W') : PR w W' p q :=
  ⟨h.1.below b h.1.lt, h.2.1.below b h.2.1.lt, h.2.2.trans (b.mono h.2.2.size)⟩
theorem PR.setR {w W : World} {p : Array Value} {a b c d e f : Value} (h : PR w W p #[a, b, c, d, e, f]) (a' b' c' d' e' f' : Value) :
    PR w ((((((W.setCell ⟨w.heap.size + 1, 0, none⟩ a').setCell ⟨w.heap.size + 1, 1, none⟩ b').setCell ⟨w.heap.size + 1, 2, none⟩ c').setCell ⟨w.heap.size + 1, 3, none⟩ d').setCell ⟨w.heap.size + 1, 4, none⟩ e').setCell ⟨w.heap.size + 1, 5, none⟩ f') p #[a', b', c', d', e', f'] :=
  ⟨h.1.off6 (by omega) _ _ _ _ _ _, h.2.1.set6 _ _ _ _ _ _, below_set6 h.2.2 (by omega) _ _ _ _ _ _⟩
theorem PR.setP {w W : World} {q : Array Value} {a b c d e f : Value} (h : PR w W #[a, b, c, d, e, f] q) (a' b' c' d' e' f' : Value) :
    PR w ((((((W.setCell ⟨w.heap.size, 0, none⟩ a').setCell ⟨w.heap.size, 1, none⟩ b').setCell ⟨w.heap.size, 2, none⟩ c').setCell ⟨w.heap.size, 3, none⟩ d').setCell ⟨w.heap.size, 4, none⟩ e').setCell ⟨w.heap.size, 5, none⟩ f') #[a', b', c', d', e', f'] q :=
  ⟨h.1.set6 _ _ _ _ _ _, h.2.1.off6 (by omega) _ _ _ _ _ _, below_set6 h.2.2 (Nat.le_refl _) _ _ _ _ _ _⟩
theorem PR.res {w W : World} {p q : Array Value} (h : PR w W p q) (hs : q.size = 6) : (loadVar 40 ⟨w.heap.size + 1, 0, none⟩).run Tryz.prog W = .ok (.agg q) W := load25 h.2.1 hs

def cleanV (v : Vl) : Vl := if rightV v then v else vX 2
set_option maxRecDepth 100000 in
set_option maxHeartbeats 1200000 in
theorem taken_any (v : Vl) (hc : I64 v.c) (w : World) : Calls Tryz.prog 45 #[v.v] w fun r w' => r = .returned (cleanV v).v ∧ Below w.heap.size w w' := by
  have HR : ∀ V, Hid (Calls Tryz.prog 21 #[v.v] V fun r w' => r = .returned (.bool (rightV v)) ∧ Below V.heap.size V w') := fun V => vright_any v hc V
  unfold cleanV
  obtain ⟨R, hR⟩ : ∃ R, rightV v = R := ⟨_, rfl⟩
  rw [hR] at HR ⊢
  clear hR hc
  obtain ⟨k, c, e, s, b, x⟩ := v
  unfold Vl.v Vl.cells at *
  have h0 := PR.start w #[.int .i64 k, .int .i64 c, .int .i64 e, .string s, .bool b, .int .i64 x] #[.int .i64 0, .int .i64 0, .int .i64 0, .string .empty, .bool false, .int .i64 0]
  cases R
  · go_enter Tryz.func45, Tryz.ntmps45
    go_wp2_with fail
    refine Calls.mono (HR _).out ?_
    rintro _ w1 ⟨rfl, b1⟩
    have h1 := h0.next b1
    clear h0 b1 HR
    go_wp2_with fail
    refine Calls.mono (err_any 2 _) ?_
    rintro _ w2 ⟨rfl, b2⟩
    rw [errW2]
    have h2 := h1.next b2
    obtain ⟨y0, y1, y2, y3, y4, y5⟩ := h2.2.1.six
    have zf := h2.2.1.frozen
    have wl := h2.2.1.lt
    clear h1 b2
    go_wp2
    exact bodyPost_ret (ret_one rfl (g := w.heap.size + 1) rfl ((h2.setR _ _ _ _ _ _).res rfl)) rfl ⟨rfl, (h2.setR _ _ _ _ _ _).2.2⟩
  · go_enter Tryz.func45, Tryz.ntmps45
    go_wp2_with fail
    refine Calls.mono (HR _).out ?_
    rintro _ w1 ⟨rfl, b1⟩
    have h1 := h0.next b1
    obtain ⟨y0, y1, y2, y3, y4, y5⟩ := h1.2.1.six
    obtain ⟨m0, m1, m2, m3, m4, m5⟩ := h1.1.six
    have zf := h1.2.1.frozen
    have wl := h1.2.1.lt
    clear h0 b1 HR
    go_wp2
    exact bodyPost_ret (ret_one rfl (g := w.heap.size + 1) rfl ((h1.setR _ _ _ _ _ _).res rfl)) rfl ⟨rfl, (h1.setR _ _ _ _ _ _).2.2⟩

/-- The blocks of Of: the Dec and the result. -/
def DR (w W : World) (p q : Array Value) : Prop := Row W w.heap.size 38 p ∧ Row W (w.heap.size + 1) 40 q ∧ Below w.heap.size w W
theorem DR.start (w : World) (p q : Array Value) : DR w ((w.alloc (.cells p 38)).alloc (.cells q 40)) p q :=
  ⟨(Row.new w 38 p).alloc _, Row.new1 w _ 40 q, ((Below.refl _ w).alloc (Nat.le_refl _) _).alloc (by simp) _⟩
theorem DR.next {w W W' : World} {p q : Array Value} (h : DR w W p q) (b : Below W.heap.size W W') : DR w W' p q :=
  ⟨h.1.below b h.1.lt, h.2.1.below b h.2.1.lt, h.2.2.trans (b.mono h.2.2.size)⟩
theorem DR.ret {w W : World} {p : Array Value} {a b c d e f : Value} (h : DR w W p #[a, b, c, d, e, f]) (a' b' c' d' e' f' : Value) :
    (loadVar 40 ⟨w.heap.size + 1, 0, none⟩).run Tryz.prog ((((((W.setCell ⟨w.heap.size + 1, 0, none⟩ a').setCell ⟨w.heap.size + 1, 1, none⟩ b').setCell ⟨w.heap.size + 1, 2, none⟩ c').setCell ⟨w.heap.size + 1, 3, none⟩ d').setCell ⟨w.heap.size + 1, 4, none⟩ e').setCell ⟨w.heap.size + 1, 5, none⟩ f') = .ok (.agg #[a', b', c', d', e', f']) ((((((W.setCell ⟨w.heap.size + 1, 0, none⟩ a').setCell ⟨w.heap.size + 1, 1, none⟩ b').setCell ⟨w.heap.size + 1, 2, none⟩ c').setCell ⟨w.heap.size + 1, 3, none⟩ d').setCell ⟨w.heap.size + 1, 4, none⟩ e').setCell ⟨w.heap.size + 1, 5, none⟩ f') :=
  load25 (h.2.1.set6 _ _ _ _ _ _) rfl
end Go.Proofs.YtoncpcdepemlcaaGreatDoor
