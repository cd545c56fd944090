import Derived.Test.YtfbhonjndepjbaaDoorRna
import Derived.Test.YtfbhonjndepjbaaDoorPqzM
import Derived.Test.YtfbhonjndepjbaaDoorDpaM
/- num: a Dec's number. -/
namespace Go.Proofs.YtfbhonjndepjbaaDoor
open Go.RowKit

set_option maxRecDepth 100000 in
set_option maxHeartbeats 1000000 in
theorem num_any (c e : Int) (hc : I64 c) (w : World) : Calls Tryd.prog 53 #[.agg #[.int .i64 c, .int .i64 e]] w fun r w' => ∃ sv, r = .returned (.tuple #[.agg #[.bool (decide (c < 0)), sv, .int .i64 e], .bool (decide (-18 ≤ e ∧ e ≤ 18))]) ∧ DgAt w' sv (digs c.natAbs) ∧ NewS w.heap.size sv ∧ Below w.heap.size w w' := by
  have HO : ∀ W, Hid (Calls Tryd.prog 64 #[.int .i64 c] W fun r w' => ∃ v, r = .returned v ∧ BigV w' c v ∧ NewV W.heap.size v ∧ Below W.heap.size W w') := fun W => of_new c hc W
  obtain ⟨ok, HOK⟩ : ∃ ok, Hid (decide (-18 ≤ e ∧ e ≤ 18) = ok) := ⟨_, rfl⟩
  rw [HOK.out]
  have hcase : (decide (-18 ≤ e) = true ∧ Hid (decide (e ≤ 18) = ok)) ∨ (decide (-18 ≤ e) = false ∧ Hid (false = ok)) := by
    by_cases h : -18 ≤ e
    · exact .inl ⟨decide_eq_true h, by show _ = _; rw [← HOK.out]; simp [h]⟩
    · exact .inr ⟨decide_eq_false h, by show _ = _; rw [← HOK.out]; simp [h]⟩
  rcases hcase with ⟨g1, HO2⟩ | ⟨g1, HO2⟩
  · go_enter Tryd.func53, Tryd.ntmps53
    go_wp2_with fail
    have r0 := (Row.new w 23 #[.int .i64 c, .int .i64 e]).alloc (.cells #[.bool false, .slice none 0 0, .int .i64 0] 47)
    have r1 := Row.new1 w (.cells #[.int .i64 c, .int .i64 e] 23) 47 #[.bool false, .slice none 0 0, .int .i64 0]
    have hB := ((Below.refl _ w).alloc (Nat.le_refl _) (.cells #[.int .i64 c, .int .i64 e] 23)).alloc (by simp) (.cells #[.bool false, .slice none 0 0, .int .i64 0] 47)
    have hWs : w.heap.size + 2 ≤ ((w.alloc (.cells #[.int .i64 c, .int .i64 e] 23)).alloc (.cells #[.bool false, .slice none 0 0, .int .i64 0] 47)).heap.size := by simp
    generalize (w.alloc (.cells #[.int .i64 c, .int .i64 e] 23)).alloc (.cells #[.bool false, .slice none 0 0, .int .i64 0] 47) = W at *
    have hD0 : Below W.heap.size W W.drew := (Below.refl _ W).drew
    have hS : Row W.drew w.heap.size 23 #[.int .i64 c, .int .i64 e] := r0.below hD0 r0.lt
    refine wp_region_M (fun wx : World => Row wx w.heap.size 23 #[.int .i64 c, .int .i64 e]) (fun j => decide (j < 15)) 16 rfl (by kernel_rfl) ?_
    refine wpM_held 0 (v := ?_) rfl (by kernel_rfl) (by kernel_rfl) rfl (fun _ _ _ h => h) rfl (by intro wx hx; go_simp <;> rfl) hS ?_
    refine wpM_held 1 (v := .int .i64 c) rfl (by kernel_rfl) (by kernel_rfl) rfl (fun _ _ _ h => h) rfl (by intro wx hx; obtain ⟨x0, x1⟩ := hx.duo; go_simp <;> rfl) hS ?_
    refine wpM_held 3 (v := ?_) rfl (by kernel_rfl) (by kernel_rfl) rfl (fun _ _ _ h => h) rfl (by intro wx hx; go_simp <;> rfl) hS ?_
    refine wpM_held 4 (v := .int .i64 e) rfl (by kernel_rfl) (by kernel_rfl) rfl (fun _ _ _ h => h) rfl (by intro wx hx; obtain ⟨x0, x1⟩ := hx.duo; go_simp <;> rfl) hS ?_
    refine wpM_held 6 (v := ?_) rfl (by kernel_rfl) (by kernel_rfl) rfl (fun _ _ _ h => h) rfl (by intro wx hx; go_simp <;> rfl) hS ?_
    refine wpM_held 7 (v := .int .i64 e) rfl (by kernel_rfl) (by kernel_rfl) rfl (fun _ _ _ h => h) rfl (by intro wx hx; obtain ⟨x0, x1⟩ := hx.duo; go_simp <;> rfl) hS ?_
    refine wpM_held 8 (v := .bool true) rfl (by kernel_rfl) (by kernel_rfl) rfl (fun _ _ _ h => h) rfl (by intro wx hx; go_simp <;> rfl) hS ?_
    refine wpM_one 2 rfl (by kernel_rfl) rfl ?_
    go_wp2_with fail
    refine Calls.mono (HO _).out ?_
    rintro _ w1 ⟨v1, rfl, hV1, hN1, b1⟩
    obtain ⟨s1, rfl, hD1⟩ := hV1
    have hN1 := hN1.get
    obtain ⟨_, a6, c6, rfl, _, _⟩ := id hD1
    have hW1 : Below W.heap.size W w1 := hD0.trans (b1.mono hD0.size)
    have hS1 : Row w1 w.heap.size 23 #[.int .i64 c, .int .i64 e] := r0.below hW1 r0.lt
    clear b1 HO
    unfold bv
    obtain ⟨ng, hng⟩ : ∃ ng, decide (c < 0) = ng := ⟨_, rfl⟩
    have HNG : Hid (decide (c < 0) = ng) := hng
    rw [hng]
    clear hng
    obtain ⟨ln, hln⟩ : ∃ ln, (digs c.natAbs).length = ln := ⟨_, rfl⟩
    rw [hln] at hD1 hN1
    rw [hln]
    clear hln
    go_wp2_with fail
    refine ⟨fun _ => hS1, ?_⟩
    refine wpM_held 5 (v := .agg #[.bool ng, .slice a6 ln c6, .int .i64 e]) rfl (by kernel_rfl) (by kernel_rfl) rfl (fun _ _ _ h => h) rfl (by intro wx hx; go_simp <;> rfl) hS1 ?_
    refine wpM_held 9 (v := .bool true) rfl (by kernel_rfl) (by kernel_rfl) rfl (fun _ _ _ h => h) rfl (by intro wx hx; go_simp <;> rfl) hS1 ?_
    refine wpM_held 10 (v := ?_) rfl (by kernel_rfl) (by kernel_rfl) rfl (fun _ _ _ h => h) rfl (by intro wx hx; go_simp <;> rfl) hS1 ?_
    refine wpM_held 11 (v := .int .i64 e) rfl (by kernel_rfl) (by kernel_rfl) rfl (fun _ _ _ h => h) rfl (by intro wx hx; obtain ⟨x0, x1⟩ := hx.duo; go_simp <;> rfl) hS1 ?_
    refine wpM_held 12 (v := .bool (decide (e ≤ 18))) rfl (by kernel_rfl) (by kernel_rfl) rfl (fun _ _ _ h => h) rfl (by intro wx hx; go_simp <;> rfl) hS1 ?_
    refine wpM_held 13 (v := .bool (decide (e ≤ 18))) rfl (by kernel_rfl) (by kernel_rfl) rfl (fun _ _ _ h => h) rfl (by intro wx hx; go_simp <;> rfl) hS1 ?_
    have p2 := r1.below hW1 r1.lt
    have y0 := p2.cell (i := 0) (v := .bool false) rfl
    have y1 := p2.cell (i := 1) (v := .slice none 0 0) rfl
    have y2 := p2.cell (i := 2) (v := .int .i64 0) rfl
    have zf := p2.frozen
    have hBx := hB.trans (hW1.mono (by omega))
    have hNB : NewS (w.heap.size + 1 + 1) (.slice a6 ln c6) := hN1.mono (by have : W.heap.size ≤ W.drew.heap.size := Nat.le_refl _; omega)
    have hBe := below_set (below_set (below_set hBx (B := w.heap.size + 1) 0 (.bool ng) (by omega)) (B := w.heap.size + 1) 1 (.slice a6 ln c6) (by omega)) (B := w.heap.size + 1) 2 (.int .i64 e) (by omega)
    have hZe : Row (((w1.setCell ⟨w.heap.size + 1, 0, none⟩ (.bool ng)).setCell ⟨w.heap.size + 1, 1, none⟩ (.slice a6 ln c6)).setCell ⟨w.heap.size + 1, 2, none⟩ (.int .i64 e)) (w.heap.size + 1) 47 #[.bool ng, .slice a6 ln c6, .int .i64 e] := ((p2.set 0 (.bool ng)).set 1 (.slice a6 ln c6)).set 2 (.int .i64 e)
    have hSe : Row (((w1.setCell ⟨w.heap.size + 1, 0, none⟩ (.bool ng)).setCell ⟨w.heap.size + 1, 1, none⟩ (.slice a6 ln c6)).setCell ⟨w.heap.size + 1, 2, none⟩ (.int .i64 e)) w.heap.size 23 #[.int .i64 c, .int .i64 e] := ((hS1.off 0 (.bool ng) (by omega)).off 1 (.slice a6 ln c6) (by omega)).off 2 (.int .i64 e) (by omega)
    have hDe := ((hD1.off hNB 0 (.bool ng)).off hNB 1 (.slice a6 ln c6)).off hNB 2 (.int .i64 e)
    refine wpM_one 14 rfl (by kernel_rfl) rfl ?_
    go_wp2_with fail
    refine ⟨fun _ => hSe, ?_⟩
    refine wpM_one 15 rfl (by kernel_rfl) rfl ?_
    go_wp2_with fail
    refine ⟨fun h => by simp at h, ?_⟩
    refine wpM_done (by kernel_rfl) ?_
    go_wp2
    exact bodyPost_ret (ret_two rfl (g := w.heap.size + 1) rfl rfl (load45 hZe rfl)) rfl ⟨_, by rw [HNG.out, ← HO2.out]; rfl, hDe, hNB.mono (by omega), hBe⟩
  · go_enter Tryd.func53, Tryd.ntmps53
    go_wp2_with fail
    have r0 := (Row.new w 23 #[.int .i64 c, .int .i64 e]).alloc (.cells #[.bool false, .slice none 0 0, .int .i64 0] 47)
    have r1 := Row.new1 w (.cells #[.int .i64 c, .int .i64 e] 23) 47 #[.bool false, .slice none 0 0, .int .i64 0]
    have hB := ((Below.refl _ w).alloc (Nat.le_refl _) (.cells #[.int .i64 c, .int .i64 e] 23)).alloc (by simp) (.cells #[.bool false, .slice none 0 0, .int .i64 0] 47)
    have hWs : w.heap.size + 2 ≤ ((w.alloc (.cells #[.int .i64 c, .int .i64 e] 23)).alloc (.cells #[.bool false, .slice none 0 0, .int .i64 0] 47)).heap.size := by simp
    generalize (w.alloc (.cells #[.int .i64 c, .int .i64 e] 23)).alloc (.cells #[.bool false, .slice none 0 0, .int .i64 0] 47) = W at *
    have hD0 : Below W.heap.size W W.drew := (Below.refl _ W).drew
    have hS : Row W.drew w.heap.size 23 #[.int .i64 c, .int .i64 e] := r0.below hD0 r0.lt
    refine wp_region_M (fun wx : World => Row wx w.heap.size 23 #[.int .i64 c, .int .i64 e]) (fun j => decide (j < 15)) 16 rfl (by kernel_rfl) ?_
    refine wpM_held 0 (v := ?_) rfl (by kernel_rfl) (by kernel_rfl) rfl (fun _ _ _ h => h) rfl (by intro wx hx; go_simp <;> rfl) hS ?_
    refine wpM_held 1 (v := .int .i64 c) rfl (by kernel_rfl) (by kernel_rfl) rfl (fun _ _ _ h => h) rfl (by intro wx hx; obtain ⟨x0, x1⟩ := hx.duo; go_simp <;> rfl) hS ?_
    refine wpM_held 3 (v := ?_) rfl (by kernel_rfl) (by kernel_rfl) rfl (fun _ _ _ h => h) rfl (by intro wx hx; go_simp <;> rfl) hS ?_
    refine wpM_held 4 (v := .int .i64 e) rfl (by kernel_rfl) (by kernel_rfl) rfl (fun _ _ _ h => h) rfl (by intro wx hx; obtain ⟨x0, x1⟩ := hx.duo; go_simp <;> rfl) hS ?_
    refine wpM_held 6 (v := ?_) rfl (by kernel_rfl) (by kernel_rfl) rfl (fun _ _ _ h => h) rfl (by intro wx hx; go_simp <;> rfl) hS ?_
    refine wpM_held 7 (v := .int .i64 e) rfl (by kernel_rfl) (by kernel_rfl) rfl (fun _ _ _ h => h) rfl (by intro wx hx; obtain ⟨x0, x1⟩ := hx.duo; go_simp <;> rfl) hS ?_
    refine wpM_held 8 (v := .bool false) rfl (by kernel_rfl) (by kernel_rfl) rfl (fun _ _ _ h => h) rfl (by intro wx hx; go_simp <;> rfl) hS ?_
    refine wpM_one 2 rfl (by kernel_rfl) rfl ?_
    go_wp2_with fail
    refine Calls.mono (HO _).out ?_
    rintro _ w1 ⟨v1, rfl, hV1, hN1, b1⟩
    obtain ⟨s1, rfl, hD1⟩ := hV1
    have hN1 := hN1.get
    obtain ⟨_, a6, c6, rfl, _, _⟩ := id hD1
    have hW1 : Below W.heap.size W w1 := hD0.trans (b1.mono hD0.size)
    have hS1 : Row w1 w.heap.size 23 #[.int .i64 c, .int .i64 e] := r0.below hW1 r0.lt
    clear b1 HO
    unfold bv
    obtain ⟨ng, hng⟩ : ∃ ng, decide (c < 0) = ng := ⟨_, rfl⟩
    have HNG : Hid (decide (c < 0) = ng) := hng
    rw [hng]
    clear hng
    obtain ⟨ln, hln⟩ : ∃ ln, (digs c.natAbs).length = ln := ⟨_, rfl⟩
    rw [hln] at hD1 hN1
    rw [hln]
    clear hln
    go_wp2_with fail
    refine ⟨fun _ => hS1, ?_⟩
    refine wpM_held 5 (v := .agg #[.bool ng, .slice a6 ln c6, .int .i64 e]) rfl (by kernel_rfl) (by kernel_rfl) rfl (fun _ _ _ h => h) rfl (by intro wx hx; go_simp <;> rfl) hS1 ?_
    refine wpM_held 9 (v := .bool false) rfl (by kernel_rfl) (by kernel_rfl) rfl (fun _ _ _ h => h) rfl (by intro wx hx; go_simp <;> rfl) hS1 ?_
    refine wpM_skiph 10 rfl (by kernel_rfl) (by kernel_rfl) rfl (fun _ _ _ h => h) rfl hS1 ?_
    refine wpM_skiph 11 rfl (by kernel_rfl) (by kernel_rfl) rfl (fun _ _ _ h => h) rfl hS1 ?_
    refine wpM_skiph 12 rfl (by kernel_rfl) (by kernel_rfl) rfl (fun _ _ _ h => h) rfl hS1 ?_
    refine wpM_held 13 (v := .bool false) rfl (by kernel_rfl) (by kernel_rfl) rfl (fun _ _ _ h => h) rfl (by intro wx hx; go_simp <;> rfl) hS1 ?_
    have p2 := r1.below hW1 r1.lt
    have y0 := p2.cell (i := 0) (v := .bool false) rfl
    have y1 := p2.cell (i := 1) (v := .slice none 0 0) rfl
    have y2 := p2.cell (i := 2) (v := .int .i64 0) rfl
    have zf := p2.frozen
    have hBx := hB.trans (hW1.mono (by omega))
    have hNB : NewS (w.heap.size + 1 + 1) (.slice a6 ln c6) := hN1.mono (by have : W.heap.size ≤ W.drew.heap.size := Nat.le_refl _; omega)
    have hBe := below_set (below_set (below_set hBx (B := w.heap.size + 1) 0 (.bool ng) (by omega)) (B := w.heap.size + 1) 1 (.slice a6 ln c6) (by omega)) (B := w.heap.size + 1) 2 (.int .i64 e) (by omega)
    have hZe : Row (((w1.setCell ⟨w.heap.size + 1, 0, none⟩ (.bool ng)).setCell ⟨w.heap.size + 1, 1, none⟩ (.slice a6 ln c6)).setCell ⟨w.heap.size + 1, 2, none⟩ (.int .i64 e)) (w.heap.size + 1) 47 #[.bool ng, .slice a6 ln c6, .int .i64 e] := ((p2.set 0 (.bool ng)).set 1 (.slice a6 ln c6)).set 2 (.int .i64 e)
    have hSe : Row (((w1.setCell ⟨w.heap.size + 1, 0, none⟩ (.bool ng)).setCell ⟨w.heap.size + 1, 1, none⟩ (.slice a6 ln c6)).setCell ⟨w.heap.size + 1, 2, none⟩ (.int .i64 e)) w.heap.size 23 #[.int .i64 c, .int .i64 e] := ((hS1.off 0 (.bool ng) (by omega)).off 1 (.slice a6 ln c6) (by omega)).off 2 (.int .i64 e) (by omega)
    have hDe := ((hD1.off hNB 0 (.bool ng)).off hNB 1 (.slice a6 ln c6)).off hNB 2 (.int .i64 e)
    refine wpM_one 14 rfl (by kernel_rfl) rfl ?_
    go_wp2_with fail
    refine ⟨fun _ => hSe, ?_⟩
    refine wpM_one 15 rfl (by kernel_rfl) rfl ?_
    go_wp2_with fail
    refine ⟨fun h => by simp at h, ?_⟩
    refine wpM_done (by kernel_rfl) ?_
    go_wp2
    exact bodyPost_ret (ret_two rfl (g := w.heap.size + 1) rfl rfl (load45 hZe rfl)) rfl ⟨_, by rw [HNG.out, ← HO2.out]; rfl, hDe, hNB.mono (by omega), hBe⟩
end Go.Proofs.YtfbhonjndepjbaaDoor
/- The document's Make. -/
namespace Go.Proofs.YtfbhonjndepjbaaDoor
open Go.RowKit

set_option maxRecDepth 100000 in
set_option maxHeartbeats 2000000 in
theorem rmake_any (c e : Int) (hc : I64 c) (w : World) : Calls Tryd.prog 25 #[.int .i64 c, .int .i64 e] w fun r w' => r = .returned (decV (tell c e)) ∧ Below w.heap.size w w' := by
  have r0 := Row.new w 23 #[.int .i64 0, .int .i64 0]
  have b0 := (Below.refl _ w).alloc (Nat.le_refl _) (.cells #[.int .i64 0, .int .i64 0] 23)
  have zf := r0.frozen
  have zl := r0.lt
  obtain ⟨z0, z1⟩ := r0.duo
  have hZ0 := Row.set2 r0 (.int .i64 0) (.int .i64 0)
  have hB0 := below_set (below_set b0 (B := w.heap.size) 0 (.int .i64 0) (Nat.le_refl _)) (B := w.heap.size) 1 (.int .i64 0) (Nat.le_refl _)
  by_cases h0 : c = 0
  · subst h0
    rw [show tell 0 e = some (0, 0) by simp [tell, tellW_zero]]
    clear hc
    go_enter Tryd.func25, Tryd.ntmps25
    go_wp2
    first
    | exact bodyPost_ret (ret_two rfl (g := w.heap.size) rfl rfl (load23 r0 rfl)) rfl ⟨rfl, b0⟩
    | exact bodyPost_ret (ret_two rfl (g := w.heap.size) rfl rfl (load23 hZ0 rfl)) rfl ⟨rfl, hB0⟩
  · have g0 : (c == 0) = false := by simpa using h0
    by_cases hlo : e < -100
    · rw [tell_near c e hc h0 hlo]
      clear hc h0
      go_enter Tryd.func25, Tryd.ntmps25
      go_wp2
      first
      | exact bodyPost_ret (ret_two rfl (g := w.heap.size) rfl rfl (load23 r0 rfl)) rfl ⟨rfl, b0⟩
      | exact bodyPost_ret (ret_two rfl (g := w.heap.size) rfl rfl (load23 hZ0 rfl)) rfl ⟨rfl, hB0⟩
    · by_cases hhi : 100 < e
      · rw [tell_far c e h0 (by omega)]
        clear hc h0
        go_enter Tryd.func25, Tryd.ntmps25
        go_wp2
        first
        | exact bodyPost_ret (ret_two rfl (g := w.heap.size) rfl rfl (load23 r0 rfl)) rfl ⟨rfl, b0⟩
        | exact bodyPost_ret (ret_two rfl (g := w.heap.size) rfl rfl (load23 hZ0 rfl)) rfl ⟨rfl, hB0⟩
      · have HL : Hid ((digs c.natAbs).length ≤ 500) := Nat.le_trans (digs_len _ 19 (by unfold I64 at hc; omega)) (by decide)
        have HOF : ∀ V, Hid (Calls Tryd.prog 64 #[.int .i64 c] V _) := fun V => of_any c hc V
        obtain ⟨p, q, er, hdv⟩ := decV_form (tell c e)
        rw [hdv]
        have HDV : Hid (decV (tell c e) = .tuple #[.agg #[.int .i64 p, .int .i64 q], .int .i64 er]) := hdv
        clear hdv hc h0
        go_enter Tryd.func25, Tryd.ntmps25
        go_wp2_with fail
        refine Calls.mono (HOF _).out ?_
        rintro _ w2 ⟨v2, rfl, hV2, b2⟩
        obtain ⟨s2, rfl, hD2⟩ := hV2
        obtain ⟨_, a3, c3, rfl, _, _⟩ := id hD2
        have HTE : Hid (Calls Tryd.prog 45 #[.agg #[.bool (decide (c < 0)), .slice a3 (digs c.natAbs).length c3, .int .i64 e]] w2 _) := told_any' c e _ w2 ⟨_, rfl, hD2⟩ (by omega) (by omega) HL.out
        rw [HDV.out] at HTE
        have r2 := r0.below b2 r0.lt
        have hB2 := b0.trans (b2.mono b0.size)
        clear hD2 HOF hZ0 hB0 r0 b0 b2 z0 z1 zf zl
        obtain ⟨sg, HSG⟩ : ∃ sg, Hid (decide (c < 0) = sg) := ⟨_, rfl⟩
        obtain ⟨n3, HN3⟩ : ∃ n3, Hid ((digs c.natAbs).length = n3) := ⟨_, rfl⟩
        rw [HSG.out, HN3.out] at HTE
        unfold bv
        rw [HSG.out, HN3.out]
        go_wp2_with fail
        refine Calls.mono HTE.out ?_
        rintro _ w4 ⟨rfl, b4⟩
        have hZ4 := r2.below b4 r2.lt
        have hB4 := hB2.trans (b4.mono hB2.size)
        clear HTE b4
        obtain ⟨z0, z1⟩ := hZ4.duo
        have zf := hZ4.frozen
        have hZe := Row.set2 hZ4 (.int .i64 p) (.int .i64 q)
        have hBe := below_set (below_set hB4 (B := w.heap.size) 0 (.int .i64 p) (Nat.le_refl _)) (B := w.heap.size) 1 (.int .i64 q) (Nat.le_refl _)
        go_wp2
        exact bodyPost_ret (ret_two rfl (g := w.heap.size) rfl rfl (load23 hZe rfl)) rfl ⟨rfl, hBe⟩
end Go.Proofs.YtfbhonjndepjbaaDoor
