import Derived.Test.YtfbhonjndepjbaaDoorPqzM
import Derived.Test.YtfbhonjndepjbaaDoorRnaM
import Derived.Test.YtfbhonjndepjbaaDoorDpaM
import Derived.Test.YtfbhonjndepjbaaDoorWalM
import Derived.Deep.CutBlock
import Derived.Deep.DeepCutAuto
import Derived.Test.YtfbhonjndepjbaaDoorRadM
/- The document's Make. -/
namespace Go.Proofs.YtfbhonjndepjbaaDoor
open Go.RowKit

set_option maxRecDepth 100000 in
set_option maxHeartbeats 2000000 in
theorem rmake_any (c e : Int) (hc : I64 c) (w : World) : Calls Tryd.prog 25 #[.int .i64 c, .int .i64 e] w fun r w' => r = .returned (decV (tell c e)) ∧ Below w.heap.size w w' := by
  have r0 := Row.new w 23 #[.int .i64 0, .int .i64 0]
  have b0 := (Below.refl _ w).alloc (Nat.le_refl _) (.cells #[.int .i64 0, .int .i64 0] 23)
  have zf := r0.frozen
  have zl := r0.lt
  obtain ⟨z0, z1⟩ := r0.duo
  have hZ0 := Row.set2 r0 (.int .i64 0) (.int .i64 0)
  have hB0 := below_set (below_set b0 (B := w.heap.size) 0 (.int .i64 0) (Nat.le_refl _)) (B := w.heap.size) 1 (.int .i64 0) (Nat.le_refl _)
  by_cases h0 : c = 0
  · subst h0
    rw [show tell 0 e = some (0, 0) by simp [tell, tellW_zero]]
    clear hc
    go_enter Tryd.func25, Tryd.ntmps25
    go_wp2
    first
    | exact bodyPost_ret (ret_two rfl (g := w.heap.size) rfl rfl (load23 r0 rfl)) rfl ⟨rfl, b0⟩
    | exact bodyPost_ret (ret_two rfl (g := w.heap.size) rfl rfl (load23 hZ0 rfl)) rfl ⟨rfl, hB0⟩
  · have g0 : (c == 0) = false := by simpa using h0
    by_cases hlo : e < -100
    · rw [tell_near c e hc h0 hlo]
      clear hc h0
      go_enter Tryd.func25, Tryd.ntmps25
      go_wp2
      first
      | exact bodyPost_ret (ret_two rfl (g := w.heap.size) rfl rfl (load23 r0 rfl)) rfl ⟨rfl, b0⟩
      | exact bodyPost_ret (ret_two rfl (g := w.heap.size) rfl rfl (load23 hZ0 rfl)) rfl ⟨rfl, hB0⟩
    · by_cases hhi : 100 < e
      · rw [tell_far c e h0 (by omega)]
        clear hc h0
        go_enter Tryd.func25, Tryd.ntmps25
        go_wp2
        first
        | exact bodyPost_ret (ret_two rfl (g := w.heap.size) rfl rfl (load23 r0 rfl)) rfl ⟨rfl, b0⟩
        | exact bodyPost_ret (ret_two rfl (g := w.heap.size) rfl rfl (load23 hZ0 rfl)) rfl ⟨rfl, hB0⟩
      · have HL : Hid ((digs c.natAbs).length ≤ 500) := Nat.le_trans (digs_len _ 19 (by unfold I64 at hc; omega)) (by decide)
        have HOF : ∀ V, Hid (Calls Tryd.prog 64 #[.int .i64 c] V _) := fun V => of_any c hc V
        obtain ⟨p, q, er, hdv⟩ := decV_form (tell c e)
        rw [hdv]
        have HDV : Hid (decV (tell c e) = .tuple #[.agg #[.int .i64 p, .int .i64 q], .int .i64 er]) := hdv
        clear hdv hc h0
        go_enter Tryd.func25, Tryd.ntmps25
        go_wp2_with fail
        refine Calls.mono (HOF _).out ?_
        rintro _ w2 ⟨v2, rfl, hV2, b2⟩
        obtain ⟨s2, rfl, hD2⟩ := hV2
        obtain ⟨_, a3, c3, rfl, _, _⟩ := id hD2
        have HTE : Hid (Calls Tryd.prog 45 #[.agg #[.bool (decide (c < 0)), .slice a3 (digs c.natAbs).length c3, .int .i64 e]] w2 _) := told_any' c e _ w2 ⟨_, rfl, hD2⟩ (by omega) (by omega) HL.out
        rw [HDV.out] at HTE
        have r2 := r0.below b2 r0.lt
        have hB2 := b0.trans (b2.mono b0.size)
        clear hD2 HOF hZ0 hB0 r0 b0 b2 z0 z1 zf zl
        obtain ⟨sg, HSG⟩ : ∃ sg, Hid (decide (c < 0) = sg) := ⟨_, rfl⟩
        obtain ⟨n3, HN3⟩ : ∃ n3, Hid ((digs c.natAbs).length = n3) := ⟨_, rfl⟩
        rw [HSG.out, HN3.out] at HTE
        unfold bv
        rw [HSG.out, HN3.out]
        go_wp2_with fail
        refine Calls.mono HTE.out ?_
        rintro _ w4 ⟨rfl, b4⟩
        have hZ4 := r2.below b4 r2.lt
        have hB4 := hB2.trans (b4.mono hB2.size)
        clear HTE b4
        obtain ⟨z0, z1⟩ := hZ4.duo
        have zf := hZ4.frozen
        have hZe := Row.set2 hZ4 (.int .i64 p) (.int .i64 q)
        have hBe := below_set (below_set hB4 (B := w.heap.size) 0 (.int .i64 p) (Nat.le_refl _)) (B := w.heap.size) 1 (.int .i64 q) (Nat.le_refl _)
        go_wp2
        exact bodyPost_ret (ret_two rfl (g := w.heap.size) rfl rfl (load23 hZe rfl)) rfl ⟨rfl, hBe⟩
end Go.Proofs.YtfbhonjndepjbaaDoor
/- The document's Right. -/
namespace Go.Proofs.YtfbhonjndepjbaaDoor
open Go.RowKit

theorem right_tell (c e : Int) (hc : I64 c) (he : within e) : ∃ p q, tell c e = some (p, q) ∧ rightB c e = (decide (p = c) && decide (q = e)) := by
  refine ⟨_, _, tell_decW c e hc he, ?_⟩
  have hrt := tell_rt (tell_decW c e hc he)
  by_cases hr : Rt c e
  · rw [right_rt he hr]
    have hfix : decW c e = numW c e := by
      unfold decW shortW
      unfold Rt at hr
      by_cases h0 : c = 0
      · have he0 : e = 0 := by omega
        subst h0 he0
        rfl
      · rw [if_neg (by unfold numW; simp; omega)]
        have : strip (numW c e).n (numW c e).e = ((numW c e).n, (numW c e).e) := strip_fix _ _ (by unfold numW; simp only; omega)
        rw [this]
    have h1 : sc (decW c e) = c := by
      rw [hfix]
      unfold sc numW
      simp only
      by_cases h : c < 0
      · rw [decide_eq_true h, if_pos rfl]; omega
      · rw [decide_eq_false h, if_neg (by simp)]; omega
    have h2 : (decW c e).e = e := by rw [hfix]; rfl
    rw [h1, h2]
    simp
  · have h1 : rightB c e = false := by
      cases hb : rightB c e with
      | false => rfl
      | true =>
        exfalso
        apply hr
        unfold rightB at hb
        unfold Rt
        by_cases h0 : c = 0
        · rw [if_pos h0] at hb
          exact .inr (.inr ⟨h0, of_decide_eq_true hb⟩)
        · rw [if_neg h0] at hb
          simp at hb
          rcases hb.2 with h | h
          · exact .inl h
          · exact .inr (.inl ⟨h, h0⟩)
    rw [h1]
    cases hd : (decide (sc (decW c e) = c) && decide ((decW c e).e = e)) with
    | false => rfl
    | true =>
      exfalso
      simp at hd
      rw [hd.1, hd.2] at hrt
      exact hr hrt
set_option maxRecDepth 100000 in
set_option maxHeartbeats 2000000 in
theorem rright_bad (c e : Int) (he : ¬ within e) (w : World) : Calls Tryd.prog 27 #[.agg #[.int .i64 c, .int .i64 e]] w fun r w' => r = .returned (.bool false) ∧ Below w.heap.size w w' := by
  have b0 : ∀ o, Below w.heap.size w (w.alloc o) := fun o => (Below.refl _ w).alloc (Nat.le_refl _) _
  by_cases h1 : e < -18
  · clear he
    go_enter Tryd.func27, Tryd.ntmps27
    go_wp2
    go_ret
    exact ⟨rfl, b0 _⟩
  · have h2 : 18 < e := by unfold within at he; omega
    clear he
    go_enter Tryd.func27, Tryd.ntmps27
    go_wp2
    go_ret
    exact ⟨rfl, b0 _⟩
set_option maxRecDepth 100000 in
set_option maxHeartbeats 2000000 in
theorem rright_ok (c e : Int) (hc : I64 c) (he : within e) (w : World) : Calls Tryd.prog 27 #[.agg #[.int .i64 c, .int .i64 e]] w fun r w' => r = .returned (.bool (rightB c e)) ∧ Below w.heap.size w w' := by
  obtain ⟨p, q, hpq, hrb⟩ := right_tell c e hc he
  obtain ⟨h1, h2⟩ : -18 ≤ e ∧ e ≤ 18 := he
  rw [hrb]
  have HL : Hid ((digs c.natAbs).length ≤ 500) := Nat.le_trans (digs_len _ 19 (by unfold I64 at hc; omega)) (by decide)
  have HOF : ∀ V, Hid (Calls Tryd.prog 64 #[.int .i64 c] V _) := fun V => of_any c hc V
  have HTE : ∀ V s, DgAt V s (digs c.natAbs) → Hid (Calls Tryd.prog 45 #[.agg #[.bool (decide (c < 0)), s, .int .i64 e]] V fun r w' => r = .returned (.tuple #[.agg #[.int .i64 p, .int .i64 q], .int .i64 0]) ∧ Below V.heap.size V w') := fun V s h => by
    have := told_any' c e _ V ⟨s, rfl, h⟩ (by omega) (by omega) HL.out
    rw [hpq] at this
    exact this
  have r1 := Row.new w 23 #[.int .i64 c, .int .i64 e]
  have b0 := (Below.refl _ w).alloc (Nat.le_refl _) (.cells #[.int .i64 c, .int .i64 e] 23)
  clear hpq hrb hc
  go_enter Tryd.func27, Tryd.ntmps27
  go_upto_region 3 with fail
  generalize w.alloc (.cells #[.int .i64 c, .int .i64 e] 23) = W at *
  have hS : Below W.heap.size W W.drew := (Below.refl _ W).drew
  have ca : ∀ wx, Below W.heap.size W wx → wx.cell? ⟨w.heap.size, 0, none⟩ = some (.int .i64 c) ∧ wx.cell? ⟨w.heap.size, 1, none⟩ = some (.int .i64 e) := fun wx hx => (r1.below hx r1.lt).duo
  refine wp_region_M (fun wx : World => Below W.heap.size W wx) (fun j => decide (j < 13)) 13 rfl (by kernel_rfl) ?_
  refine wpM_held 0 (v := ?_) rfl (by kernel_rfl) (by kernel_rfl) rfl (fun _ _ _ h => h) rfl (by intro wx hx; go_simp <;> rfl) hS ?_
  refine wpM_held 1 (v := .int .i64 c) rfl (by kernel_rfl) (by kernel_rfl) rfl (fun _ _ _ h => h) rfl (by intro wx hx; obtain ⟨x0, x1⟩ := ca wx hx; go_simp <;> rfl) hS ?_
  refine wpM_held 3 (v := ?_) rfl (by kernel_rfl) (by kernel_rfl) rfl (fun _ _ _ h => h) rfl (by intro wx hx; go_simp <;> rfl) hS ?_
  refine wpM_held 4 (v := .int .i64 e) rfl (by kernel_rfl) (by kernel_rfl) rfl (fun _ _ _ h => h) rfl (by intro wx hx; obtain ⟨x0, x1⟩ := ca wx hx; go_simp <;> rfl) hS ?_
  refine wpM_two 2 10 rfl rfl (by kernel_rfl) rfl rfl ?_ ?_
  · go_wp2_with fail
    refine Calls.mono (HOF _).out ?_
    rintro _ w2 ⟨v2, rfl, hV2, b2⟩
    obtain ⟨s2, rfl, hD2⟩ := hV2
    obtain ⟨_, a3, c3, rfl, _, _⟩ := id hD2
    have hS2 : Below W.heap.size W w2 := hS.trans (b2.mono hS.size)
    unfold bv
    obtain ⟨sg, HSG⟩ : ∃ sg, Hid (decide (c < 0) = sg) := ⟨_, rfl⟩
    obtain ⟨n3, HN3⟩ : ∃ n3, Hid ((digs c.natAbs).length = n3) := ⟨_, rfl⟩
    have HTE := HTE
    rw [HSG.out] at HTE
    rw [HN3.out] at hD2
    rw [HSG.out, HN3.out]
    clear b2 HOF
    go_wp2_with fail
    refine ⟨fun _ => hS2, ?_⟩
    refine wpM_held 5 (v := .agg #[.bool sg, .slice a3 n3 c3, .int .i64 e]) rfl (by kernel_rfl) (by kernel_rfl) rfl (fun _ _ _ h => h) rfl (by intro wx hx; go_simp <;> rfl) hS2 ?_
    refine wpM_two 6 10 rfl rfl (by kernel_rfl) rfl rfl ?_ ?_
    · go_wp2_with fail
      refine Calls.mono (HTE _ _ hD2).out ?_
      rintro _ w4 ⟨rfl, b4⟩
      have hS24 : Below W.heap.size W w4 := hS2.trans (b4.mono hS2.size)
      clear b4 HTE
      go_wp2_with fail
      refine ⟨fun _ => hS24, ?_⟩
      refine wpM_held 7 (v := .tuple #[.agg #[.int .i64 p, .int .i64 q], .int .i64 0]) rfl (by kernel_rfl) (by kernel_rfl) rfl (fun _ _ _ h => h) rfl (by intro wx hx; go_simp <;> rfl) hS24 ?_
      refine wpM_held 8 (v := .agg #[.int .i64 p, .int .i64 q]) rfl (by kernel_rfl) (by kernel_rfl) rfl (fun _ _ _ h => h) rfl (by intro wx hx; go_simp <;> rfl) hS24 ?_
      refine wpM_held 9 (v := .int .i64 0) rfl (by kernel_rfl) (by kernel_rfl) rfl (fun _ _ _ h => h) rfl (by intro wx hx; go_simp <;> rfl) hS24 ?_
      refine wpM_one 10 rfl (by kernel_rfl) rfl ?_
      go_wp2_with fail
      have kr := Row.new w4 23 #[.int .i64 0, .int .i64 0]
      have hS24a : Below W.heap.size W (w4.alloc (.cells #[.int .i64 0, .int .i64 0] 23)) := hS24.alloc hS24.size _
      have kl : W.heap.size ≤ w4.heap.size := hS24.size
      have kb : Below w4.heap.size w4 (w4.alloc (.cells #[.int .i64 0, .int .i64 0] 23)) := (Below.refl _ _).alloc (Nat.le_refl _) _
      refine ⟨fun _ => hS24a, ?_⟩
      generalize w4.alloc (.cells #[.int .i64 0, .int .i64 0] 23) = kw at *
      generalize hK : w4.heap.size = K at *
      have wl := kr.lt
      obtain ⟨x0, x1⟩ := kr.duo
      have zf := kr.frozen
      have hZ := Row.set2 kr (.int .i64 p) (.int .i64 q)
      have hR1 := r1.below hS24a r1.lt
      have hKne : w.heap.size ≠ K := by have := r1.lt; omega
      have hZ1 := (hR1.kept ((Kept.refl (fun b => b ≠ K) _).setCell (p := ⟨K, 0, none⟩) (by simp) (.int .i64 p)) hKne).kept ((Kept.refl (fun b => b ≠ K) _).setCell (p := ⟨K, 1, none⟩) (by simp) (.int .i64 q)) hKne
      have hBe := b0.trans (hS24a.mono b0.size)
      have hBf := below_set (below_set hBe (B := K) 0 (.int .i64 p) (by have := b0.size; omega)) (B := K) 1 (.int .i64 q) (by have := b0.size; omega)
      have hSf := below_set (below_set hS24a (B := K) 0 (.int .i64 p) (by omega)) (B := K) 1 (.int .i64 q) (by omega)
      refine wpM_one 11 rfl (by kernel_rfl) rfl ?_
      go_wp2_with fail
      refine ⟨fun _ => hSf, ?_⟩
      refine wpM_one 12 rfl (by kernel_rfl) rfl ?_
      go_wp2_with fail
      refine ⟨fun _ => hSf, ?_⟩
      refine wpM_done (by kernel_rfl) ?_
      obtain ⟨z0, z1⟩ := hZ.duo
      obtain ⟨z2, z3⟩ := hZ1.duo
      clear x0 x1 zf hZ hZ1 hR1 hSf wl
      by_cases e1 : p = c
      · subst e1
        by_cases e2 : q = e
        · subst e2
          go_wp2
          go_ret
          exact ⟨by first | rfl | simp, hBf⟩
        · go_wp2
          go_ret
          exact ⟨by first | rfl | (rw [decide_eq_false e2, Bool.and_false]; rfl), hBf⟩
      · by_cases e2 : q = e
        · subst e2
          go_wp2
          go_ret
          exact ⟨by first | rfl | (rw [decide_eq_false e1]; rfl), hBf⟩
        · go_wp2
          go_ret
          exact ⟨by first | rfl | (rw [decide_eq_false e1]; rfl), hBf⟩
    · go_wp2_with fail
      have kr := Row.new w2 23 #[.int .i64 0, .int .i64 0]
      have hS2a : Below W.heap.size W (w2.alloc (.cells #[.int .i64 0, .int .i64 0] 23)) := hS2.alloc hS2.size _
      have kl : W.heap.size ≤ w2.heap.size := hS2.size
      have kb : Below w2.heap.size w2 (w2.alloc (.cells #[.int .i64 0, .int .i64 0] 23)) := (Below.refl _ _).alloc (Nat.le_refl _) _
      refine ⟨fun _ => hS2a, ?_⟩
      have hD3 := hD2.below kb
      generalize w2.alloc (.cells #[.int .i64 0, .int .i64 0] 23) = kw at *
      generalize hK : w2.heap.size = K at *
      refine wpM_one 6 rfl (by kernel_rfl) rfl ?_
      go_wp2_with fail
      refine Calls.mono (HTE _ _ hD3).out ?_
      rintro _ w4 ⟨rfl, b4⟩
      have hS2a4 : Below W.heap.size W w4 := hS2a.trans (b4.mono hS2a.size)
      have kr4 := kr.below b4 kr.lt
      clear b4 HTE
      go_wp2_with fail
      refine ⟨fun _ => hS2a4, ?_⟩
      refine wpM_held 7 (v := .tuple #[.agg #[.int .i64 p, .int .i64 q], .int .i64 0]) rfl (by kernel_rfl) (by kernel_rfl) rfl (fun _ _ _ h => h) rfl (by intro wx hx; go_simp <;> rfl) hS2a4 ?_
      refine wpM_held 8 (v := .agg #[.int .i64 p, .int .i64 q]) rfl (by kernel_rfl) (by kernel_rfl) rfl (fun _ _ _ h => h) rfl (by intro wx hx; go_simp <;> rfl) hS2a4 ?_
      refine wpM_held 9 (v := .int .i64 0) rfl (by kernel_rfl) (by kernel_rfl) rfl (fun _ _ _ h => h) rfl (by intro wx hx; go_simp <;> rfl) hS2a4 ?_
      have wl := kr4.lt
      obtain ⟨x0, x1⟩ := kr4.duo
      have zf := kr4.frozen
      have hZ := Row.set2 kr4 (.int .i64 p) (.int .i64 q)
      have hR1 := r1.below hS2a4 r1.lt
      have hKne : w.heap.size ≠ K := by have := r1.lt; omega
      have hZ1 := (hR1.kept ((Kept.refl (fun b => b ≠ K) _).setCell (p := ⟨K, 0, none⟩) (by simp) (.int .i64 p)) hKne).kept ((Kept.refl (fun b => b ≠ K) _).setCell (p := ⟨K, 1, none⟩) (by simp) (.int .i64 q)) hKne
      have hBe := b0.trans (hS2a4.mono b0.size)
      have hBf := below_set (below_set hBe (B := K) 0 (.int .i64 p) (by have := b0.size; omega)) (B := K) 1 (.int .i64 q) (by have := b0.size; omega)
      have hSf := below_set (below_set hS2a4 (B := K) 0 (.int .i64 p) (by omega)) (B := K) 1 (.int .i64 q) (by omega)
      refine wpM_one 11 rfl (by kernel_rfl) rfl ?_
      go_wp2_with fail
      refine ⟨fun _ => hSf, ?_⟩
      refine wpM_one 12 rfl (by kernel_rfl) rfl ?_
      go_wp2_with fail
      refine ⟨fun _ => hSf, ?_⟩
      refine wpM_done (by kernel_rfl) ?_
      obtain ⟨z0, z1⟩ := hZ.duo
      obtain ⟨z2, z3⟩ := hZ1.duo
      clear x0 x1 zf hZ hZ1 hR1 hSf wl
      by_cases e1 : p = c
      · subst e1
        by_cases e2 : q = e
        · subst e2
          go_wp2
          go_ret
          exact ⟨by first | rfl | simp, hBf⟩
        · go_wp2
          go_ret
          exact ⟨by first | rfl | (rw [decide_eq_false e2, Bool.and_false]; rfl), hBf⟩
      · by_cases e2 : q = e
        · subst e2
          go_wp2
          go_ret
          exact ⟨by first | rfl | (rw [decide_eq_false e1]; rfl), hBf⟩
        · go_wp2
          go_ret
          exact ⟨by first | rfl | (rw [decide_eq_false e1]; rfl), hBf⟩
  · go_wp2_with fail
    have kr : Row (W.alloc (.cells #[.int .i64 0, .int .i64 0] 23)).drew W.heap.size 23 #[.int .i64 0, .int .i64 0] := Row.new W 23 #[.int .i64 0, .int .i64 0]
    have hSa : Below W.heap.size W (W.alloc (.cells #[.int .i64 0, .int .i64 0] 23)).drew := ((Below.refl _ W).alloc (Nat.le_refl _) _).drew
    have kl : W.heap.size ≤ W.heap.size := Nat.le_refl _
    refine ⟨fun _ => hSa, ?_⟩
    generalize (W.alloc (.cells #[.int .i64 0, .int .i64 0] 23)).drew = kw at *
    refine wpM_one 2 rfl (by kernel_rfl) rfl ?_
    go_wp2_with fail
    refine Calls.mono (HOF _).out ?_
    rintro _ w2 ⟨v2, rfl, hV2, b2⟩
    obtain ⟨s2, rfl, hD2⟩ := hV2
    obtain ⟨_, a3, c3, rfl, _, _⟩ := id hD2
    have hSa2 : Below W.heap.size W w2 := hSa.trans (b2.mono hSa.size)
    have kr2 := kr.below b2 kr.lt
    unfold bv
    obtain ⟨sg, HSG⟩ : ∃ sg, Hid (decide (c < 0) = sg) := ⟨_, rfl⟩
    obtain ⟨n3, HN3⟩ : ∃ n3, Hid ((digs c.natAbs).length = n3) := ⟨_, rfl⟩
    have HTE := HTE
    rw [HSG.out] at HTE
    rw [HN3.out] at hD2
    rw [HSG.out, HN3.out]
    clear b2 HOF
    go_wp2_with fail
    refine ⟨fun _ => hSa2, ?_⟩
    refine wpM_held 5 (v := .agg #[.bool sg, .slice a3 n3 c3, .int .i64 e]) rfl (by kernel_rfl) (by kernel_rfl) rfl (fun _ _ _ h => h) rfl (by intro wx hx; go_simp <;> rfl) hSa2 ?_
    refine wpM_one 6 rfl (by kernel_rfl) rfl ?_
    go_wp2_with fail
    refine Calls.mono (HTE _ _ hD2).out ?_
    rintro _ w4 ⟨rfl, b4⟩
    have hSa24 : Below W.heap.size W w4 := hSa2.trans (b4.mono hSa2.size)
    have kr4 := kr2.below b4 kr2.lt
    clear b4 HTE
    go_wp2_with fail
    refine ⟨fun _ => hSa24, ?_⟩
    refine wpM_held 7 (v := .tuple #[.agg #[.int .i64 p, .int .i64 q], .int .i64 0]) rfl (by kernel_rfl) (by kernel_rfl) rfl (fun _ _ _ h => h) rfl (by intro wx hx; go_simp <;> rfl) hSa24 ?_
    refine wpM_held 8 (v := .agg #[.int .i64 p, .int .i64 q]) rfl (by kernel_rfl) (by kernel_rfl) rfl (fun _ _ _ h => h) rfl (by intro wx hx; go_simp <;> rfl) hSa24 ?_
    refine wpM_held 9 (v := .int .i64 0) rfl (by kernel_rfl) (by kernel_rfl) rfl (fun _ _ _ h => h) rfl (by intro wx hx; go_simp <;> rfl) hSa24 ?_
    have wl := kr4.lt
    obtain ⟨x0, x1⟩ := kr4.duo
    have zf := kr4.frozen
    have hZ := Row.set2 kr4 (.int .i64 p) (.int .i64 q)
    have hR1 := r1.below hSa24 r1.lt
    have hKne : w.heap.size ≠ W.heap.size := by have := r1.lt; omega
    have hZ1 := (hR1.kept ((Kept.refl (fun b => b ≠ W.heap.size) _).setCell (p := ⟨W.heap.size, 0, none⟩) (by simp) (.int .i64 p)) hKne).kept ((Kept.refl (fun b => b ≠ W.heap.size) _).setCell (p := ⟨W.heap.size, 1, none⟩) (by simp) (.int .i64 q)) hKne
    have hBe := b0.trans (hSa24.mono b0.size)
    have hBf := below_set (below_set hBe (B := W.heap.size) 0 (.int .i64 p) (by have := b0.size; omega)) (B := W.heap.size) 1 (.int .i64 q) (by have := b0.size; omega)
    have hSf := below_set (below_set hSa24 (B := W.heap.size) 0 (.int .i64 p) (by omega)) (B := W.heap.size) 1 (.int .i64 q) (by omega)
    refine wpM_one 11 rfl (by kernel_rfl) rfl ?_
    go_wp2_with fail
    refine ⟨fun _ => hSf, ?_⟩
    refine wpM_one 12 rfl (by kernel_rfl) rfl ?_
    go_wp2_with fail
    refine ⟨fun _ => hSf, ?_⟩
    refine wpM_done (by kernel_rfl) ?_
    obtain ⟨z0, z1⟩ := hZ.duo
    obtain ⟨z2, z3⟩ := hZ1.duo
    clear x0 x1 zf hZ hZ1 hR1 hSf wl
    by_cases e1 : p = c
    · subst e1
      by_cases e2 : q = e
      · subst e2
        go_wp2
        go_ret
        exact ⟨by first | rfl | simp, hBf⟩
      · go_wp2
        go_ret
        exact ⟨by first | rfl | (rw [decide_eq_false e2, Bool.and_false]; rfl), hBf⟩
    · by_cases e2 : q = e
      · subst e2
        go_wp2
        go_ret
        exact ⟨by first | rfl | (rw [decide_eq_false e1]; rfl), hBf⟩
      · go_wp2
        go_ret
        exact ⟨by first | rfl | (rw [decide_eq_false e1]; rfl), hBf⟩
theorem rright_any (c e : Int) (hc : I64 c) (w : World) : Calls Tryd.prog 27 #[.agg #[.int .i64 c, .int .i64 e]] w fun r w' => r = .returned (.bool (rightB c e)) ∧ Below w.heap.size w w' := by
  by_cases he : within e
  · exact rright_ok c e hc he w
  · have h1 : rightB c e = false := by
      unfold rightB
      unfold within at he
      by_cases h0 : c = 0
      · rw [if_pos h0]; exact decide_eq_false (by omega)
      · rw [if_neg h0, decide_eq_false (by omega)]; rfl
    rw [h1]
    exact rright_bad c e he w
end Go.Proofs.YtfbhonjndepjbaaDoor
/- The document's Cmp and Sign. -/
namespace Go.Proofs.YtfbhonjndepjbaaDoor
open Go.RowKit

theorem sign_two (c e d f : Int) (i j : Nat) (hm : -18 ≤ e - (i : Int)) (hij : e - (i : Int) = f - (j : Int)) : (V (-18) c e - V (-18) d f).sign = (c * 10 ^ i + -(d * 10 ^ j)).sign := by
  obtain ⟨k, hk⟩ : ∃ k : Nat, e - (i : Int) + 18 = (k : Int) := ⟨(e - (i : Int) + 18).toNat, by omega⟩
  have h1 : V (-18) c e = c * 10 ^ i * 10 ^ k := by
    unfold V
    rw [show (e - -18).toNat = i + k by omega, Int.pow_add, Int.mul_assoc]
  have h2 : V (-18) d f = d * 10 ^ j * 10 ^ k := by
    unfold V
    rw [show (f - -18).toNat = j + k by omega, Int.pow_add, Int.mul_assoc]
  rw [h1, h2, ← Int.sub_mul, Int.sign_mul, Int.sign_eq_one_of_pos (Int.pow_pos (by decide) : (0 : Int) < 10 ^ k), Int.mul_one]
  rfl
set_option maxRecDepth 100000 in
set_option maxHeartbeats 2000000 in
theorem rcmp_bad (c e d f : Int) (hc : I64 c) (hd : I64 d) (w : World) (hb : ¬((-18 ≤ e ∧ e ≤ 18) ∧ (-18 ≤ f ∧ f ≤ 18))) : Calls Tryd.prog 29 #[.agg #[.int .i64 c, .int .i64 e], .agg #[.int .i64 d, .int .i64 f]] w fun r w' => r = .returned (.int .i64 0) ∧ Below w.heap.size w w' := by
  have HC : ∀ W, Hid (Calls Tryd.prog 44 #[.agg #[.int .i64 c, .int .i64 e], .agg #[.int .i64 d, .int .i64 f]] W _) := fun W => two_bad c e d f hc hd W hb
  have hB := ((Below.refl _ w).alloc (Nat.le_refl _) (.cells #[.int .i64 c, .int .i64 e] 23)).alloc (by simp) (.cells #[.int .i64 d, .int .i64 f] 23)
  clear hb hc hd
  go_enter Tryd.func29, Tryd.ntmps29
  go_wp2_with fail
  generalize (w.alloc (.cells #[.int .i64 c, .int .i64 e] 23)).alloc (.cells #[.int .i64 d, .int .i64 f] 23) = W at *
  refine Calls.mono (HC W).out ?_
  rintro _ w1 ⟨rfl, b1⟩
  have hB1 := hB.trans (b1.mono hB.size)
  have hB2 : ∀ o o', Below w.heap.size w ((w1.alloc o).alloc o') := fun o o' => (hB1.alloc hB1.size o).alloc (by have := hB1.size; simp; omega) o'
  clear HC b1 hB hB1
  unfold zeroC
  go_wp2
  go_ret
  exact ⟨rfl, hB2 _ _⟩
set_option maxRecDepth 100000 in
set_option maxHeartbeats 4000000 in
theorem rcmp_ok (c e d f : Int) (hc : I64 c) (hd : I64 d) (w : World) (he1 : -18 ≤ e) (he2 : e ≤ 18) (hf1 : -18 ≤ f) (hf2 : f ≤ 18) : Calls Tryd.prog 29 #[.agg #[.int .i64 c, .int .i64 e], .agg #[.int .i64 d, .int .i64 f]] w fun r w' => r = .returned (.int .i64 (V (-18) c e - V (-18) d f).sign) ∧ Below w.heap.size w w' := by
  have HC : ∀ W, Hid (Calls Tryd.prog 44 #[.agg #[.int .i64 c, .int .i64 e], .agg #[.int .i64 d, .int .i64 f]] W _) := fun W => two_any c e d f hc hd W he1 he2 hf1 hf2
  have hB := ((Below.refl _ w).alloc (Nat.le_refl _) (.cells #[.int .i64 c, .int .i64 e] 23)).alloc (by simp) (.cells #[.int .i64 d, .int .i64 f] 23)
  obtain ⟨sn, HSN⟩ : ∃ sn, Hid ((V (-18) c e - V (-18) d f).sign = sn) := ⟨_, rfl⟩
  rw [HSN.out]
  go_enter Tryd.func29, Tryd.ntmps29
  go_wp2_with fail
  generalize (w.alloc (.cells #[.int .i64 c, .int .i64 e] 23)).alloc (.cells #[.int .i64 d, .int .i64 f] 23) = W at *
  refine Calls.mono (HC W).out ?_
  rintro _ w1 ⟨i, j, sx, sy, rfl, hij, hlo, hi, hj, hDx, hDy, b1⟩
  clear HC
  obtain ⟨_, a1, c1, rfl, _, _⟩ := id hDx
  obtain ⟨_, a2, c2, rfl, _, _⟩ := id hDy
  unfold numC
  have HSI : Hid ((c * 10 ^ i + -(d * 10 ^ j)).sign = sn) := by show _ = _; rw [← HSN.out]; exact (sign_two c e d f i j hlo hij).symm
  obtain ⟨nx, HNX⟩ : ∃ nx, Hid (decide (c * 10 ^ i < 0) = nx) := ⟨_, rfl⟩
  obtain ⟨ny, HNY⟩ : ∃ ny, Hid (decide (d * 10 ^ j < 0) = ny) := ⟨_, rfl⟩
  rw [HNX.out, HNY.out]
  have lx := shifted_len c hc i
  have ly := shifted_len d hd j
  obtain ⟨n1, HN1⟩ : ∃ n1 : Nat, Hid ((digs (c * 10 ^ i).natAbs).length = n1) := ⟨_, rfl⟩
  obtain ⟨n2, HN2⟩ : ∃ n2 : Nat, Hid ((digs (d * 10 ^ j).natAbs).length = n2) := ⟨_, rfl⟩
  rw [HN1.out] at hDx lx
  rw [HN2.out] at hDy ly
  rw [HN1.out, HN2.out]
  obtain ⟨m, HM⟩ : ∃ m, Hid (e - (i : Int) = m) := ⟨_, rfl⟩
  rw [HM.out]
  have px := (Row.new w1 47 #[.bool nx, .slice a1 n1 c1, .int .i64 m]).alloc (.cells #[.bool ny, .slice a2 n2 c2, .int .i64 m] 47)
  have py := Row.new1 w1 (.cells #[.bool nx, .slice a1 n1 c1, .int .i64 m] 47) 47 #[.bool ny, .slice a2 n2 c2, .int .i64 m]
  have b2 : Below w1.heap.size w1 ((w1.alloc (.cells #[.bool nx, .slice a1 n1 c1, .int .i64 m] 47)).alloc (.cells #[.bool ny, .slice a2 n2 c2, .int .i64 m] 47)) := ((Below.refl _ w1).alloc (Nat.le_refl _) _).alloc (by simp) _
  have hB1 := hB.trans (b1.mono hB.size)
  have hBe := hB1.trans (b2.mono hB1.size)
  have eX := hDx.below b2
  have eY := hDy.below b2
  clear hDx hDy hB hB1 b1
  go_upto_region 4 with fail
  generalize (w1.alloc (.cells #[.bool nx, .slice a1 n1 c1, .int .i64 m] 47)).alloc (.cells #[.bool ny, .slice a2 n2 c2, .int .i64 m] 47) = wr at *
  generalize w1.heap.size = X at *
  obtain ⟨x, HX⟩ : ∃ x, Hid (c * 10 ^ i = x) := ⟨_, rfl⟩
  obtain ⟨y, HY⟩ : ∃ y, Hid (d * 10 ^ j = y) := ⟨_, rfl⟩
  rw [HX.out] at eX HNX HN1 HSI
  rw [HY.out] at eY HNY HN2 HSI
  have ly2 : (digs (-y).natAbs).length ≤ 800 := by rw [Int.natAbs_neg, HN2.out]; omega
  have HMI : ∀ V, Below wr.heap.size wr V → Hid (Calls Tryd.prog 48 #[.agg #[.bool ny, .slice a2 n2 c2]] V fun r w' => ∃ v', r = .returned v' ∧ BigV w' (-y) v' ∧ Below V.heap.size V w') := fun V h =>
    minus_any y _ V ⟨.slice a2 n2 c2, by rw [← HNY.out]; rfl, eY.below h⟩ (by rw [HN2.out]; omega)
  have HPL : ∀ V u, Below wr.heap.size wr V → BigV V (-y) u → Hid (Calls Tryd.prog 46 #[.agg #[.bool nx, .slice a1 n1 c1], u] V fun r w' => ∃ v', r = .returned v' ∧ BigV w' (x + -y) v' ∧ Below V.heap.size V w') := fun V u h hu =>
    plus_any x (-y) _ _ V ⟨.slice a1 n1 c1, by rw [← HNX.out]; rfl, eX.below h⟩ hu (by rw [HN1.out]; omega) ly2
  obtain ⟨z, HZ⟩ : ∃ z, Hid (x + -y = z) := ⟨_, rfl⟩
  rw [HZ.out] at HPL HSI
  have hS : Below wr.heap.size wr wr.drew := (Below.refl _ wr).drew
  have tri : ∀ wx, Below wr.heap.size wr wx → wx.cell? ⟨X, 0, none⟩ = some (.bool nx) ∧ wx.cell? ⟨X, 1, none⟩ = some (.slice a1 n1 c1) ∧ wx.cell? ⟨X, 2, none⟩ = some (.int .i64 m) := fun wx hx => (px.below hx px.lt).tri
  have tri2 : ∀ wx, Below wr.heap.size wr wx → wx.cell? ⟨X + 1, 0, none⟩ = some (.bool ny) ∧ wx.cell? ⟨X + 1, 1, none⟩ = some (.slice a2 n2 c2) ∧ wx.cell? ⟨X + 1, 2, none⟩ = some (.int .i64 m) := fun wx hx => (py.below hx py.lt).tri
  refine wp_region_M (fun wx : World => Below wr.heap.size wr wx) (fun j => decide (j < 8)) 8 rfl (by kernel_rfl) ?_
  refine wpM_held 0 (v := ?_) rfl (by kernel_rfl) (by kernel_rfl) rfl (fun _ _ _ h => h) rfl (by intro wx hx; go_simp <;> rfl) hS ?_
  refine wpM_held 1 (v := .agg #[.bool nx, .slice a1 n1 c1]) rfl (by kernel_rfl) (by kernel_rfl) rfl (fun _ _ _ h => h) rfl (by intro wx hx; obtain ⟨x0, x1, x2⟩ := tri wx hx; go_simp <;> rfl) hS ?_
  refine wpM_held 2 (v := ?_) rfl (by kernel_rfl) (by kernel_rfl) rfl (fun _ _ _ h => h) rfl (by intro wx hx; go_simp <;> rfl) hS ?_
  refine wpM_held 3 (v := .agg #[.bool ny, .slice a2 n2 c2]) rfl (by kernel_rfl) (by kernel_rfl) rfl (fun _ _ _ h => h) rfl (by intro wx hx; obtain ⟨x0, x1, x2⟩ := tri2 wx hx; go_simp <;> rfl) hS ?_
  refine wpM_two 4 6 rfl rfl (by kernel_rfl) rfl rfl ?_ ?_
  · go_wp2_with fail
    refine Calls.mono (HMI _ hS).out ?_
    rintro _ wa ⟨v1, rfl, hV1, b3⟩
    have hSm : Below wr.heap.size wr wa := hS.trans (b3.mono hS.size)
    clear b3 HMI
    have HPL2 := HPL wa v1 hSm hV1
    obtain ⟨s1, rfl, hD1⟩ := hV1
    obtain ⟨_, a5, c5, rfl, _, _⟩ := id hD1
    unfold bv at HPL2 ⊢
    obtain ⟨nm, HNM⟩ : ∃ nm, Hid (decide (-y < 0) = nm) := ⟨_, rfl⟩
    obtain ⟨n5, HN5⟩ : ∃ n5 : Nat, Hid ((digs (-y).natAbs).length = n5) := ⟨_, rfl⟩
    rw [HNM.out, HN5.out] at HPL2 ⊢
    rw [HN5.out] at hD1
    go_wp2_with fail
    refine ⟨fun _ => hSm, ?_⟩
    refine wpM_two 5 6 rfl rfl (by kernel_rfl) rfl rfl ?_ ?_
    · go_wp2_with fail
      refine Calls.mono HPL2.out ?_
      rintro _ wb ⟨v2, rfl, hV2, b4⟩
      have hSmp : Below wr.heap.size wr wb := hSm.trans (b4.mono hSm.size)
      clear b4
      obtain ⟨s2, rfl, hD2⟩ := hV2
      obtain ⟨_, a6, c6, rfl, _, _⟩ := id hD2
      unfold bv
      obtain ⟨nz, HNZ⟩ : ∃ nz, Hid (decide (z < 0) = nz) := ⟨_, rfl⟩
      obtain ⟨n6, HN6⟩ : ∃ n6 : Nat, Hid ((digs z.natAbs).length = n6) := ⟨_, rfl⟩
      rw [HNZ.out, HN6.out]
      go_wp2_with fail
      refine ⟨fun _ => hSmp, ?_⟩
      refine wpM_one 6 rfl (by kernel_rfl) rfl ?_
      go_wp2_with fail
      have kr := Row.new wb 45 #[.bool false, .slice none 0 0]
      have hSmpa : Below wr.heap.size wr (wb.alloc (.cells #[.bool false, .slice none 0 0] 45)) := hSmp.alloc hSmp.size _
      have kl : wr.heap.size ≤ wb.heap.size := hSmp.size
      have kb : Below wb.heap.size wb (wb.alloc (.cells #[.bool false, .slice none 0 0] 45)) := (Below.refl _ _).alloc (Nat.le_refl _) _
      refine ⟨fun _ => hSmpa, ?_⟩
      generalize wb.alloc (.cells #[.bool false, .slice none 0 0] 45) = kw at *
      generalize wb.heap.size = K at *
      obtain ⟨x0, x1⟩ := kr.duo
      have zf := kr.frozen
      have hZ := Row.set2 kr (.bool nz) (.slice a6 n6 c6)
      have hBf0 := hBe.trans (hSmpa.mono hBe.size)
      have hBf := below_set (below_set hBf0 (B := K) 0 (.bool nz) (by have := hBe.size; omega)) (B := K) 1 (.slice a6 n6 c6) (by have := hBe.size; omega)
      have hSf := below_set (below_set hSmpa (B := K) 0 (.bool nz) (by omega)) (B := K) 1 (.slice a6 n6 c6) (by omega)
      refine wpM_one 7 rfl (by kernel_rfl) rfl ?_
      go_wp2_with fail
      refine ⟨fun _ => hSf, ?_⟩
      refine wpM_done (by kernel_rfl) ?_
      obtain ⟨z0, z1⟩ := hZ.duo
      clear x0 x1 zf hZ hSf
      rcases Int.lt_trichotomy z 0 with hz | hz | hz
      · have hnz : nz = true := by rw [← HNZ.out]; exact decide_eq_true hz
        subst hnz
        have hn6 : (n6 : Int) ≠ 0 := by
          have h5 := HN6.out
          rw [digs_pos _ (by omega), List.length_cons] at h5
          omega
        have hnb : ((n6 : Int) == 0) = false := by simpa using hn6
        have HS9 : Hid (sn = -1) := by show _ = _; rw [← HSI.out]; exact Int.sign_eq_neg_one_of_neg hz
        go_wp2
        go_ret
        exact ⟨by rw [HS9.out]; rfl, hBf⟩
      · subst hz
        have hn6 : n6 = 0 := by rw [← HN6.out]; rw [show (0 : Int).natAbs = 0 from rfl, digs_zero]; rfl
        subst hn6
        have HS9 : Hid (sn = 0) := by show _ = _; rw [← HSI.out]; rfl
        go_wp2
        go_ret
        exact ⟨by rw [HS9.out]; rfl, hBf⟩
      · have hnz : nz = false := by rw [← HNZ.out]; exact decide_eq_false (by omega)
        subst hnz
        have hn6 : (n6 : Int) ≠ 0 := by
          have h5 := HN6.out
          rw [digs_pos _ (by omega), List.length_cons] at h5
          omega
        have hnb : ((n6 : Int) == 0) = false := by simpa using hn6
        have HS9 : Hid (sn = 1) := by show _ = _; rw [← HSI.out]; exact Int.sign_eq_one_of_pos hz
        go_wp2
        go_ret
        exact ⟨by rw [HS9.out]; rfl, hBf⟩
    · go_wp2_with fail
      have kr := Row.new wa 45 #[.bool false, .slice none 0 0]
      have hSma : Below wr.heap.size wr (wa.alloc (.cells #[.bool false, .slice none 0 0] 45)) := hSm.alloc hSm.size _
      have kl : wr.heap.size ≤ wa.heap.size := hSm.size
      have kb : Below wa.heap.size wa (wa.alloc (.cells #[.bool false, .slice none 0 0] 45)) := (Below.refl _ _).alloc (Nat.le_refl _) _
      refine ⟨fun _ => hSma, ?_⟩
      have hV4 : BigV _ (-y) (bv nm (.slice a5 n5 c5)) := ⟨_, by rw [← HNM.out], hD1.below kb⟩
      unfold bv at hV4
      have HPL3 := HPL _ _ hSma hV4
      generalize wa.alloc (.cells #[.bool false, .slice none 0 0] 45) = kw at *
      generalize wa.heap.size = K at *
      refine wpM_one 5 rfl (by kernel_rfl) rfl ?_
      go_wp2_with fail
      refine Calls.mono HPL3.out ?_
      rintro _ wb ⟨v2, rfl, hV2, b4⟩
      have hSmap : Below wr.heap.size wr wb := hSma.trans (b4.mono hSma.size)
      have kr4 := kr.below b4 kr.lt
      clear b4
      obtain ⟨s2, rfl, hD2⟩ := hV2
      obtain ⟨_, a6, c6, rfl, _, _⟩ := id hD2
      unfold bv
      obtain ⟨nz, HNZ⟩ : ∃ nz, Hid (decide (z < 0) = nz) := ⟨_, rfl⟩
      obtain ⟨n6, HN6⟩ : ∃ n6 : Nat, Hid ((digs z.natAbs).length = n6) := ⟨_, rfl⟩
      rw [HNZ.out, HN6.out]
      go_wp2_with fail
      refine ⟨fun _ => hSmap, ?_⟩
      obtain ⟨x0, x1⟩ := kr4.duo
      have zf := kr4.frozen
      have hZ := Row.set2 kr4 (.bool nz) (.slice a6 n6 c6)
      have hBf0 := hBe.trans (hSmap.mono hBe.size)
      have hBf := below_set (below_set hBf0 (B := K) 0 (.bool nz) (by have := hBe.size; omega)) (B := K) 1 (.slice a6 n6 c6) (by have := hBe.size; omega)
      have hSf := below_set (below_set hSmap (B := K) 0 (.bool nz) (by omega)) (B := K) 1 (.slice a6 n6 c6) (by omega)
      refine wpM_one 7 rfl (by kernel_rfl) rfl ?_
      go_wp2_with fail
      refine ⟨fun _ => hSf, ?_⟩
      refine wpM_done (by kernel_rfl) ?_
      obtain ⟨z0, z1⟩ := hZ.duo
      clear x0 x1 zf hZ hSf
      rcases Int.lt_trichotomy z 0 with hz | hz | hz
      · have hnz : nz = true := by rw [← HNZ.out]; exact decide_eq_true hz
        subst hnz
        have hn6 : (n6 : Int) ≠ 0 := by
          have h5 := HN6.out
          rw [digs_pos _ (by omega), List.length_cons] at h5
          omega
        have hnb : ((n6 : Int) == 0) = false := by simpa using hn6
        have HS9 : Hid (sn = -1) := by show _ = _; rw [← HSI.out]; exact Int.sign_eq_neg_one_of_neg hz
        go_wp2
        go_ret
        exact ⟨by rw [HS9.out]; rfl, hBf⟩
      · subst hz
        have hn6 : n6 = 0 := by rw [← HN6.out]; rw [show (0 : Int).natAbs = 0 from rfl, digs_zero]; rfl
        subst hn6
        have HS9 : Hid (sn = 0) := by show _ = _; rw [← HSI.out]; rfl
        go_wp2
        go_ret
        exact ⟨by rw [HS9.out]; rfl, hBf⟩
      · have hnz : nz = false := by rw [← HNZ.out]; exact decide_eq_false (by omega)
        subst hnz
        have hn6 : (n6 : Int) ≠ 0 := by
          have h5 := HN6.out
          rw [digs_pos _ (by omega), List.length_cons] at h5
          omega
        have hnb : ((n6 : Int) == 0) = false := by simpa using hn6
        have HS9 : Hid (sn = 1) := by show _ = _; rw [← HSI.out]; exact Int.sign_eq_one_of_pos hz
        go_wp2
        go_ret
        exact ⟨by rw [HS9.out]; rfl, hBf⟩
  · go_wp2_with fail
    have kr : Row (wr.alloc (.cells #[.bool false, .slice none 0 0] 45)).drew wr.heap.size 45 #[.bool false, .slice none 0 0] := Row.new wr 45 #[.bool false, .slice none 0 0]
    have hSa : Below wr.heap.size wr (wr.alloc (.cells #[.bool false, .slice none 0 0] 45)).drew := ((Below.refl _ wr).alloc (Nat.le_refl _) _).drew
    refine ⟨fun _ => hSa, ?_⟩
    generalize (wr.alloc (.cells #[.bool false, .slice none 0 0] 45)).drew = kw at *
    refine wpM_one 4 rfl (by kernel_rfl) rfl ?_
    go_wp2_with fail
    refine Calls.mono (HMI _ hSa).out ?_
    rintro _ wa ⟨v1, rfl, hV1, b3⟩
    have hSam : Below wr.heap.size wr wa := hSa.trans (b3.mono hSa.size)
    have kr2 := kr.below b3 kr.lt
    clear b3 HMI
    have HPL2 := HPL wa v1 hSam hV1
    obtain ⟨s1, rfl, hD1⟩ := hV1
    obtain ⟨_, a5, c5, rfl, _, _⟩ := id hD1
    unfold bv at HPL2 ⊢
    obtain ⟨nm, HNM⟩ : ∃ nm, Hid (decide (-y < 0) = nm) := ⟨_, rfl⟩
    obtain ⟨n5, HN5⟩ : ∃ n5 : Nat, Hid ((digs (-y).natAbs).length = n5) := ⟨_, rfl⟩
    rw [HNM.out, HN5.out] at HPL2 ⊢
    rw [HN5.out] at hD1
    go_wp2_with fail
    refine ⟨fun _ => hSam, ?_⟩
    refine wpM_one 5 rfl (by kernel_rfl) rfl ?_
    go_wp2_with fail
    refine Calls.mono HPL2.out ?_
    rintro _ wb ⟨v2, rfl, hV2, b4⟩
    have hSamp : Below wr.heap.size wr wb := hSam.trans (b4.mono hSam.size)
    have kr4 := kr2.below b4 kr2.lt
    clear b4
    obtain ⟨s2, rfl, hD2⟩ := hV2
    obtain ⟨_, a6, c6, rfl, _, _⟩ := id hD2
    unfold bv
    obtain ⟨nz, HNZ⟩ : ∃ nz, Hid (decide (z < 0) = nz) := ⟨_, rfl⟩
    obtain ⟨n6, HN6⟩ : ∃ n6 : Nat, Hid ((digs z.natAbs).length = n6) := ⟨_, rfl⟩
    rw [HNZ.out, HN6.out]
    go_wp2_with fail
    refine ⟨fun _ => hSamp, ?_⟩
    obtain ⟨x0, x1⟩ := kr4.duo
    have zf := kr4.frozen
    have hZ := Row.set2 kr4 (.bool nz) (.slice a6 n6 c6)
    have hBf0 := hBe.trans (hSamp.mono hBe.size)
    have hBf := below_set (below_set hBf0 (B := wr.heap.size) 0 (.bool nz) (by have := hBe.size; omega)) (B := wr.heap.size) 1 (.slice a6 n6 c6) (by have := hBe.size; omega)
    have hSf := below_set (below_set hSamp (B := wr.heap.size) 0 (.bool nz) (by omega)) (B := wr.heap.size) 1 (.slice a6 n6 c6) (by omega)
    refine wpM_one 7 rfl (by kernel_rfl) rfl ?_
    go_wp2_with fail
    refine ⟨fun _ => hSf, ?_⟩
    refine wpM_done (by kernel_rfl) ?_
    obtain ⟨z0, z1⟩ := hZ.duo
    clear x0 x1 zf hZ hSf
    rcases Int.lt_trichotomy z 0 with hz | hz | hz
    · have hnz : nz = true := by rw [← HNZ.out]; exact decide_eq_true hz
      subst hnz
      have hn6 : (n6 : Int) ≠ 0 := by
        have h5 := HN6.out
        rw [digs_pos _ (by omega), List.length_cons] at h5
        omega
      have hnb : ((n6 : Int) == 0) = false := by simpa using hn6
      have HS9 : Hid (sn = -1) := by show _ = _; rw [← HSI.out]; exact Int.sign_eq_neg_one_of_neg hz
      go_wp2
      go_ret
      exact ⟨by rw [HS9.out]; rfl, hBf⟩
    · subst hz
      have hn6 : n6 = 0 := by rw [← HN6.out]; rw [show (0 : Int).natAbs = 0 from rfl, digs_zero]; rfl
      subst hn6
      have HS9 : Hid (sn = 0) := by show _ = _; rw [← HSI.out]; rfl
      go_wp2
      go_ret
      exact ⟨by rw [HS9.out]; rfl, hBf⟩
    · have hnz : nz = false := by rw [← HNZ.out]; exact decide_eq_false (by omega)
      subst hnz
      have hn6 : (n6 : Int) ≠ 0 := by
        have h5 := HN6.out
        rw [digs_pos _ (by omega), List.length_cons] at h5
        omega
      have hnb : ((n6 : Int) == 0) = false := by simpa using hn6
      have HS9 : Hid (sn = 1) := by show _ = _; rw [← HSI.out]; exact Int.sign_eq_one_of_pos hz
      go_wp2
      go_ret
      exact ⟨by rw [HS9.out]; rfl, hBf⟩
end Go.Proofs.YtfbhonjndepjbaaDoor
/- The document's Sign. -/
namespace Go.Proofs.YtfbhonjndepjbaaDoor
open Go.RowKit

theorem rcmp_any (c e d f : Int) (hc : I64 c) (hd : I64 d) (w : World) : Calls Tryd.prog 29 #[.agg #[.int .i64 c, .int .i64 e], .agg #[.int .i64 d, .int .i64 f]] w fun r w' => r = .returned (.int .i64 (if (-18 ≤ e ∧ e ≤ 18) ∧ (-18 ≤ f ∧ f ≤ 18) then (V (-18) c e - V (-18) d f).sign else 0)) ∧ Below w.heap.size w w' := by
  by_cases h : (-18 ≤ e ∧ e ≤ 18) ∧ (-18 ≤ f ∧ f ≤ 18)
  · rw [if_pos h]; exact rcmp_ok c e d f hc hd w h.1.1 h.1.2 h.2.1 h.2.2
  · rw [if_neg h]; exact rcmp_bad c e d f hc hd w h
set_option maxRecDepth 100000 in
set_option maxHeartbeats 1000000 in
theorem rsign_any (c e : Int) (hc : I64 c) (w : World) : Calls Tryd.prog 31 #[.agg #[.int .i64 c, .int .i64 e]] w fun r w' => r = .returned (.int .i64 (if -18 ≤ e ∧ e ≤ 18 then (V (-18) c e).sign else 0)) ∧ Below w.heap.size w w' := by
  have HC : ∀ W, Hid (Calls Tryd.prog 29 #[.agg #[.int .i64 c, .int .i64 e], .agg #[.int .i64 0, .int .i64 0]] W fun r w' => r = .returned (.int .i64 (if -18 ≤ e ∧ e ≤ 18 then (V (-18) c e).sign else 0)) ∧ Below W.heap.size W w') := fun W => by
    have := rcmp_any c e 0 0 hc ⟨by decide, by decide⟩ W
    rw [show V (-18) 0 0 = 0 by simp [V], Int.sub_zero] at this
    by_cases h : -18 ≤ e ∧ e ≤ 18
    · rw [if_pos ⟨h, by omega⟩] at this; rw [if_pos h]; exact this
    · rw [if_neg (fun h2 => h h2.1)] at this; rw [if_neg h]; exact this
  obtain ⟨s, HS⟩ : ∃ s, Hid ((if -18 ≤ e ∧ e ≤ 18 then (V (-18) c e).sign else 0) = s) := ⟨_, rfl⟩
  rw [HS.out] at HC ⊢
  have b0 := (Below.refl _ w).alloc (Nat.le_refl _) (.cells #[.int .i64 c, .int .i64 e] 23)
  clear hc
  go_enter Tryd.func31, Tryd.ntmps31
  go_wp2_with fail
  refine Calls.mono (HC _).out ?_
  rintro _ w1 ⟨rfl, b1⟩
  have hB := b0.trans (b1.mono b0.size)
  go_wp2
  go_ret
  exact ⟨rfl, hB⟩
end Go.Proofs.YtfbhonjndepjbaaDoor
