import Derived.Test.YtnhflnpjepiceaaGreatDoorPqzM
import Derived.Test.YtnhflnpjepiceaaGreatDoorWprM
import Derived.Deep.CutBlock
import Derived.Deep.DeepCutAuto
/- The document's Right. -/
namespace Go.Proofs.YtnhflnpjepiceaaGreatDoor
open Go.RowKit

theorem right_tell (c e : Int) (hc : I64 c) (he : within e) : ∃ p q, tell c e = some (p, q) ∧ rightB c e = (decide (p = c) && decide (q = e)) := by
  refine ⟨_, _, tell_decW c e hc he, ?_⟩
  have hrt := tell_rt (tell_decW c e hc he)
  by_cases hr : Rt c e
  · rw [right_rt he hr]
    have hfix : decW c e = numW c e := by
      unfold decW shortW
      unfold Rt at hr
      by_cases h0 : c = 0
      · have he0 : e = 0 := by omega
        subst h0 he0
        rfl
      · rw [if_neg (by unfold numW; simp; omega)]
        have : strip (numW c e).n (numW c e).e = ((numW c e).n, (numW c e).e) := strip_fix _ _ (by unfold numW; simp only; omega)
        rw [this]
    have h1 : sc (decW c e) = c := by
      rw [hfix]
      unfold sc numW
      simp only
      by_cases h : c < 0
      · rw [decide_eq_true h, if_pos rfl]; omega
      · rw [decide_eq_false h, if_neg (by simp)]; omega
    have h2 : (decW c e).e = e := by rw [hfix]; rfl
    rw [h1, h2]
    simp
  · have h1 : rightB c e = false := by
      cases hb : rightB c e with
      | false => rfl
      | true =>
        exfalso
        apply hr
        unfold rightB at hb
        unfold Rt
        by_cases h0 : c = 0
        · rw [if_pos h0] at hb
          exact .inr (.inr ⟨h0, of_decide_eq_true hb⟩)
        · rw [if_neg h0] at hb
          simp at hb
          rcases hb.2 with h | h
          · exact .inl h
          · exact .inr (.inl ⟨h, h0⟩)
    rw [h1]
    cases hd : (decide (sc (decW c e) = c) && decide ((decW c e).e = e)) with
    | false => rfl
    | true =>
      exfalso
      simp at hd
      rw [hd.1, hd.2] at hrt
      exact hr hrt
set_option maxRecDepth 100000 in
set_option maxHeartbeats 2000000 in
theorem rright_bad (c e : Int) (he : ¬ within e) (w : World) : Calls Tryz.prog 46 #[.agg #[.int .i64 c, .int .i64 e]] w fun r w' => r = .returned (.bool false) ∧ Below w.heap.size w w' := by
  have b0 : ∀ o, Below w.heap.size w (w.alloc o) := fun o => (Below.refl _ w).alloc (Nat.le_refl _) _
  by_cases h1 : e < -18
  · clear he
    go_enter Tryz.func46, Tryz.ntmps46
    go_wp2
    go_ret
    exact ⟨rfl, b0 _⟩
  · have h2 : 18 < e := by unfold within at he; omega
    clear he
    go_enter Tryz.func46, Tryz.ntmps46
    go_wp2
    go_ret
    exact ⟨rfl, b0 _⟩
set_option maxRecDepth 100000 in
set_option maxHeartbeats 2000000 in
theorem rright_ok (c e : Int) (hc : I64 c) (he : within e) (w : World) : Calls Tryz.prog 46 #[.agg #[.int .i64 c, .int .i64 e]] w fun r w' => r = .returned (.bool (rightB c e)) ∧ Below w.heap.size w w' := by
  obtain ⟨p, q, hpq, hrb⟩ := right_tell c e hc he
  obtain ⟨h1, h2⟩ : -18 ≤ e ∧ e ≤ 18 := he
  rw [hrb]
  have HL : Hid ((digs c.natAbs).length ≤ 500) := Nat.le_trans (digs_len _ 19 (by unfold I64 at hc; omega)) (by decide)
  have HOF : ∀ V, Hid (Calls Tryz.prog 89 #[.int .i64 c] V _) := fun V => of_any c hc V
  have HTE : ∀ V s, DgAt V s (digs c.natAbs) → Hid (Calls Tryz.prog 88 #[.agg #[.bool (decide (c < 0)), s, .int .i64 e]] V fun r w' => r = .returned (.tuple #[.agg #[.int .i64 p, .int .i64 q], .int .i64 0]) ∧ Below V.heap.size V w') := fun V s h => by
    have := told_any' c e _ V ⟨s, rfl, h⟩ (by omega) (by omega) HL.out
    rw [hpq] at this
    exact this
  have r1 := Row.new w 23 #[.int .i64 c, .int .i64 e]
  have b0 := (Below.refl _ w).alloc (Nat.le_refl _) (.cells #[.int .i64 c, .int .i64 e] 23)
  clear hpq hrb hc
  go_enter Tryz.func46, Tryz.ntmps46
  go_upto_region 3 with fail
  generalize w.alloc (.cells #[.int .i64 c, .int .i64 e] 23) = W at *
  have hS : Below W.heap.size W W.drew := (Below.refl _ W).drew
  have ca : ∀ wx, Below W.heap.size W wx → wx.cell? ⟨w.heap.size, 0, none⟩ = some (.int .i64 c) ∧ wx.cell? ⟨w.heap.size, 1, none⟩ = some (.int .i64 e) := fun wx hx => (r1.below hx r1.lt).duo
  refine wp_region_M (fun wx : World => Below W.heap.size W wx) (fun j => decide (j < 13)) 13 rfl (by kernel_rfl) ?_
  refine wpM_held 0 (v := ?_) rfl (by kernel_rfl) (by kernel_rfl) rfl (fun _ _ _ h => h) rfl (by intro wx hx; go_simp <;> rfl) hS ?_
  refine wpM_held 1 (v := .int .i64 c) rfl (by kernel_rfl) (by kernel_rfl) rfl (fun _ _ _ h => h) rfl (by intro wx hx; obtain ⟨x0, x1⟩ := ca wx hx; go_simp <;> rfl) hS ?_
  refine wpM_held 3 (v := ?_) rfl (by kernel_rfl) (by kernel_rfl) rfl (fun _ _ _ h => h) rfl (by intro wx hx; go_simp <;> rfl) hS ?_
  refine wpM_held 4 (v := .int .i64 e) rfl (by kernel_rfl) (by kernel_rfl) rfl (fun _ _ _ h => h) rfl (by intro wx hx; obtain ⟨x0, x1⟩ := ca wx hx; go_simp <;> rfl) hS ?_
  refine wpM_two 2 10 rfl rfl (by kernel_rfl) rfl rfl ?_ ?_
  · go_wp2_with fail
    refine Calls.mono (HOF _).out ?_
    rintro _ w2 ⟨v2, rfl, hV2, b2⟩
    obtain ⟨s2, rfl, hD2⟩ := hV2
    obtain ⟨_, a3, c3, rfl, _, _⟩ := id hD2
    have hS2 : Below W.heap.size W w2 := hS.trans (b2.mono hS.size)
    unfold bv
    obtain ⟨sg, HSG⟩ : ∃ sg, Hid (decide (c < 0) = sg) := ⟨_, rfl⟩
    obtain ⟨n3, HN3⟩ : ∃ n3, Hid ((digs c.natAbs).length = n3) := ⟨_, rfl⟩
    have HTE := HTE
    rw [HSG.out] at HTE
    rw [HN3.out] at hD2
    rw [HSG.out, HN3.out]
    clear b2 HOF
    go_wp2_with fail
    refine ⟨fun _ => hS2, ?_⟩
    refine wpM_held 5 (v := .agg #[.bool sg, .slice a3 n3 c3, .int .i64 e]) rfl (by kernel_rfl) (by kernel_rfl) rfl (fun _ _ _ h => h) rfl (by intro wx hx; go_simp <;> rfl) hS2 ?_
    refine wpM_two 6 10 rfl rfl (by kernel_rfl) rfl rfl ?_ ?_
    · go_wp2_with fail
      refine Calls.mono (HTE _ _ hD2).out ?_
      rintro _ w4 ⟨rfl, b4⟩
      have hS24 : Below W.heap.size W w4 := hS2.trans (b4.mono hS2.size)
      clear b4 HTE
      go_wp2_with fail
      refine ⟨fun _ => hS24, ?_⟩
      refine wpM_held 7 (v := .tuple #[.agg #[.int .i64 p, .int .i64 q], .int .i64 0]) rfl (by kernel_rfl) (by kernel_rfl) rfl (fun _ _ _ h => h) rfl (by intro wx hx; go_simp <;> rfl) hS24 ?_
      refine wpM_held 8 (v := .agg #[.int .i64 p, .int .i64 q]) rfl (by kernel_rfl) (by kernel_rfl) rfl (fun _ _ _ h => h) rfl (by intro wx hx; go_simp <;> rfl) hS24 ?_
      refine wpM_held 9 (v := .int .i64 0) rfl (by kernel_rfl) (by kernel_rfl) rfl (fun _ _ _ h => h) rfl (by intro wx hx; go_simp <;> rfl) hS24 ?_
      refine wpM_one 10 rfl (by kernel_rfl) rfl ?_
      go_wp2_with fail
      have kr := Row.new w4 23 #[.int .i64 0, .int .i64 0]
      have hS24a : Below W.heap.size W (w4.alloc (.cells #[.int .i64 0, .int .i64 0] 23)) := hS24.alloc hS24.size _
      have kl : W.heap.size ≤ w4.heap.size := hS24.size
      have kb : Below w4.heap.size w4 (w4.alloc (.cells #[.int .i64 0, .int .i64 0] 23)) := (Below.refl _ _).alloc (Nat.le_refl _) _
      refine ⟨fun _ => hS24a, ?_⟩
      generalize w4.alloc (.cells #[.int .i64 0, .int .i64 0] 23) = kw at *
      generalize hK : w4.heap.size = K at *
      have wl := kr.lt
      obtain ⟨x0, x1⟩ := kr.duo
      have zf := kr.frozen
      have hZ := Row.set2 kr (.int .i64 p) (.int .i64 q)
      have hR1 := r1.below hS24a r1.lt
      have hKne : w.heap.size ≠ K := by have := r1.lt; omega
      have hZ1 := (hR1.kept ((Kept.refl (fun b => b ≠ K) _).setCell (p := ⟨K, 0, none⟩) (by simp) (.int .i64 p)) hKne).kept ((Kept.refl (fun b => b ≠ K) _).setCell (p := ⟨K, 1, none⟩) (by simp) (.int .i64 q)) hKne
      have hBe := b0.trans (hS24a.mono b0.size)
      have hBf := below_set (below_set hBe (B := K) 0 (.int .i64 p) (by have := b0.size; omega)) (B := K) 1 (.int .i64 q) (by have := b0.size; omega)
      have hSf := below_set (below_set hS24a (B := K) 0 (.int .i64 p) (by omega)) (B := K) 1 (.int .i64 q) (by omega)
      refine wpM_one 11 rfl (by kernel_rfl) rfl ?_
      go_wp2_with fail
      refine ⟨fun _ => hSf, ?_⟩
      refine wpM_one 12 rfl (by kernel_rfl) rfl ?_
      go_wp2_with fail
      refine ⟨fun _ => hSf, ?_⟩
      refine wpM_done (by kernel_rfl) ?_
      obtain ⟨z0, z1⟩ := hZ.duo
      obtain ⟨z2, z3⟩ := hZ1.duo
      clear x0 x1 zf hZ hZ1 hR1 hSf wl
      by_cases e1 : p = c
      · subst e1
        by_cases e2 : q = e
        · subst e2
          go_wp2
          go_ret
          exact ⟨by first | rfl | simp, hBf⟩
        · go_wp2
          go_ret
          exact ⟨by first | rfl | (rw [decide_eq_false e2, Bool.and_false]; rfl), hBf⟩
      · by_cases e2 : q = e
        · subst e2
          go_wp2
          go_ret
          exact ⟨by first | rfl | (rw [decide_eq_false e1]; rfl), hBf⟩
        · go_wp2
          go_ret
          exact ⟨by first | rfl | (rw [decide_eq_false e1]; rfl), hBf⟩
    · go_wp2_with fail
      have kr := Row.new w2 23 #[.int .i64 0, .int .i64 0]
      have hS2a : Below W.heap.size W (w2.alloc (.cells #[.int .i64 0, .int .i64 0] 23)) := hS2.alloc hS2.size _
      have kl : W.heap.size ≤ w2.heap.size := hS2.size
      have kb : Below w2.heap.size w2 (w2.alloc (.cells #[.int .i64 0, .int .i64 0] 23)) := (Below.refl _ _).alloc (Nat.le_refl _) _
      refine ⟨fun _ => hS2a, ?_⟩
      have hD3 := hD2.below kb
      generalize w2.alloc (.cells #[.int .i64 0, .int .i64 0] 23) = kw at *
      generalize hK : w2.heap.size = K at *
      refine wpM_one 6 rfl (by kernel_rfl) rfl ?_
      go_wp2_with fail
      refine Calls.mono (HTE _ _ hD3).out ?_
      rintro _ w4 ⟨rfl, b4⟩
      have hS2a4 : Below W.heap.size W w4 := hS2a.trans (b4.mono hS2a.size)
      have kr4 := kr.below b4 kr.lt
      clear b4 HTE
      go_wp2_with fail
      refine ⟨fun _ => hS2a4, ?_⟩
      refine wpM_held 7 (v := .tuple #[.agg #[.int .i64 p, .int .i64 q], .int .i64 0]) rfl (by kernel_rfl) (by kernel_rfl) rfl (fun _ _ _ h => h) rfl (by intro wx hx; go_simp <;> rfl) hS2a4 ?_
      refine wpM_held 8 (v := .agg #[.int .i64 p, .int .i64 q]) rfl (by kernel_rfl) (by kernel_rfl) rfl (fun _ _ _ h => h) rfl (by intro wx hx; go_simp <;> rfl) hS2a4 ?_
      refine wpM_held 9 (v := .int .i64 0) rfl (by kernel_rfl) (by kernel_rfl) rfl (fun _ _ _ h => h) rfl (by intro wx hx; go_simp <;> rfl) hS2a4 ?_
      have wl := kr4.lt
      obtain ⟨x0, x1⟩ := kr4.duo
      have zf := kr4.frozen
      have hZ := Row.set2 kr4 (.int .i64 p) (.int .i64 q)
      have hR1 := r1.below hS2a4 r1.lt
      have hKne : w.heap.size ≠ K := by have := r1.lt; omega
      have hZ1 := (hR1.kept ((Kept.refl (fun b => b ≠ K) _).setCell (p := ⟨K, 0, none⟩) (by simp) (.int .i64 p)) hKne).kept ((Kept.refl (fun b => b ≠ K) _).setCell (p := ⟨K, 1, none⟩) (by simp) (.int .i64 q)) hKne
      have hBe := b0.trans (hS2a4.mono b0.size)
      have hBf := below_set (below_set hBe (B := K) 0 (.int .i64 p) (by have := b0.size; omega)) (B := K) 1 (.int .i64 q) (by have := b0.size; omega)
      have hSf := below_set (below_set hS2a4 (B := K) 0 (.int .i64 p) (by omega)) (B := K) 1 (.int .i64 q) (by omega)
      refine wpM_one 11 rfl (by kernel_rfl) rfl ?_
      go_wp2_with fail
      refine ⟨fun _ => hSf, ?_⟩
      refine wpM_one 12 rfl (by kernel_rfl) rfl ?_
      go_wp2_with fail
      refine ⟨fun _ => hSf, ?_⟩
      refine wpM_done (by kernel_rfl) ?_
      obtain ⟨z0, z1⟩ := hZ.duo
      obtain ⟨z2, z3⟩ := hZ1.duo
      clear x0 x1 zf hZ hZ1 hR1 hSf wl
      by_cases e1 : p = c
      · subst e1
        by_cases e2 : q = e
        · subst e2
          go_wp2
          go_ret
          exact ⟨by first | rfl | simp, hBf⟩
        · go_wp2
          go_ret
          exact ⟨by first | rfl | (rw [decide_eq_false e2, Bool.and_false]; rfl), hBf⟩
      · by_cases e2 : q = e
        · subst e2
          go_wp2
          go_ret
          exact ⟨by first | rfl | (rw [decide_eq_false e1]; rfl), hBf⟩
        · go_wp2
          go_ret
          exact ⟨by first | rfl | (rw [decide_eq_false e1]; rfl), hBf⟩
  · go_wp2_with fail
    have kr : Row (W.alloc (.cells #[.int .i64 0, .int .i64 0] 23)).drew W.heap.size 23 #[.int .i64 0, .int .i64 0] := Row.new W 23 #[.int .i64 0, .int .i64 0]
    have hSa : Below W.heap.size W (W.alloc (.cells #[.int .i64 0, .int .i64 0] 23)).drew := ((Below.refl _ W).alloc (Nat.le_refl _) _).drew
    have kl : W.heap.size ≤ W.heap.size := Nat.le_refl _
    refine ⟨fun _ => hSa, ?_⟩
    generalize (W.alloc (.cells #[.int .i64 0, .int .i64 0] 23)).drew = kw at *
    refine wpM_one 2 rfl (by kernel_rfl) rfl ?_
    go_wp2_with fail
    refine Calls.mono (HOF _).out ?_
    rintro _ w2 ⟨v2, rfl, hV2, b2⟩
    obtain ⟨s2, rfl, hD2⟩ := hV2
    obtain ⟨_, a3, c3, rfl, _, _⟩ := id hD2
    have hSa2 : Below W.heap.size W w2 := hSa.trans (b2.mono hSa.size)
    have kr2 := kr.below b2 kr.lt
    unfold bv
    obtain ⟨sg, HSG⟩ : ∃ sg, Hid (decide (c < 0) = sg) := ⟨_, rfl⟩
    obtain ⟨n3, HN3⟩ : ∃ n3, Hid ((digs c.natAbs).length = n3) := ⟨_, rfl⟩
    have HTE := HTE
    rw [HSG.out] at HTE
    rw [HN3.out] at hD2
    rw [HSG.out, HN3.out]
    clear b2 HOF
    go_wp2_with fail
    refine ⟨fun _ => hSa2, ?_⟩
    refine wpM_held 5 (v := .agg #[.bool sg, .slice a3 n3 c3, .int .i64 e]) rfl (by kernel_rfl) (by kernel_rfl) rfl (fun _ _ _ h => h) rfl (by intro wx hx; go_simp <;> rfl) hSa2 ?_
    refine wpM_one 6 rfl (by kernel_rfl) rfl ?_
    go_wp2_with fail
    refine Calls.mono (HTE _ _ hD2).out ?_
    rintro _ w4 ⟨rfl, b4⟩
    have hSa24 : Below W.heap.size W w4 := hSa2.trans (b4.mono hSa2.size)
    have kr4 := kr2.below b4 kr2.lt
    clear b4 HTE
    go_wp2_with fail
    refine ⟨fun _ => hSa24, ?_⟩
    refine wpM_held 7 (v := .tuple #[.agg #[.int .i64 p, .int .i64 q], .int .i64 0]) rfl (by kernel_rfl) (by kernel_rfl) rfl (fun _ _ _ h => h) rfl (by intro wx hx; go_simp <;> rfl) hSa24 ?_
    refine wpM_held 8 (v := .agg #[.int .i64 p, .int .i64 q]) rfl (by kernel_rfl) (by kernel_rfl) rfl (fun _ _ _ h => h) rfl (by intro wx hx; go_simp <;> rfl) hSa24 ?_
    refine wpM_held 9 (v := .int .i64 0) rfl (by kernel_rfl) (by kernel_rfl) rfl (fun _ _ _ h => h) rfl (by intro wx hx; go_simp <;> rfl) hSa24 ?_
    have wl := kr4.lt
    obtain ⟨x0, x1⟩ := kr4.duo
    have zf := kr4.frozen
    have hZ := Row.set2 kr4 (.int .i64 p) (.int .i64 q)
    have hR1 := r1.below hSa24 r1.lt
    have hKne : w.heap.size ≠ W.heap.size := by have := r1.lt; omega
    have hZ1 := (hR1.kept ((Kept.refl (fun b => b ≠ W.heap.size) _).setCell (p := ⟨W.heap.size, 0, none⟩) (by simp) (.int .i64 p)) hKne).kept ((Kept.refl (fun b => b ≠ W.heap.size) _).setCell (p := ⟨W.heap.size, 1, none⟩) (by simp) (.int .i64 q)) hKne
    have hBe := b0.trans (hSa24.mono b0.size)
    have hBf := below_set (below_set hBe (B := W.heap.size) 0 (.int .i64 p) (by have := b0.size; omega)) (B := W.heap.size) 1 (.int .i64 q) (by have := b0.size; omega)
    have hSf := below_set (below_set hSa24 (B := W.heap.size) 0 (.int .i64 p) (by omega)) (B := W.heap.size) 1 (.int .i64 q) (by omega)
    refine wpM_one 11 rfl (by kernel_rfl) rfl ?_
    go_wp2_with fail
    refine ⟨fun _ => hSf, ?_⟩
    refine wpM_one 12 rfl (by kernel_rfl) rfl ?_
    go_wp2_with fail
    refine ⟨fun _ => hSf, ?_⟩
    refine wpM_done (by kernel_rfl) ?_
    obtain ⟨z0, z1⟩ := hZ.duo
    obtain ⟨z2, z3⟩ := hZ1.duo
    clear x0 x1 zf hZ hZ1 hR1 hSf wl
    by_cases e1 : p = c
    · subst e1
      by_cases e2 : q = e
      · subst e2
        go_wp2
        go_ret
        exact ⟨by first | rfl | simp, hBf⟩
      · go_wp2
        go_ret
        exact ⟨by first | rfl | (rw [decide_eq_false e2, Bool.and_false]; rfl), hBf⟩
    · by_cases e2 : q = e
      · subst e2
        go_wp2
        go_ret
        exact ⟨by first | rfl | (rw [decide_eq_false e1]; rfl), hBf⟩
      · go_wp2
        go_ret
        exact ⟨by first | rfl | (rw [decide_eq_false e1]; rfl), hBf⟩
theorem rright_any (c e : Int) (hc : I64 c) (w : World) : Calls Tryz.prog 46 #[.agg #[.int .i64 c, .int .i64 e]] w fun r w' => r = .returned (.bool (rightB c e)) ∧ Below w.heap.size w w' := by
  by_cases he : within e
  · exact rright_ok c e hc he w
  · have h1 : rightB c e = false := by
      unfold rightB
      unfold within at he
      by_cases h0 : c = 0
      · rw [if_pos h0]; exact decide_eq_false (by omega)
      · rw [if_neg h0, decide_eq_false (by omega)]; rfl
    rw [h1]
    exact rright_bad c e he w
end Go.Proofs.YtnhflnpjepiceaaGreatDoor
