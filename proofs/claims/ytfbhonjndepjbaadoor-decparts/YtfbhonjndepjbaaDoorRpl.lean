import Derived.Test.YtfbhonjndepjbaaDoorRtmM
/- Minus, Plus: the document's whole numbers. -/
namespace Go.Proofs.YtfbhonjndepjbaaDoor
open Go.RowKit

set_option maxRecDepth 100000 in
set_option maxHeartbeats 2000000 in
theorem plus_any (x y : Int) (v u : Value) (w : World) (hV : BigV w x v) (hU : BigV w y u) (hx : (digs x.natAbs).length ≤ 800) (hy : (digs y.natAbs).length ≤ 800) :
    Calls Tryd.prog 46 #[v, u] w fun r w' => ∃ v', r = .returned v' ∧ BigV w' (x + y) v' ∧ Below w.heap.size w w' := by
  obtain ⟨sa, rfl, hA⟩ := hV
  obtain ⟨sb, rfl, hB'⟩ := hU
  have HT : ∀ (ng : Bool) W sv ds, DgAt W sv ds → DgL ds → ds.length ≤ max (digs x.natAbs).length (digs y.natAbs).length + 1 → bval ng ds = x + y → Hid (Calls Tryd.prog 59 #[.agg #[.bool ng, sv]] W fun r w' => ∃ v', r = .returned v' ∧ BigV w' (x + y) v' ∧ Below W.heap.size W w') := fun ng W sv ds h1 h2 h3 h4 => by
    have := trim_any ng sv ds W h1 h2 (by omega)
    rw [h4] at this
    exact this
  have HSU : ∀ W, Below w.heap.size w W → Hid (Calls Tryd.prog 80 #[bv (decide (x < 0)) sa, bv (decide (y < 0)) sb] W _) := fun W h => sum_digs (decide (x < 0)) (decide (y < 0)) sa sb _ _ W (hA.below h) (hB'.below h) (digs_dg _) (digs_dg _) (by omega) (by omega)
  have HLS : (y.natAbs : Int) ≤ x.natAbs → ∀ W, Below w.heap.size w W → Hid (Calls Tryd.prog 81 #[bv (decide (x < 0)) sa, bv (decide (y < 0)) sb] W _) := fun hle W h => less_digs (decide (x < 0)) (decide (y < 0)) sa sb _ _ W (hA.below h) (hB'.below h) (digs_dg _) (digs_dg _) (by omega) (by omega) (by rw [dval_digs, dval_digs]; exact hle)
  have HLT : (x.natAbs : Int) ≤ y.natAbs → ∀ W, Below w.heap.size w W → Hid (Calls Tryd.prog 81 #[bv (decide (y < 0)) sb, bv (decide (x < 0)) sa] W _) := fun hle W h => less_digs (decide (y < 0)) (decide (x < 0)) sb sa _ _ W (hB'.below h) (hA.below h) (digs_dg _) (digs_dg _) (by omega) (by omega) (by rw [dval_digs, dval_digs]; exact hle)
  have HMO : ∀ W, Below w.heap.size w W → Hid (Calls Tryd.prog 70 #[bv (decide (x < 0)) sa, bv (decide (y < 0)) sb] W _) := fun W h => more_any (decide (x < 0)) (decide (y < 0)) sa sb _ _ W (hA.below h) (hB'.below h) (digs_dg _) (digs_dg _) (by omega) (by omega)
  obtain ⟨ng, HNG⟩ : ∃ ng, Hid (decide (x + y < 0) = ng) := ⟨_, rfl⟩
  simp only [dval_digs] at HSU HLS HLT HMO
  obtain ⟨na, hna⟩ : ∃ na, decide (x < 0) = na := ⟨_, rfl⟩
  obtain ⟨nb, hnb⟩ : ∃ nb, decide (y < 0) = nb := ⟨_, rfl⟩
  have HNA : Hid (decide (x < 0) = na) := hna
  have HNB : Hid (decide (y < 0) = nb) := hnb
  rw [hna, hnb] at HSU HLS HMO
  rw [hna, hnb] at HLT
  rw [hna, hnb]
  clear hna hnb
  unfold bv at *
  obtain ⟨_, a1, c1, rfl, _, _⟩ := id hA
  obtain ⟨_, a2, c2, rfl, _, _⟩ := id hB'
  clear hA hB'
  obtain ⟨la, hla⟩ : ∃ la, (digs x.natAbs).length = la := ⟨_, rfl⟩
  obtain ⟨lb, hlb⟩ : ∃ lb, (digs y.natAbs).length = lb := ⟨_, rfl⟩
  rw [hla, hlb] at HT HSU HLS HLT HMO
  rw [hla] at hx
  rw [hlb] at hy
  rw [hla, hlb]
  clear hla hlb
  cases na <;> cases nb
  · go_enter Tryd.func46, Tryd.ntmps46
    go_wp2_with fail
    have r1 := ((Row.new w 45 #[.bool false, .slice a1 la c1]).alloc (.cells #[.bool false, .slice a2 lb c2] 45)).alloc (.cells #[.bool false, .slice none 0 0] 45)
    have r2 := (Row.new1 w (.cells #[.bool false, .slice a1 la c1] 45) 45 #[.bool false, .slice a2 lb c2]).alloc (.cells #[.bool false, .slice none 0 0] 45)
    have r3 : Row (((w.alloc (.cells #[.bool false, .slice a1 la c1] 45)).alloc (.cells #[.bool false, .slice a2 lb c2] 45)).alloc (.cells #[.bool false, .slice none 0 0] 45)) (w.heap.size + 1 + 1) 45 #[.bool false, .slice none 0 0] := by
      have := Row.new ((w.alloc (.cells #[.bool false, .slice a1 la c1] 45)).alloc (.cells #[.bool false, .slice a2 lb c2] 45)) 45 #[.bool false, .slice none 0 0]
      simpa using this
    have hB := (((Below.refl _ w).alloc (Nat.le_refl _) (.cells #[.bool false, .slice a1 la c1] 45)).alloc (by simp) (.cells #[.bool false, .slice a2 lb c2] 45)).alloc (by simp; omega) (.cells #[.bool false, .slice none 0 0] 45)
    generalize ((w.alloc (.cells #[.bool false, .slice a1 la c1] 45)).alloc (.cells #[.bool false, .slice a2 lb c2] 45)).alloc (.cells #[.bool false, .slice none 0 0] 45) = W at *
    obtain ⟨d0, d1⟩ := r1.duo
    obtain ⟨e0, e1⟩ := r2.duo
    have hz2 := r3.lt
    have hS : Below W.heap.size W W.drew := (Below.refl _ W).drew
    refine wp_region_M (fun wx : World => Below W.heap.size W wx) (fun j => decide (j < 7)) 8 rfl (by kernel_rfl) ?_
    refine wpM_held 0 (v := ?_) rfl (by kernel_rfl) (by kernel_rfl) rfl (fun _ _ _ h => h) rfl (by intro wx hx; go_simp <;> rfl) hS ?_
    refine wpM_held 1 (v := .bool false) rfl (by kernel_rfl) (by kernel_rfl) rfl (fun _ _ _ h => h) rfl (by intro wx hx; obtain ⟨x0, x1⟩ := (r1.below hx r1.lt).duo; go_simp <;> rfl) hS ?_
    refine wpM_held 2 (v := .agg #[.bool false, .slice a1 la c1]) rfl (by kernel_rfl) (by kernel_rfl) rfl (fun _ _ _ h => h) rfl (by intro wx hx; obtain ⟨x0, x1⟩ := (r1.below hx r1.lt).duo; go_simp <;> rfl) hS ?_
    refine wpM_held 3 (v := .agg #[.bool false, .slice a2 lb c2]) rfl (by kernel_rfl) (by kernel_rfl) rfl (fun _ _ _ h => h) rfl (by intro wx hx; obtain ⟨x0, x1⟩ := (r2.below hx r2.lt).duo; go_simp <;> rfl) hS ?_
    refine wpM_one 4 rfl (by kernel_rfl) rfl ?_
    go_wp2_with fail
    refine Calls.mono (HSU _ (hB.trans (hS.mono (by omega)))).out ?_
    rintro _ wa ⟨sv, ds, rfl, s1, s2, s3, s4, ba⟩
    have hS1 : Below W.heap.size W wa := hS.trans (ba.mono hS.size)
    have HTR := HT false wa sv ds s1 s2 s4 (by unfold bval; rw [s3]; have h1 := HNA.out; have h2 := HNB.out; simp at h1 h2 ⊢; omega)
    obtain ⟨_, a5, c5, rfl, _, _⟩ := id s1
    clear ba s1 s2 s3 s4 hS
    go_wp2_with fail
    refine ⟨fun _ => hS1, ?_⟩
    refine wpM_one 5 rfl (by kernel_rfl) rfl ?_
    go_wp2_with fail
    refine ⟨fun _ => hS1, ?_⟩
    refine wpM_one 6 rfl (by kernel_rfl) rfl ?_
    go_wp2_with fail
    refine Calls.mono HTR.out ?_
    rintro _ wb ⟨v2, rfl, hV2, bb⟩
    obtain ⟨s2, rfl, hD2⟩ := hV2
    have hW3 : Below W.heap.size W wb := hS1.trans (bb.mono hS1.size)
    obtain ⟨_, a6, c6, rfl, _, _⟩ := id hD2
    clear bb HTR hS1
    unfold bv
    rw [HNG.out]
    go_wp2_with fail
    refine ⟨fun _ => hW3, ?_⟩
    have p2 := r3.below hW3 r3.lt
    obtain ⟨y0, y1⟩ := p2.duo
    have zf := p2.frozen
    refine wpM_one 7 rfl (by kernel_rfl) rfl ?_
    go_wp2_with fail
    refine ⟨fun h => by simp at h, ?_⟩
    refine wpM_done (by kernel_rfl) ?_
    have hBx := hB.trans (hW3.mono (by omega))
    have hBe := below_set (below_set hBx (B := w.heap.size + 1 + 1) 0 (.bool ng) (by omega)) (B := w.heap.size + 1 + 1) 1 (.slice a6 (digs (x + y).natAbs).length c6) (by omega)
    have hZe := Row.set2 p2 (.bool ng) (.slice a6 (digs (x + y).natAbs).length c6)
    have hDe := hD2.store p2 (.bool ng) (.slice a6 (digs (x + y).natAbs).length c6)
    go_wp2
    exact bodyPost_ret (ret_one rfl (g := w.heap.size + 1 + 1) rfl (load43 hZe rfl)) rfl ⟨_, rfl, ⟨_, by rw [HNG.out]; rfl, hDe⟩, hBe⟩
  · go_enter Tryd.func46, Tryd.ntmps46
    go_wp2_with fail
    have r1 := ((Row.new w 45 #[.bool false, .slice a1 la c1]).alloc (.cells #[.bool true, .slice a2 lb c2] 45)).alloc (.cells #[.bool false, .slice none 0 0] 45)
    have r2 := (Row.new1 w (.cells #[.bool false, .slice a1 la c1] 45) 45 #[.bool true, .slice a2 lb c2]).alloc (.cells #[.bool false, .slice none 0 0] 45)
    have r3 : Row (((w.alloc (.cells #[.bool false, .slice a1 la c1] 45)).alloc (.cells #[.bool true, .slice a2 lb c2] 45)).alloc (.cells #[.bool false, .slice none 0 0] 45)) (w.heap.size + 1 + 1) 45 #[.bool false, .slice none 0 0] := by
      have := Row.new ((w.alloc (.cells #[.bool false, .slice a1 la c1] 45)).alloc (.cells #[.bool true, .slice a2 lb c2] 45)) 45 #[.bool false, .slice none 0 0]
      simpa using this
    have hB := (((Below.refl _ w).alloc (Nat.le_refl _) (.cells #[.bool false, .slice a1 la c1] 45)).alloc (by simp) (.cells #[.bool true, .slice a2 lb c2] 45)).alloc (by simp; omega) (.cells #[.bool false, .slice none 0 0] 45)
    generalize ((w.alloc (.cells #[.bool false, .slice a1 la c1] 45)).alloc (.cells #[.bool true, .slice a2 lb c2] 45)).alloc (.cells #[.bool false, .slice none 0 0] 45) = W at *
    obtain ⟨d0, d1⟩ := r1.duo
    obtain ⟨e0, e1⟩ := r2.duo
    have hz2 := r3.lt
    refine Calls.mono (HMO _ hB).out ?_
    rintro _ W2 ⟨rfl, hbW⟩
    have r1 := r1.below hbW r1.lt
    have r2 := r2.below hbW r2.lt
    have r3 := r3.below hbW r3.lt
    have hB := hB.trans (hbW.mono (by omega))
    have hz2 := r3.lt
    clear hbW d0 d1 e0 e1 HMO HSU
    obtain ⟨d0, d1⟩ := r1.duo
    obtain ⟨e0, e1⟩ := r2.duo
    obtain ⟨ci, hci⟩ : ∃ ci, cI (x.natAbs : Int) (y.natAbs : Int) = ci := ⟨_, rfl⟩
    rw [hci]
    by_cases hle : (y.natAbs : Int) ≤ x.natAbs
    · have g2 : (0 : Int) ≤ ci := by rw [← hci]; unfold cI; split <;> (try split) <;> omega
      have HL := HLS hle
      have HLE : Hid ((y.natAbs : Int) ≤ x.natAbs) := hle
      clear hci hle HLS HLT
      go_wp2_with fail
      have hS : Below W2.heap.size W2 W2.drew := (Below.refl _ W2).drew
      refine wp_region_M (fun wx : World => Below W2.heap.size W2 wx) (fun j => decide (j < 7)) 8 rfl (by kernel_rfl) ?_
      refine wpM_held 0 (v := ?_) rfl (by kernel_rfl) (by kernel_rfl) rfl (fun _ _ _ h => h) rfl (by intro wx hx; go_simp <;> rfl) hS ?_
      refine wpM_held 1 (v := .bool false) rfl (by kernel_rfl) (by kernel_rfl) rfl (fun _ _ _ h => h) rfl (by intro wx hx; obtain ⟨x0, x1⟩ := (r1.below hx r1.lt).duo; go_simp <;> rfl) hS ?_
      refine wpM_held 2 (v := .agg #[.bool false, .slice a1 la c1]) rfl (by kernel_rfl) (by kernel_rfl) rfl (fun _ _ _ h => h) rfl (by intro wx hx; obtain ⟨x0, x1⟩ := (r1.below hx r1.lt).duo; go_simp <;> rfl) hS ?_
      refine wpM_held 3 (v := .agg #[.bool true, .slice a2 lb c2]) rfl (by kernel_rfl) (by kernel_rfl) rfl (fun _ _ _ h => h) rfl (by intro wx hx; obtain ⟨x0, x1⟩ := (r2.below hx r2.lt).duo; go_simp <;> rfl) hS ?_
      refine wpM_one 4 rfl (by kernel_rfl) rfl ?_
      go_wp2_with fail
      refine Calls.mono (HL _ (hB.trans (hS.mono (by omega)))).out ?_
      rintro _ wa ⟨sv, ds, rfl, s1, s2, s3, s4, ba⟩
      have hS1 : Below W2.heap.size W2 wa := hS.trans (ba.mono hS.size)
      have HTR := HT false wa sv ds s1 s2 s4 (by unfold bval; rw [s3]; have h1 := HNA.out; have h2 := HNB.out; have h4 := HLE.out; simp at h1 h2 ⊢; omega)
      obtain ⟨_, a5, c5, rfl, _, _⟩ := id s1
      clear ba s1 s2 s3 s4 hS
      go_wp2_with fail
      refine ⟨fun _ => hS1, ?_⟩
      refine wpM_one 5 rfl (by kernel_rfl) rfl ?_
      go_wp2_with fail
      refine ⟨fun _ => hS1, ?_⟩
      refine wpM_one 6 rfl (by kernel_rfl) rfl ?_
      go_wp2_with fail
      refine Calls.mono HTR.out ?_
      rintro _ wb ⟨v2, rfl, hV2, bb⟩
      obtain ⟨s2, rfl, hD2⟩ := hV2
      have hW3 : Below W2.heap.size W2 wb := hS1.trans (bb.mono hS1.size)
      obtain ⟨_, a6, c6, rfl, _, _⟩ := id hD2
      clear bb HTR hS1
      unfold bv
      rw [HNG.out]
      go_wp2_with fail
      refine ⟨fun _ => hW3, ?_⟩
      have p2 := r3.below hW3 r3.lt
      obtain ⟨y0, y1⟩ := p2.duo
      have zf := p2.frozen
      refine wpM_one 7 rfl (by kernel_rfl) rfl ?_
      go_wp2_with fail
      refine ⟨fun h => by simp at h, ?_⟩
      refine wpM_done (by kernel_rfl) ?_
      have hBx := hB.trans (hW3.mono (by omega))
      have hBe := below_set (below_set hBx (B := w.heap.size + 1 + 1) 0 (.bool ng) (by omega)) (B := w.heap.size + 1 + 1) 1 (.slice a6 (digs (x + y).natAbs).length c6) (by omega)
      have hZe := Row.set2 p2 (.bool ng) (.slice a6 (digs (x + y).natAbs).length c6)
      have hDe := hD2.store p2 (.bool ng) (.slice a6 (digs (x + y).natAbs).length c6)
      go_wp2
      exact bodyPost_ret (ret_one rfl (g := w.heap.size + 1 + 1) rfl (load43 hZe rfl)) rfl ⟨_, rfl, ⟨_, by rw [HNG.out]; rfl, hDe⟩, hBe⟩
    · have g2 : decide ((0 : Int) ≤ ci) = false := by
        refine decide_eq_false ?_
        rw [← hci]; unfold cI; split <;> (try split) <;> omega
      have HL := HLT (by omega)
      have HLE : Hid (¬ (y.natAbs : Int) ≤ x.natAbs) := hle
      clear hci hle HLS HLT
      go_wp2_with fail
      have hS : Below W2.heap.size W2 W2.drew := (Below.refl _ W2).drew
      refine wp_region_M (fun wx : World => Below W2.heap.size W2 wx) (fun j => decide (j < 7)) 8 rfl (by kernel_rfl) ?_
      refine wpM_held 0 (v := ?_) rfl (by kernel_rfl) (by kernel_rfl) rfl (fun _ _ _ h => h) rfl (by intro wx hx; go_simp <;> rfl) hS ?_
      refine wpM_held 1 (v := .bool true) rfl (by kernel_rfl) (by kernel_rfl) rfl (fun _ _ _ h => h) rfl (by intro wx hx; obtain ⟨x0, x1⟩ := (r2.below hx r2.lt).duo; go_simp <;> rfl) hS ?_
      refine wpM_held 2 (v := .agg #[.bool true, .slice a2 lb c2]) rfl (by kernel_rfl) (by kernel_rfl) rfl (fun _ _ _ h => h) rfl (by intro wx hx; obtain ⟨x0, x1⟩ := (r2.below hx r2.lt).duo; go_simp <;> rfl) hS ?_
      refine wpM_held 3 (v := .agg #[.bool false, .slice a1 la c1]) rfl (by kernel_rfl) (by kernel_rfl) rfl (fun _ _ _ h => h) rfl (by intro wx hx; obtain ⟨x0, x1⟩ := (r1.below hx r1.lt).duo; go_simp <;> rfl) hS ?_
      refine wpM_one 4 rfl (by kernel_rfl) rfl ?_
      go_wp2_with fail
      refine Calls.mono (HL _ (hB.trans (hS.mono (by omega)))).out ?_
      rintro _ wa ⟨sv, ds, rfl, s1, s2, s3, s4, ba⟩
      rw [Nat.max_comm] at s4
      have hS1 : Below W2.heap.size W2 wa := hS.trans (ba.mono hS.size)
      have HTR := HT true wa sv ds s1 s2 s4 (by unfold bval; rw [s3]; have h1 := HNA.out; have h2 := HNB.out; have h4 := HLE.out; simp at h1 h2 ⊢; omega)
      obtain ⟨_, a5, c5, rfl, _, _⟩ := id s1
      clear ba s1 s2 s3 s4 hS
      go_wp2_with fail
      refine ⟨fun _ => hS1, ?_⟩
      refine wpM_one 5 rfl (by kernel_rfl) rfl ?_
      go_wp2_with fail
      refine ⟨fun _ => hS1, ?_⟩
      refine wpM_one 6 rfl (by kernel_rfl) rfl ?_
      go_wp2_with fail
      refine Calls.mono HTR.out ?_
      rintro _ wb ⟨v2, rfl, hV2, bb⟩
      obtain ⟨s2, rfl, hD2⟩ := hV2
      have hW3 : Below W2.heap.size W2 wb := hS1.trans (bb.mono hS1.size)
      obtain ⟨_, a6, c6, rfl, _, _⟩ := id hD2
      clear bb HTR hS1
      unfold bv
      rw [HNG.out]
      go_wp2_with fail
      refine ⟨fun _ => hW3, ?_⟩
      have p2 := r3.below hW3 r3.lt
      obtain ⟨y0, y1⟩ := p2.duo
      have zf := p2.frozen
      refine wpM_one 7 rfl (by kernel_rfl) rfl ?_
      go_wp2_with fail
      refine ⟨fun h => by simp at h, ?_⟩
      refine wpM_done (by kernel_rfl) ?_
      have hBx := hB.trans (hW3.mono (by omega))
      have hBe := below_set (below_set hBx (B := w.heap.size + 1 + 1) 0 (.bool ng) (by omega)) (B := w.heap.size + 1 + 1) 1 (.slice a6 (digs (x + y).natAbs).length c6) (by omega)
      have hZe := Row.set2 p2 (.bool ng) (.slice a6 (digs (x + y).natAbs).length c6)
      have hDe := hD2.store p2 (.bool ng) (.slice a6 (digs (x + y).natAbs).length c6)
      go_wp2
      exact bodyPost_ret (ret_one rfl (g := w.heap.size + 1 + 1) rfl (load43 hZe rfl)) rfl ⟨_, rfl, ⟨_, by rw [HNG.out]; rfl, hDe⟩, hBe⟩
  · go_enter Tryd.func46, Tryd.ntmps46
    go_wp2_with fail
    have r1 := ((Row.new w 45 #[.bool true, .slice a1 la c1]).alloc (.cells #[.bool false, .slice a2 lb c2] 45)).alloc (.cells #[.bool false, .slice none 0 0] 45)
    have r2 := (Row.new1 w (.cells #[.bool true, .slice a1 la c1] 45) 45 #[.bool false, .slice a2 lb c2]).alloc (.cells #[.bool false, .slice none 0 0] 45)
    have r3 : Row (((w.alloc (.cells #[.bool true, .slice a1 la c1] 45)).alloc (.cells #[.bool false, .slice a2 lb c2] 45)).alloc (.cells #[.bool false, .slice none 0 0] 45)) (w.heap.size + 1 + 1) 45 #[.bool false, .slice none 0 0] := by
      have := Row.new ((w.alloc (.cells #[.bool true, .slice a1 la c1] 45)).alloc (.cells #[.bool false, .slice a2 lb c2] 45)) 45 #[.bool false, .slice none 0 0]
      simpa using this
    have hB := (((Below.refl _ w).alloc (Nat.le_refl _) (.cells #[.bool true, .slice a1 la c1] 45)).alloc (by simp) (.cells #[.bool false, .slice a2 lb c2] 45)).alloc (by simp; omega) (.cells #[.bool false, .slice none 0 0] 45)
    generalize ((w.alloc (.cells #[.bool true, .slice a1 la c1] 45)).alloc (.cells #[.bool false, .slice a2 lb c2] 45)).alloc (.cells #[.bool false, .slice none 0 0] 45) = W at *
    obtain ⟨d0, d1⟩ := r1.duo
    obtain ⟨e0, e1⟩ := r2.duo
    have hz2 := r3.lt
    refine Calls.mono (HMO _ hB).out ?_
    rintro _ W2 ⟨rfl, hbW⟩
    have r1 := r1.below hbW r1.lt
    have r2 := r2.below hbW r2.lt
    have r3 := r3.below hbW r3.lt
    have hB := hB.trans (hbW.mono (by omega))
    have hz2 := r3.lt
    clear hbW d0 d1 e0 e1 HMO HSU
    obtain ⟨d0, d1⟩ := r1.duo
    obtain ⟨e0, e1⟩ := r2.duo
    obtain ⟨ci, hci⟩ : ∃ ci, cI (x.natAbs : Int) (y.natAbs : Int) = ci := ⟨_, rfl⟩
    rw [hci]
    by_cases hle : (y.natAbs : Int) ≤ x.natAbs
    · have g2 : (0 : Int) ≤ ci := by rw [← hci]; unfold cI; split <;> (try split) <;> omega
      have HL := HLS hle
      have HLE : Hid ((y.natAbs : Int) ≤ x.natAbs) := hle
      clear hci hle HLS HLT
      go_wp2_with fail
      have hS : Below W2.heap.size W2 W2.drew := (Below.refl _ W2).drew
      refine wp_region_M (fun wx : World => Below W2.heap.size W2 wx) (fun j => decide (j < 7)) 8 rfl (by kernel_rfl) ?_
      refine wpM_held 0 (v := ?_) rfl (by kernel_rfl) (by kernel_rfl) rfl (fun _ _ _ h => h) rfl (by intro wx hx; go_simp <;> rfl) hS ?_
      refine wpM_held 1 (v := .bool true) rfl (by kernel_rfl) (by kernel_rfl) rfl (fun _ _ _ h => h) rfl (by intro wx hx; obtain ⟨x0, x1⟩ := (r1.below hx r1.lt).duo; go_simp <;> rfl) hS ?_
      refine wpM_held 2 (v := .agg #[.bool true, .slice a1 la c1]) rfl (by kernel_rfl) (by kernel_rfl) rfl (fun _ _ _ h => h) rfl (by intro wx hx; obtain ⟨x0, x1⟩ := (r1.below hx r1.lt).duo; go_simp <;> rfl) hS ?_
      refine wpM_held 3 (v := .agg #[.bool false, .slice a2 lb c2]) rfl (by kernel_rfl) (by kernel_rfl) rfl (fun _ _ _ h => h) rfl (by intro wx hx; obtain ⟨x0, x1⟩ := (r2.below hx r2.lt).duo; go_simp <;> rfl) hS ?_
      refine wpM_one 4 rfl (by kernel_rfl) rfl ?_
      go_wp2_with fail
      refine Calls.mono (HL _ (hB.trans (hS.mono (by omega)))).out ?_
      rintro _ wa ⟨sv, ds, rfl, s1, s2, s3, s4, ba⟩
      have hS1 : Below W2.heap.size W2 wa := hS.trans (ba.mono hS.size)
      have HTR := HT true wa sv ds s1 s2 s4 (by unfold bval; rw [s3]; have h1 := HNA.out; have h2 := HNB.out; have h4 := HLE.out; simp at h1 h2 ⊢; omega)
      obtain ⟨_, a5, c5, rfl, _, _⟩ := id s1
      clear ba s1 s2 s3 s4 hS
      go_wp2_with fail
      refine ⟨fun _ => hS1, ?_⟩
      refine wpM_one 5 rfl (by kernel_rfl) rfl ?_
      go_wp2_with fail
      refine ⟨fun _ => hS1, ?_⟩
      refine wpM_one 6 rfl (by kernel_rfl) rfl ?_
      go_wp2_with fail
      refine Calls.mono HTR.out ?_
      rintro _ wb ⟨v2, rfl, hV2, bb⟩
      obtain ⟨s2, rfl, hD2⟩ := hV2
      have hW3 : Below W2.heap.size W2 wb := hS1.trans (bb.mono hS1.size)
      obtain ⟨_, a6, c6, rfl, _, _⟩ := id hD2
      clear bb HTR hS1
      unfold bv
      rw [HNG.out]
      go_wp2_with fail
      refine ⟨fun _ => hW3, ?_⟩
      have p2 := r3.below hW3 r3.lt
      obtain ⟨y0, y1⟩ := p2.duo
      have zf := p2.frozen
      refine wpM_one 7 rfl (by kernel_rfl) rfl ?_
      go_wp2_with fail
      refine ⟨fun h => by simp at h, ?_⟩
      refine wpM_done (by kernel_rfl) ?_
      have hBx := hB.trans (hW3.mono (by omega))
      have hBe := below_set (below_set hBx (B := w.heap.size + 1 + 1) 0 (.bool ng) (by omega)) (B := w.heap.size + 1 + 1) 1 (.slice a6 (digs (x + y).natAbs).length c6) (by omega)
      have hZe := Row.set2 p2 (.bool ng) (.slice a6 (digs (x + y).natAbs).length c6)
      have hDe := hD2.store p2 (.bool ng) (.slice a6 (digs (x + y).natAbs).length c6)
      go_wp2
      exact bodyPost_ret (ret_one rfl (g := w.heap.size + 1 + 1) rfl (load43 hZe rfl)) rfl ⟨_, rfl, ⟨_, by rw [HNG.out]; rfl, hDe⟩, hBe⟩
    · have g2 : decide ((0 : Int) ≤ ci) = false := by
        refine decide_eq_false ?_
        rw [← hci]; unfold cI; split <;> (try split) <;> omega
      have HL := HLT (by omega)
      have HLE : Hid (¬ (y.natAbs : Int) ≤ x.natAbs) := hle
      clear hci hle HLS HLT
      go_wp2_with fail
      have hS : Below W2.heap.size W2 W2.drew := (Below.refl _ W2).drew
      refine wp_region_M (fun wx : World => Below W2.heap.size W2 wx) (fun j => decide (j < 7)) 8 rfl (by kernel_rfl) ?_
      refine wpM_held 0 (v := ?_) rfl (by kernel_rfl) (by kernel_rfl) rfl (fun _ _ _ h => h) rfl (by intro wx hx; go_simp <;> rfl) hS ?_
      refine wpM_held 1 (v := .bool false) rfl (by kernel_rfl) (by kernel_rfl) rfl (fun _ _ _ h => h) rfl (by intro wx hx; obtain ⟨x0, x1⟩ := (r2.below hx r2.lt).duo; go_simp <;> rfl) hS ?_
      refine wpM_held 2 (v := .agg #[.bool false, .slice a2 lb c2]) rfl (by kernel_rfl) (by kernel_rfl) rfl (fun _ _ _ h => h) rfl (by intro wx hx; obtain ⟨x0, x1⟩ := (r2.below hx r2.lt).duo; go_simp <;> rfl) hS ?_
      refine wpM_held 3 (v := .agg #[.bool true, .slice a1 la c1]) rfl (by kernel_rfl) (by kernel_rfl) rfl (fun _ _ _ h => h) rfl (by intro wx hx; obtain ⟨x0, x1⟩ := (r1.below hx r1.lt).duo; go_simp <;> rfl) hS ?_
      refine wpM_one 4 rfl (by kernel_rfl) rfl ?_
      go_wp2_with fail
      refine Calls.mono (HL _ (hB.trans (hS.mono (by omega)))).out ?_
      rintro _ wa ⟨sv, ds, rfl, s1, s2, s3, s4, ba⟩
      rw [Nat.max_comm] at s4
      have hS1 : Below W2.heap.size W2 wa := hS.trans (ba.mono hS.size)
      have HTR := HT false wa sv ds s1 s2 s4 (by unfold bval; rw [s3]; have h1 := HNA.out; have h2 := HNB.out; have h4 := HLE.out; simp at h1 h2 ⊢; omega)
      obtain ⟨_, a5, c5, rfl, _, _⟩ := id s1
      clear ba s1 s2 s3 s4 hS
      go_wp2_with fail
      refine ⟨fun _ => hS1, ?_⟩
      refine wpM_one 5 rfl (by kernel_rfl) rfl ?_
      go_wp2_with fail
      refine ⟨fun _ => hS1, ?_⟩
      refine wpM_one 6 rfl (by kernel_rfl) rfl ?_
      go_wp2_with fail
      refine Calls.mono HTR.out ?_
      rintro _ wb ⟨v2, rfl, hV2, bb⟩
      obtain ⟨s2, rfl, hD2⟩ := hV2
      have hW3 : Below W2.heap.size W2 wb := hS1.trans (bb.mono hS1.size)
      obtain ⟨_, a6, c6, rfl, _, _⟩ := id hD2
      clear bb HTR hS1
      unfold bv
      rw [HNG.out]
      go_wp2_with fail
      refine ⟨fun _ => hW3, ?_⟩
      have p2 := r3.below hW3 r3.lt
      obtain ⟨y0, y1⟩ := p2.duo
      have zf := p2.frozen
      refine wpM_one 7 rfl (by kernel_rfl) rfl ?_
      go_wp2_with fail
      refine ⟨fun h => by simp at h, ?_⟩
      refine wpM_done (by kernel_rfl) ?_
      have hBx := hB.trans (hW3.mono (by omega))
      have hBe := below_set (below_set hBx (B := w.heap.size + 1 + 1) 0 (.bool ng) (by omega)) (B := w.heap.size + 1 + 1) 1 (.slice a6 (digs (x + y).natAbs).length c6) (by omega)
      have hZe := Row.set2 p2 (.bool ng) (.slice a6 (digs (x + y).natAbs).length c6)
      have hDe := hD2.store p2 (.bool ng) (.slice a6 (digs (x + y).natAbs).length c6)
      go_wp2
      exact bodyPost_ret (ret_one rfl (g := w.heap.size + 1 + 1) rfl (load43 hZe rfl)) rfl ⟨_, rfl, ⟨_, by rw [HNG.out]; rfl, hDe⟩, hBe⟩
  · go_enter Tryd.func46, Tryd.ntmps46
    go_wp2_with fail
    have r1 := ((Row.new w 45 #[.bool true, .slice a1 la c1]).alloc (.cells #[.bool true, .slice a2 lb c2] 45)).alloc (.cells #[.bool false, .slice none 0 0] 45)
    have r2 := (Row.new1 w (.cells #[.bool true, .slice a1 la c1] 45) 45 #[.bool true, .slice a2 lb c2]).alloc (.cells #[.bool false, .slice none 0 0] 45)
    have r3 : Row (((w.alloc (.cells #[.bool true, .slice a1 la c1] 45)).alloc (.cells #[.bool true, .slice a2 lb c2] 45)).alloc (.cells #[.bool false, .slice none 0 0] 45)) (w.heap.size + 1 + 1) 45 #[.bool false, .slice none 0 0] := by
      have := Row.new ((w.alloc (.cells #[.bool true, .slice a1 la c1] 45)).alloc (.cells #[.bool true, .slice a2 lb c2] 45)) 45 #[.bool false, .slice none 0 0]
      simpa using this
    have hB := (((Below.refl _ w).alloc (Nat.le_refl _) (.cells #[.bool true, .slice a1 la c1] 45)).alloc (by simp) (.cells #[.bool true, .slice a2 lb c2] 45)).alloc (by simp; omega) (.cells #[.bool false, .slice none 0 0] 45)
    generalize ((w.alloc (.cells #[.bool true, .slice a1 la c1] 45)).alloc (.cells #[.bool true, .slice a2 lb c2] 45)).alloc (.cells #[.bool false, .slice none 0 0] 45) = W at *
    obtain ⟨d0, d1⟩ := r1.duo
    obtain ⟨e0, e1⟩ := r2.duo
    have hz2 := r3.lt
    have hS : Below W.heap.size W W.drew := (Below.refl _ W).drew
    refine wp_region_M (fun wx : World => Below W.heap.size W wx) (fun j => decide (j < 7)) 8 rfl (by kernel_rfl) ?_
    refine wpM_held 0 (v := ?_) rfl (by kernel_rfl) (by kernel_rfl) rfl (fun _ _ _ h => h) rfl (by intro wx hx; go_simp <;> rfl) hS ?_
    refine wpM_held 1 (v := .bool true) rfl (by kernel_rfl) (by kernel_rfl) rfl (fun _ _ _ h => h) rfl (by intro wx hx; obtain ⟨x0, x1⟩ := (r1.below hx r1.lt).duo; go_simp <;> rfl) hS ?_
    refine wpM_held 2 (v := .agg #[.bool true, .slice a1 la c1]) rfl (by kernel_rfl) (by kernel_rfl) rfl (fun _ _ _ h => h) rfl (by intro wx hx; obtain ⟨x0, x1⟩ := (r1.below hx r1.lt).duo; go_simp <;> rfl) hS ?_
    refine wpM_held 3 (v := .agg #[.bool true, .slice a2 lb c2]) rfl (by kernel_rfl) (by kernel_rfl) rfl (fun _ _ _ h => h) rfl (by intro wx hx; obtain ⟨x0, x1⟩ := (r2.below hx r2.lt).duo; go_simp <;> rfl) hS ?_
    refine wpM_one 4 rfl (by kernel_rfl) rfl ?_
    go_wp2_with fail
    refine Calls.mono (HSU _ (hB.trans (hS.mono (by omega)))).out ?_
    rintro _ wa ⟨sv, ds, rfl, s1, s2, s3, s4, ba⟩
    have hS1 : Below W.heap.size W wa := hS.trans (ba.mono hS.size)
    have HTR := HT true wa sv ds s1 s2 s4 (by unfold bval; rw [s3]; have h1 := HNA.out; have h2 := HNB.out; simp at h1 h2 ⊢; omega)
    obtain ⟨_, a5, c5, rfl, _, _⟩ := id s1
    clear ba s1 s2 s3 s4 hS
    go_wp2_with fail
    refine ⟨fun _ => hS1, ?_⟩
    refine wpM_one 5 rfl (by kernel_rfl) rfl ?_
    go_wp2_with fail
    refine ⟨fun _ => hS1, ?_⟩
    refine wpM_one 6 rfl (by kernel_rfl) rfl ?_
    go_wp2_with fail
    refine Calls.mono HTR.out ?_
    rintro _ wb ⟨v2, rfl, hV2, bb⟩
    obtain ⟨s2, rfl, hD2⟩ := hV2
    have hW3 : Below W.heap.size W wb := hS1.trans (bb.mono hS1.size)
    obtain ⟨_, a6, c6, rfl, _, _⟩ := id hD2
    clear bb HTR hS1
    unfold bv
    rw [HNG.out]
    go_wp2_with fail
    refine ⟨fun _ => hW3, ?_⟩
    have p2 := r3.below hW3 r3.lt
    obtain ⟨y0, y1⟩ := p2.duo
    have zf := p2.frozen
    refine wpM_one 7 rfl (by kernel_rfl) rfl ?_
    go_wp2_with fail
    refine ⟨fun h => by simp at h, ?_⟩
    refine wpM_done (by kernel_rfl) ?_
    have hBx := hB.trans (hW3.mono (by omega))
    have hBe := below_set (below_set hBx (B := w.heap.size + 1 + 1) 0 (.bool ng) (by omega)) (B := w.heap.size + 1 + 1) 1 (.slice a6 (digs (x + y).natAbs).length c6) (by omega)
    have hZe := Row.set2 p2 (.bool ng) (.slice a6 (digs (x + y).natAbs).length c6)
    have hDe := hD2.store p2 (.bool ng) (.slice a6 (digs (x + y).natAbs).length c6)
    go_wp2
    exact bodyPost_ret (ret_one rfl (g := w.heap.size + 1 + 1) rfl (load43 hZe rfl)) rfl ⟨_, rfl, ⟨_, by rw [HNG.out]; rfl, hDe⟩, hBe⟩
end Go.Proofs.YtfbhonjndepjbaaDoor
