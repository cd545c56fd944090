import Derived.Test.YtfbhonjndepjbaaDoorRte
/- Tell of any number; num: a Dec's number. -/
namespace Go.Proofs.YtfbhonjndepjbaaDoor
open Go.RowKit

set_option maxRecDepth 100000 in
set_option maxHeartbeats 1000000 in
theorem tell_nought (z e : Int) (sv : Value) (w : World) (hz : z = 0) (hD : DgAt w sv (digs z.natAbs)) :
    Calls Tryd.prog 45 #[.agg #[.bool (decide (z < 0)), sv, .int .i64 e]] w fun r w' => r = .returned (.tuple #[.agg #[.int .i64 0, .int .i64 0], .int .i64 0]) ∧ Below w.heap.size w w' := by
  obtain ⟨ng, HNG⟩ : ∃ ng, Hid (decide (z < 0) = ng) := ⟨_, rfl⟩
  rw [HNG.out]
  obtain ⟨_, a, c, rfl, _, _⟩ := id hD
  obtain ⟨L, HL⟩ : ∃ L, Hid ((digs z.natAbs).length = L) := ⟨_, rfl⟩
  obtain rfl : L = 0 := by rw [← HL.out, hz]; exact congrArg List.length digs_zero
  rw [HL.out] at hD
  rw [HL.out]
  have HD : Hid (DgAt w (.slice a 0 c) (digs z.natAbs)) := hD
  clear hD
  go_enter Tryd.func45, Tryd.ntmps45
  go_wp2_with fail
  have r0 := (Row.new w 47 #[.bool ng, .slice a 0 c, .int .i64 e]).alloc (.cells #[.int .i64 0, .int .i64 0] 23)
  have r1 := Row.new1 w (.cells #[.bool ng, .slice a 0 c, .int .i64 e] 47) 23 #[.int .i64 0, .int .i64 0]
  have hB := ((Below.refl _ w).alloc (Nat.le_refl _) (.cells #[.bool ng, .slice a 0 c, .int .i64 e] 47)).alloc (by simp) (.cells #[.int .i64 0, .int .i64 0] 23)
  have hWs : ((w.alloc (.cells #[.bool ng, .slice a 0 c, .int .i64 e] 47)).alloc (.cells #[.int .i64 0, .int .i64 0] 23)).heap.size = w.heap.size + 2 := by simp
  generalize (w.alloc (.cells #[.bool ng, .slice a 0 c, .int .i64 e] 47)).alloc (.cells #[.int .i64 0, .int .i64 0] 23) = W at *
  have HWs : Hid (W.heap.size = w.heap.size + 2) := hWs
  clear hWs
  have hS : Below W.heap.size W W.drew := (Below.refl _ W).drew
  have tri : ∀ wx, Below W.heap.size W wx → wx.cell? ⟨w.heap.size, 0, none⟩ = some (.bool ng) ∧ wx.cell? ⟨w.heap.size, 1, none⟩ = some (.slice a 0 c) ∧ wx.cell? ⟨w.heap.size, 2, none⟩ = some (.int .i64 e) := fun wx hx =>
    ⟨(r0.below hx r0.lt).cell rfl, (r0.below hx r0.lt).cell rfl, (r0.below hx r0.lt).cell rfl⟩
  refine wp_region_M (fun wx : World => Below W.heap.size W wx) (fun j => decide (j < 7)) 7 rfl (by kernel_rfl) ?_
  refine wpM_held 0 (v := ?_) rfl (by kernel_rfl) (by kernel_rfl) rfl (fun _ _ _ h => h) rfl (by intro wx hx; go_simp <;> rfl) hS ?_
  refine wpM_held 1 (v := .agg #[.bool ng, .slice a 0 c]) rfl (by kernel_rfl) (by kernel_rfl) rfl (fun _ _ _ h => h) rfl (by intro wx hx; obtain ⟨x0, x1, x2⟩ := tri wx hx; go_simp <;> rfl) hS ?_
  refine wpM_held 2 (v := ?_) rfl (by kernel_rfl) (by kernel_rfl) rfl (fun _ _ _ h => h) rfl (by intro wx hx; go_simp <;> rfl) hS ?_
  refine wpM_held 3 (v := .int .i64 e) rfl (by kernel_rfl) (by kernel_rfl) rfl (fun _ _ _ h => h) rfl (by intro wx hx; obtain ⟨x0, x1, x2⟩ := tri wx hx; go_simp <;> rfl) hS ?_
  refine wpM_one 4 rfl (by kernel_rfl) rfl ?_
  go_wp2_with fail
  have hW1 : ∀ o, Below W.heap.size W (W.alloc o).drew := fun o => ((Below.refl _ W).alloc (Nat.le_refl _) o).drew
  refine ⟨fun _ => hW1 _, ?_⟩
  refine wpM_one 5 rfl (by kernel_rfl) rfl ?_
  go_wp2_with fail
  refine ⟨fun _ => hW1 _, ?_⟩
  refine wpM_one 6 rfl (by kernel_rfl) rfl ?_
  go_wp2_with fail
  refine ⟨fun _ => hW1 _, ?_⟩
  refine wpM_done (by kernel_rfl) ?_
  have hT : TlAt w W.heap.size z (.slice a 0 c) (W.alloc (.cells #[.bool ng, .slice a 0 c] 45)).drew := by
    have hx := hW1 (.cells #[.bool ng, .slice a 0 c] 45)
    refine ⟨r1.below hx r1.lt, ?_, (HD.out.below hB).below hx, hB.trans (hx.mono (by have := HWs.out; omega))⟩
    rw [HNG.out]
    exact Row.new W 45 _
  generalize (W.alloc (.cells #[.bool ng, .slice a 0 c] 45)).drew = W2 at *
  clear r0 r1 hB hS tri HD hW1
  have hK : w.heap.size + 1 < W.heap.size := by have := HWs.out; omega
  clear HWs
  generalize W.heap.size = K at *
  clear W
  have hbig := hT.big
  rw [HNG.out] at hbig
  obtain ⟨d0, d1⟩ := hbig.duo
  obtain ⟨f0, f1⟩ := hT.res.duo
  have ff := hT.res.frozen
  have hlt1 := hT.res.lt
  have hZe := Row.set2 hT.res (.int .i64 0) (.int .i64 0)
  have hBe := below_set (below_set hT.below (B := w.heap.size + 1) 0 (.int .i64 0) (by omega)) (B := w.heap.size + 1) 1 (.int .i64 0) (by omega)
  go_wp2
  exact bodyPost_ret (ret_two rfl (g := w.heap.size + 1) rfl rfl (load23 hZe rfl)) rfl ⟨rfl, hBe⟩
/-- A Num: a whole number times ten to the e. -/
def NumV (w : World) (z e : Int) (v : Value) : Prop := ∃ sv, v = .agg #[.bool (decide (z < 0)), sv, .int .i64 e] ∧ DgAt w sv (digs z.natAbs)
theorem told_any' (z e : Int) (v : Value) (w : World) (hV : NumV w z e v) (he1 : -2000 ≤ e) (he2 : e ≤ 2000) (hl : (digs z.natAbs).length ≤ 500) :
    Calls Tryd.prog 45 #[v] w fun r w' => r = .returned (decV (tell z e)) ∧ Below w.heap.size w w' := by
  obtain ⟨sv, rfl, hD⟩ := hV
  by_cases hz : z = 0
  · rw [show tell z e = some (0, 0) by rw [hz]; simp [tell, tellW_zero]]
    exact tell_nought z e sv w hz hD
  · exact tell_head z e sv w hz hD _ rfl he1 he2 hl
section
variable {P : Program} {ops : Array Oper} {Q : Exit → Act → World → Prop} {S : World → Prop} {E : Nat → Bool}
/-- An operation whose guard says no, held beside others. -/
theorem wpM_skiph (i : Nat) {o : Oper} {listed listed' : Array Bool} {fuel : Nat} {a : Act} {w : World} (ho : ops[i]? = some o) (hs : Region.noSelect ops = true)
    (hB : (closedB .any ops listed && Region.free .any ops listed i && (Region.ready .any ops listed).contains i && lateB .any ops E listed i) = true) (hL : listed.setIfInBounds i true = listed')
    (hQ : ∀ c a w, Q (.panic c) (a.put o.dst undef) w → Q (.panic c) a w) (hw : Region.wanted o (yielded ops a.tmps) = false) (hS : S w)
    (h : wpM P ops Q S E fuel listed' (a.put o.dst undef) w) : wpM P ops Q S E (fuel + 1) listed a w := by
  subst hL
  simp only [Bool.and_eq_true] at hB
  refine wpX_first ho (Region.noSelect_spec hs) hQ _ _ a w (closed_of_B hB.1.1.1) ?_ (Region.free_spec ho hB.1.1.2) (by simpa using hB.1.2) (.inr ⟨hw, rfl⟩) hS h
  intro j oj hj hl hE hji
  have := List.all_eq_true.1 hB.2 j (List.mem_range.2 (Array.getElem?_eq_some_iff.1 hj).1)
  simpa [hE, hl, hji] using this
end
theorem Tryd.zero45 : (Tryd.prog.info? 47).map (fun i => (i.zero, i.size)) = some (some (.agg #[.bool false, .slice none 0 0, .int .i64 0]), 3) := by kernel_rfl
theorem load45 {W : World} {B : Nat} {cs : Array Value} (h : Row W B 47 cs) (hs : cs.size = 3) : (loadVar 47 ⟨B, 0, none⟩).run Tryd.prog W = .ok (.agg cs) W :=
  run_loadVar_row _ _ 47 47 cs (0, 0) _ h Tryd.underlying47 rfl (by rw [hs]; exact (zero_of_info Tryd.zero45).2)
/-- A block below the digits is written. -/
theorem DgAt.off {W : World} {sv : Value} {ds : List Int} (h : DgAt W sv ds) {B : Nat} (hN : NewS (B + 1) sv) (i : Nat) (u : Value) : DgAt (W.setCell ⟨B, i, none⟩ u) sv ds := by
  refine ⟨?_, h.2⟩
  have hk := (Kept.refl (fun k => k ≠ B) W).setCell (p := ⟨B, i, none⟩) (by simp) u
  rcases h.1 with h0 | ⟨b, off, c, e, hb, hc⟩
  · exact .inl h0
  · by_cases h0 : ds = []
    · subst h0; exact .inl ⟨rfl, _, _, e⟩
    · have hl : 0 < ds.length := List.length_pos_iff.2 h0
      have hne : b ≠ B := by have := hN b off none ds.length c e hl; omega
      exact .inr ⟨b, off, c, e, Nat.lt_of_lt_of_le hb hk.size, fun j hj => (hk.cell (p := ⟨b, off + j, none⟩) hne).trans (hc j hj)⟩
end Go.Proofs.YtfbhonjndepjbaaDoor
/- num: a Dec's number. -/
namespace Go.Proofs.YtfbhonjndepjbaaDoor
open Go.RowKit

set_option maxRecDepth 100000 in
set_option maxHeartbeats 1000000 in
theorem num_any (c e : Int) (hc : I64 c) (w : World) : Calls Tryd.prog 53 #[.agg #[.int .i64 c, .int .i64 e]] w fun r w' => ∃ sv, r = .returned (.tuple #[.agg #[.bool (decide (c < 0)), sv, .int .i64 e], .bool (decide (-18 ≤ e ∧ e ≤ 18))]) ∧ DgAt w' sv (digs c.natAbs) ∧ NewS w.heap.size sv ∧ Below w.heap.size w w' := by
  have HO : ∀ W, Hid (Calls Tryd.prog 64 #[.int .i64 c] W fun r w' => ∃ v, r = .returned v ∧ BigV w' c v ∧ NewV W.heap.size v ∧ Below W.heap.size W w') := fun W => of_new c hc W
  obtain ⟨ok, HOK⟩ : ∃ ok, Hid (decide (-18 ≤ e ∧ e ≤ 18) = ok) := ⟨_, rfl⟩
  rw [HOK.out]
  have hcase : (decide (-18 ≤ e) = true ∧ Hid (decide (e ≤ 18) = ok)) ∨ (decide (-18 ≤ e) = false ∧ Hid (false = ok)) := by
    by_cases h : -18 ≤ e
    · exact .inl ⟨decide_eq_true h, by show _ = _; rw [← HOK.out]; simp [h]⟩
    · exact .inr ⟨decide_eq_false h, by show _ = _; rw [← HOK.out]; simp [h]⟩
  rcases hcase with ⟨g1, HO2⟩ | ⟨g1, HO2⟩
  · go_enter Tryd.func53, Tryd.ntmps53
    go_wp2_with fail
    have r0 := (Row.new w 23 #[.int .i64 c, .int .i64 e]).alloc (.cells #[.bool false, .slice none 0 0, .int .i64 0] 47)
    have r1 := Row.new1 w (.cells #[.int .i64 c, .int .i64 e] 23) 47 #[.bool false, .slice none 0 0, .int .i64 0]
    have hB := ((Below.refl _ w).alloc (Nat.le_refl _) (.cells #[.int .i64 c, .int .i64 e] 23)).alloc (by simp) (.cells #[.bool false, .slice none 0 0, .int .i64 0] 47)
    have hWs : w.heap.size + 2 ≤ ((w.alloc (.cells #[.int .i64 c, .int .i64 e] 23)).alloc (.cells #[.bool false, .slice none 0 0, .int .i64 0] 47)).heap.size := by simp
    generalize (w.alloc (.cells #[.int .i64 c, .int .i64 e] 23)).alloc (.cells #[.bool false, .slice none 0 0, .int .i64 0] 47) = W at *
    have hD0 : Below W.heap.size W W.drew := (Below.refl _ W).drew
    have hS : Row W.drew w.heap.size 23 #[.int .i64 c, .int .i64 e] := r0.below hD0 r0.lt
    refine wp_region_M (fun wx : World => Row wx w.heap.size 23 #[.int .i64 c, .int .i64 e]) (fun j => decide (j < 15)) 16 rfl (by kernel_rfl) ?_
    refine wpM_held 0 (v := ?_) rfl (by kernel_rfl) (by kernel_rfl) rfl (fun _ _ _ h => h) rfl (by intro wx hx; go_simp <;> rfl) hS ?_
    refine wpM_held 1 (v := .int .i64 c) rfl (by kernel_rfl) (by kernel_rfl) rfl (fun _ _ _ h => h) rfl (by intro wx hx; obtain ⟨x0, x1⟩ := hx.duo; go_simp <;> rfl) hS ?_
    refine wpM_held 3 (v := ?_) rfl (by kernel_rfl) (by kernel_rfl) rfl (fun _ _ _ h => h) rfl (by intro wx hx; go_simp <;> rfl) hS ?_
    refine wpM_held 4 (v := .int .i64 e) rfl (by kernel_rfl) (by kernel_rfl) rfl (fun _ _ _ h => h) rfl (by intro wx hx; obtain ⟨x0, x1⟩ := hx.duo; go_simp <;> rfl) hS ?_
    refine wpM_held 6 (v := ?_) rfl (by kernel_rfl) (by kernel_rfl) rfl (fun _ _ _ h => h) rfl (by intro wx hx; go_simp <;> rfl) hS ?_
    refine wpM_held 7 (v := .int .i64 e) rfl (by kernel_rfl) (by kernel_rfl) rfl (fun _ _ _ h => h) rfl (by intro wx hx; obtain ⟨x0, x1⟩ := hx.duo; go_simp <;> rfl) hS ?_
    refine wpM_held 8 (v := .bool true) rfl (by kernel_rfl) (by kernel_rfl) rfl (fun _ _ _ h => h) rfl (by intro wx hx; go_simp <;> rfl) hS ?_
    refine wpM_one 2 rfl (by kernel_rfl) rfl ?_
    go_wp2_with fail
    refine Calls.mono (HO _).out ?_
    rintro _ w1 ⟨v1, rfl, hV1, hN1, b1⟩
    obtain ⟨s1, rfl, hD1⟩ := hV1
    have hN1 := hN1.get
    obtain ⟨_, a6, c6, rfl, _, _⟩ := id hD1
    have hW1 : Below W.heap.size W w1 := hD0.trans (b1.mono hD0.size)
    have hS1 : Row w1 w.heap.size 23 #[.int .i64 c, .int .i64 e] := r0.below hW1 r0.lt
    clear b1 HO
    unfold bv
    obtain ⟨ng, hng⟩ : ∃ ng, decide (c < 0) = ng := ⟨_, rfl⟩
    have HNG : Hid (decide (c < 0) = ng) := hng
    rw [hng]
    clear hng
    obtain ⟨ln, hln⟩ : ∃ ln, (digs c.natAbs).length = ln := ⟨_, rfl⟩
    rw [hln] at hD1 hN1
    rw [hln]
    clear hln
    go_wp2_with fail
    refine ⟨fun _ => hS1, ?_⟩
    refine wpM_held 5 (v := .agg #[.bool ng, .slice a6 ln c6, .int .i64 e]) rfl (by kernel_rfl) (by kernel_rfl) rfl (fun _ _ _ h => h) rfl (by intro wx hx; go_simp <;> rfl) hS1 ?_
    refine wpM_held 9 (v := .bool true) rfl (by kernel_rfl) (by kernel_rfl) rfl (fun _ _ _ h => h) rfl (by intro wx hx; go_simp <;> rfl) hS1 ?_
    refine wpM_held 10 (v := ?_) rfl (by kernel_rfl) (by kernel_rfl) rfl (fun _ _ _ h => h) rfl (by intro wx hx; go_simp <;> rfl) hS1 ?_
    refine wpM_held 11 (v := .int .i64 e) rfl (by kernel_rfl) (by kernel_rfl) rfl (fun _ _ _ h => h) rfl (by intro wx hx; obtain ⟨x0, x1⟩ := hx.duo; go_simp <;> rfl) hS1 ?_
    refine wpM_held 12 (v := .bool (decide (e ≤ 18))) rfl (by kernel_rfl) (by kernel_rfl) rfl (fun _ _ _ h => h) rfl (by intro wx hx; go_simp <;> rfl) hS1 ?_
    refine wpM_held 13 (v := .bool (decide (e ≤ 18))) rfl (by kernel_rfl) (by kernel_rfl) rfl (fun _ _ _ h => h) rfl (by intro wx hx; go_simp <;> rfl) hS1 ?_
    have p2 := r1.below hW1 r1.lt
    have y0 := p2.cell (i := 0) (v := .bool false) rfl
    have y1 := p2.cell (i := 1) (v := .slice none 0 0) rfl
    have y2 := p2.cell (i := 2) (v := .int .i64 0) rfl
    have zf := p2.frozen
    have hBx := hB.trans (hW1.mono (by omega))
    have hNB : NewS (w.heap.size + 1 + 1) (.slice a6 ln c6) := hN1.mono (by have : W.heap.size ≤ W.drew.heap.size := Nat.le_refl _; omega)
    have hBe := below_set (below_set (below_set hBx (B := w.heap.size + 1) 0 (.bool ng) (by omega)) (B := w.heap.size + 1) 1 (.slice a6 ln c6) (by omega)) (B := w.heap.size + 1) 2 (.int .i64 e) (by omega)
    have hZe : Row (((w1.setCell ⟨w.heap.size + 1, 0, none⟩ (.bool ng)).setCell ⟨w.heap.size + 1, 1, none⟩ (.slice a6 ln c6)).setCell ⟨w.heap.size + 1, 2, none⟩ (.int .i64 e)) (w.heap.size + 1) 47 #[.bool ng, .slice a6 ln c6, .int .i64 e] := ((p2.set 0 (.bool ng)).set 1 (.slice a6 ln c6)).set 2 (.int .i64 e)
    have hSe : Row (((w1.setCell ⟨w.heap.size + 1, 0, none⟩ (.bool ng)).setCell ⟨w.heap.size + 1, 1, none⟩ (.slice a6 ln c6)).setCell ⟨w.heap.size + 1, 2, none⟩ (.int .i64 e)) w.heap.size 23 #[.int .i64 c, .int .i64 e] := ((hS1.off 0 (.bool ng) (by omega)).off 1 (.slice a6 ln c6) (by omega)).off 2 (.int .i64 e) (by omega)
    have hDe := ((hD1.off hNB 0 (.bool ng)).off hNB 1 (.slice a6 ln c6)).off hNB 2 (.int .i64 e)
    refine wpM_one 14 rfl (by kernel_rfl) rfl ?_
    go_wp2_with fail
    refine ⟨fun _ => hSe, ?_⟩
    refine wpM_one 15 rfl (by kernel_rfl) rfl ?_
    go_wp2_with fail
    refine ⟨fun h => by simp at h, ?_⟩
    refine wpM_done (by kernel_rfl) ?_
    go_wp2
    exact bodyPost_ret (ret_two rfl (g := w.heap.size + 1) rfl rfl (load45 hZe rfl)) rfl ⟨_, by rw [HNG.out, ← HO2.out]; rfl, hDe, hNB.mono (by omega), hBe⟩
  · go_enter Tryd.func53, Tryd.ntmps53
    go_wp2_with fail
    have r0 := (Row.new w 23 #[.int .i64 c, .int .i64 e]).alloc (.cells #[.bool false, .slice none 0 0, .int .i64 0] 47)
    have r1 := Row.new1 w (.cells #[.int .i64 c, .int .i64 e] 23) 47 #[.bool false, .slice none 0 0, .int .i64 0]
    have hB := ((Below.refl _ w).alloc (Nat.le_refl _) (.cells #[.int .i64 c, .int .i64 e] 23)).alloc (by simp) (.cells #[.bool false, .slice none 0 0, .int .i64 0] 47)
    have hWs : w.heap.size + 2 ≤ ((w.alloc (.cells #[.int .i64 c, .int .i64 e] 23)).alloc (.cells #[.bool false, .slice none 0 0, .int .i64 0] 47)).heap.size := by simp
    generalize (w.alloc (.cells #[.int .i64 c, .int .i64 e] 23)).alloc (.cells #[.bool false, .slice none 0 0, .int .i64 0] 47) = W at *
    have hD0 : Below W.heap.size W W.drew := (Below.refl _ W).drew
    have hS : Row W.drew w.heap.size 23 #[.int .i64 c, .int .i64 e] := r0.below hD0 r0.lt
    refine wp_region_M (fun wx : World => Row wx w.heap.size 23 #[.int .i64 c, .int .i64 e]) (fun j => decide (j < 15)) 16 rfl (by kernel_rfl) ?_
    refine wpM_held 0 (v := ?_) rfl (by kernel_rfl) (by kernel_rfl) rfl (fun _ _ _ h => h) rfl (by intro wx hx; go_simp <;> rfl) hS ?_
    refine wpM_held 1 (v := .int .i64 c) rfl (by kernel_rfl) (by kernel_rfl) rfl (fun _ _ _ h => h) rfl (by intro wx hx; obtain ⟨x0, x1⟩ := hx.duo; go_simp <;> rfl) hS ?_
    refine wpM_held 3 (v := ?_) rfl (by kernel_rfl) (by kernel_rfl) rfl (fun _ _ _ h => h) rfl (by intro wx hx; go_simp <;> rfl) hS ?_
    refine wpM_held 4 (v := .int .i64 e) rfl (by kernel_rfl) (by kernel_rfl) rfl (fun _ _ _ h => h) rfl (by intro wx hx; obtain ⟨x0, x1⟩ := hx.duo; go_simp <;> rfl) hS ?_
    refine wpM_held 6 (v := ?_) rfl (by kernel_rfl) (by kernel_rfl) rfl (fun _ _ _ h => h) rfl (by intro wx hx; go_simp <;> rfl) hS ?_
    refine wpM_held 7 (v := .int .i64 e) rfl (by kernel_rfl) (by kernel_rfl) rfl (fun _ _ _ h => h) rfl (by intro wx hx; obtain ⟨x0, x1⟩ := hx.duo; go_simp <;> rfl) hS ?_
    refine wpM_held 8 (v := .bool false) rfl (by kernel_rfl) (by kernel_rfl) rfl (fun _ _ _ h => h) rfl (by intro wx hx; go_simp <;> rfl) hS ?_
    refine wpM_one 2 rfl (by kernel_rfl) rfl ?_
    go_wp2_with fail
    refine Calls.mono (HO _).out ?_
    rintro _ w1 ⟨v1, rfl, hV1, hN1, b1⟩
    obtain ⟨s1, rfl, hD1⟩ := hV1
    have hN1 := hN1.get
    obtain ⟨_, a6, c6, rfl, _, _⟩ := id hD1
    have hW1 : Below W.heap.size W w1 := hD0.trans (b1.mono hD0.size)
    have hS1 : Row w1 w.heap.size 23 #[.int .i64 c, .int .i64 e] := r0.below hW1 r0.lt
    clear b1 HO
    unfold bv
    obtain ⟨ng, hng⟩ : ∃ ng, decide (c < 0) = ng := ⟨_, rfl⟩
    have HNG : Hid (decide (c < 0) = ng) := hng
    rw [hng]
    clear hng
    obtain ⟨ln, hln⟩ : ∃ ln, (digs c.natAbs).length = ln := ⟨_, rfl⟩
    rw [hln] at hD1 hN1
    rw [hln]
    clear hln
    go_wp2_with fail
    refine ⟨fun _ => hS1, ?_⟩
    refine wpM_held 5 (v := .agg #[.bool ng, .slice a6 ln c6, .int .i64 e]) rfl (by kernel_rfl) (by kernel_rfl) rfl (fun _ _ _ h => h) rfl (by intro wx hx; go_simp <;> rfl) hS1 ?_
    refine wpM_held 9 (v := .bool false) rfl (by kernel_rfl) (by kernel_rfl) rfl (fun _ _ _ h => h) rfl (by intro wx hx; go_simp <;> rfl) hS1 ?_
    refine wpM_skiph 10 rfl (by kernel_rfl) (by kernel_rfl) rfl (fun _ _ _ h => h) rfl hS1 ?_
    refine wpM_skiph 11 rfl (by kernel_rfl) (by kernel_rfl) rfl (fun _ _ _ h => h) rfl hS1 ?_
    refine wpM_skiph 12 rfl (by kernel_rfl) (by kernel_rfl) rfl (fun _ _ _ h => h) rfl hS1 ?_
    refine wpM_held 13 (v := .bool false) rfl (by kernel_rfl) (by kernel_rfl) rfl (fun _ _ _ h => h) rfl (by intro wx hx; go_simp <;> rfl) hS1 ?_
    have p2 := r1.below hW1 r1.lt
    have y0 := p2.cell (i := 0) (v := .bool false) rfl
    have y1 := p2.cell (i := 1) (v := .slice none 0 0) rfl
    have y2 := p2.cell (i := 2) (v := .int .i64 0) rfl
    have zf := p2.frozen
    have hBx := hB.trans (hW1.mono (by omega))
    have hNB : NewS (w.heap.size + 1 + 1) (.slice a6 ln c6) := hN1.mono (by have : W.heap.size ≤ W.drew.heap.size := Nat.le_refl _; omega)
    have hBe := below_set (below_set (below_set hBx (B := w.heap.size + 1) 0 (.bool ng) (by omega)) (B := w.heap.size + 1) 1 (.slice a6 ln c6) (by omega)) (B := w.heap.size + 1) 2 (.int .i64 e) (by omega)
    have hZe : Row (((w1.setCell ⟨w.heap.size + 1, 0, none⟩ (.bool ng)).setCell ⟨w.heap.size + 1, 1, none⟩ (.slice a6 ln c6)).setCell ⟨w.heap.size + 1, 2, none⟩ (.int .i64 e)) (w.heap.size + 1) 47 #[.bool ng, .slice a6 ln c6, .int .i64 e] := ((p2.set 0 (.bool ng)).set 1 (.slice a6 ln c6)).set 2 (.int .i64 e)
    have hSe : Row (((w1.setCell ⟨w.heap.size + 1, 0, none⟩ (.bool ng)).setCell ⟨w.heap.size + 1, 1, none⟩ (.slice a6 ln c6)).setCell ⟨w.heap.size + 1, 2, none⟩ (.int .i64 e)) w.heap.size 23 #[.int .i64 c, .int .i64 e] := ((hS1.off 0 (.bool ng) (by omega)).off 1 (.slice a6 ln c6) (by omega)).off 2 (.int .i64 e) (by omega)
    have hDe := ((hD1.off hNB 0 (.bool ng)).off hNB 1 (.slice a6 ln c6)).off hNB 2 (.int .i64 e)
    refine wpM_one 14 rfl (by kernel_rfl) rfl ?_
    go_wp2_with fail
    refine ⟨fun _ => hSe, ?_⟩
    refine wpM_one 15 rfl (by kernel_rfl) rfl ?_
    go_wp2_with fail
    refine ⟨fun h => by simp at h, ?_⟩
    refine wpM_done (by kernel_rfl) ?_
    go_wp2
    exact bodyPost_ret (ret_two rfl (g := w.heap.size + 1) rfl rfl (load45 hZe rfl)) rfl ⟨_, by rw [HNG.out, ← HO2.out]; rfl, hDe, hNB.mono (by omega), hBe⟩
end Go.Proofs.YtfbhonjndepjbaaDoor
/- two: two Decs with one exponent. -/
namespace Go.Proofs.YtfbhonjndepjbaaDoor
open Go.RowKit

/-- Digits that don't lie in the block K. -/
def NeS (K : Nat) (sv : Value) : Prop := ∀ b off sp n c, sv = .slice (some ⟨b, off, sp⟩) n c → 0 < n → b ≠ K
theorem NewS.ne {lo K : Nat} {sv : Value} (h : NewS lo sv) (hK : K < lo) : NeS K sv := fun b off sp n c e hn => by have := h b off sp n c e hn; omega
theorem DgAt.ne {W : World} {sv : Value} {ds : List Int} (h : DgAt W sv ds) {K : Nat} (hK : W.heap.size ≤ K) : NeS K sv := by
  intro b off sp n c e hn
  rcases h.1 with ⟨rfl, a, c', e'⟩ | ⟨b', off', c', e', hb, _⟩
  · rw [e'] at e
    simp only [Value.slice.injEq] at e
    omega
  · rw [e'] at e
    simp only [Value.slice.injEq, Option.some.injEq, Addr.mk.injEq] at e
    obtain ⟨⟨rfl, _⟩, _⟩ := e
    have : b' < W.heap.size := hb
    omega
theorem DgAt.offN {W : World} {sv : Value} {ds : List Int} (h : DgAt W sv ds) {B : Nat} (hN : NeS B sv) (i : Nat) (u : Value) : DgAt (W.setCell ⟨B, i, none⟩ u) sv ds := by
  refine ⟨?_, h.2⟩
  have hk := (Kept.refl (fun k => k ≠ B) W).setCell (p := ⟨B, i, none⟩) (by simp) u
  rcases h.1 with h0 | ⟨b, off, c, e, hb, hc⟩
  · exact .inl h0
  · by_cases h0 : ds = []
    · subst h0; exact .inl ⟨rfl, _, _, e⟩
    · have hl : 0 < ds.length := List.length_pos_iff.2 h0
      exact .inr ⟨b, off, c, e, Nat.lt_of_lt_of_le hb hk.size, fun j hj => (hk.cell (p := ⟨b, off + j, none⟩) (hN b off none ds.length c e hl)).trans (hc j hj)⟩
def numC (z e : Int) (sv : Value) : Array Value := #[.bool (decide (z < 0)), sv, .int .i64 e]
def zeroC : Array Value := #[.bool false, .slice none 0 0, .int .i64 0]
/-- The boxes of two. -/
structure TwAt (w : World) (X Y : Nat) (x e y f : Int) (sx sy : Value) (wr : World) : Prop where
  res1 : Row wr (w.heap.size + 2) 47 zeroC
  res2 : Row wr (w.heap.size + 3) 47 zeroC
  bx : Row wr X 47 (numC x e sx)
  byy : Row wr Y 47 (numC y f sy)
  dx : DgAt wr sx (digs x.natAbs)
  dy : DgAt wr sy (digs y.natAbs)
  nx : ∀ K, (K = w.heap.size + 2 ∨ K = w.heap.size + 3 ∨ K = X ∨ K = Y) → NeS K sx
  ny : ∀ K, (K = w.heap.size + 2 ∨ K = w.heap.size + 3 ∨ K = X ∨ K = Y) → NeS K sy
  below : Below w.heap.size w wr
theorem TwAt.mono {w wr wx : World} {X Y : Nat} {x e y f : Int} {sx sy : Value} (h : TwAt w X Y x e y f sx sy wr) (hb : Below wr.heap.size wr wx) : TwAt w X Y x e y f sx sy wx :=
  ⟨h.res1.below hb h.res1.lt, h.res2.below hb h.res2.lt, h.bx.below hb h.bx.lt, h.byy.below hb h.byy.lt, h.dx.below hb, h.dy.below hb, h.nx, h.ny, h.below.trans (hb.mono h.below.size)⟩
theorem Row.set3N {W : World} {B : Nat} {t : TypeId} {a b c : Value} (h : Row W B t #[a, b, c]) (a' b' c' : Value) :
    Row (((W.setCell ⟨B, 0, none⟩ a').setCell ⟨B, 1, none⟩ b').setCell ⟨B, 2, none⟩ c') B t #[a', b', c'] := ((h.set 0 a').set 1 b').set 2 c'
def set3 (W : World) (B : Nat) (a b c : Value) : World := ((W.setCell ⟨B, 0, none⟩ a).setCell ⟨B, 1, none⟩ b).setCell ⟨B, 2, none⟩ c
theorem TwAt.putX {w wr wx : World} {X Y : Nat} {x e y f x' e' : Int} {sx sy sx' : Value} (h : TwAt w X Y x e y f sx sy wr) (hXY : X ≠ Y) (hX : w.heap.size + 3 < X) (hb : Below wr.heap.size wr wx) (hD : DgAt wx sx' (digs x'.natAbs)) (hN : NewS wr.heap.size sx') (ng : Bool) (hng : decide (x' < 0) = ng) :
    TwAt w X Y x' e' y f sx' sy (set3 wx X (.bool ng) sx' (.int .i64 e')) := by
  have h2 := h.mono hb
  have l1 := h.res1.lt
  have l2 := h.res2.lt
  have l3 := h.bx.lt
  have l4 := h.byy.lt
  have hNe : ∀ K, (K = w.heap.size + 2 ∨ K = w.heap.size + 3 ∨ K = X ∨ K = Y) → NeS K sx' := fun K hK => hN.ne (by omega)
  unfold set3
  refine ⟨((h2.res1.off 0 _ (by omega)).off 1 _ (by omega)).off 2 _ (by omega), ((h2.res2.off 0 _ (by omega)).off 1 _ (by omega)).off 2 _ (by omega), ?_, ((h2.byy.off 0 _ (by omega)).off 1 _ (by omega)).off 2 _ (by omega),
    ((hD.offN (hNe X (by omega)) 0 _).offN (hNe X (by omega)) 1 _).offN (hNe X (by omega)) 2 _, ((h2.dy.offN (h2.ny X (by omega)) 0 _).offN (h2.ny X (by omega)) 1 _).offN (h2.ny X (by omega)) 2 _, hNe, h2.ny,
    below_set (below_set (below_set h2.below 0 _ (by omega)) 1 _ (by omega)) 2 _ (by omega)⟩
  unfold numC
  rw [hng]
  exact Row.set3N h2.bx _ _ _
theorem TwAt.swap {w wr : World} {X Y : Nat} {x e y f : Int} {sx sy : Value} (h : TwAt w X Y x e y f sx sy wr) : TwAt w Y X y f x e sy sx wr :=
  ⟨h.res1, h.res2, h.byy, h.bx, h.dy, h.dx, fun K hK => h.ny K (by omega), fun K hK => h.nx K (by omega), h.below⟩
end Go.Proofs.YtfbhonjndepjbaaDoor
/- two: two Decs with one exponent: the first loop. -/
namespace Go.Proofs.YtfbhonjndepjbaaDoor
open Go.RowKit

theorem ret_cct {fn : Func} {p q u : Tmp} {ty tz : TypeId} (h : fn.results = #[.cell p ty, .cell q tz, .tmp u]) {tmps : Array Value} {w : World} {g g' : Nat} {v v' x : Value}
    (hp : tmps.getD p undef = .pointer (some ⟨g, 0, none⟩)) (hq : tmps.getD q undef = .pointer (some ⟨g', 0, none⟩)) (hx : tmps.getD u undef = x) (hl : (loadVar ty ⟨g, 0, none⟩).run Tryd.prog w = .ok v w) (hl' : (loadVar tz ⟨g', 0, none⟩).run Tryd.prog w = .ok v' w) : (results fn tmps).run Tryd.prog w = .ok (.tuple #[v, v', x]) w := by
  have hp' : tmps[p]?.getD undef = .pointer (some ⟨g, 0, none⟩) := by simpa using hp
  have hq' : tmps[q]?.getD undef = .pointer (some ⟨g', 0, none⟩) := by simpa using hq
  have hx' : tmps[u]?.getD undef = x := by simpa using hx
  simp only [results, h]
  simp [Sem.run_bind, Result.andThen, hp', hq', hx', asAddr, hl, hl']
theorem Row.tri {W : World} {B : Nat} {t : TypeId} {a b c : Value} (h : Row W B t #[a, b, c]) : W.cell? ⟨B, 0, none⟩ = some a ∧ W.cell? ⟨B, 1, none⟩ = some b ∧ W.cell? ⟨B, 2, none⟩ = some c := ⟨h.cell rfl, h.cell rfl, h.cell rfl⟩
theorem wrap_sub1 (g : Int) (h1 : -1000 ≤ g) (h2 : g ≤ 1000) : IntKind.i64.wrap (g - 1) = g - 1 := IntWalk.i64_in _ ⟨by omega, by omega⟩
theorem shifted_len (c : Int) (hc : I64 c) (k : Nat) : (digs (c * 10 ^ k).natAbs).length ≤ 19 + k := by
  refine digs_len _ _ ?_
  rw [Int.natAbs_mul, Int.natAbs_pow, Nat.pow_add]
  refine Nat.mul_lt_mul_of_pos_right ?_ (Nat.pow_pos (by decide))
  unfold I64 at hc
  have : (10 : Nat) ^ 19 = 10000000000000000000 := by decide
  omega
set_option maxRecDepth 100000 in
set_option maxHeartbeats 2000000 in
theorem two_any (c e d f : Int) (hc : I64 c) (hd : I64 d) (w : World) (he1 : -18 ≤ e) (he2 : e ≤ 18) (hf1 : -18 ≤ f) (hf2 : f ≤ 18) : Calls Tryd.prog 44 #[.agg #[.int .i64 c, .int .i64 e], .agg #[.int .i64 d, .int .i64 f]] w fun r w' => ∃ (i j : Nat) (sx sy : Value), r = .returned (.tuple #[.agg (numC (c * 10 ^ i) (e - (i : Int)) sx), .agg (numC (d * 10 ^ j) (e - (i : Int)) sy), .bool true]) ∧ e - (i : Int) = f - (j : Int) ∧ -18 ≤ e - (i : Int) ∧ i ≤ 36 ∧ j ≤ 36 ∧ DgAt w' sx (digs (c * 10 ^ i).natAbs) ∧ DgAt w' sy (digs (d * 10 ^ j).natAbs) ∧ Below w.heap.size w w' := by
  have HC : ∀ W, Hid (Calls Tryd.prog 53 #[.agg #[.int .i64 c, .int .i64 e]] W _) := fun W => num_any c e hc W
  have HD : ∀ W, Hid (Calls Tryd.prog 53 #[.agg #[.int .i64 d, .int .i64 f]] W _) := fun W => num_any d f hd W
  rw [decide_eq_true (show -18 ≤ e ∧ e ≤ 18 from ⟨he1, he2⟩)] at HC
  rw [decide_eq_true (show -18 ≤ f ∧ f ≤ 18 from ⟨hf1, hf2⟩)] at HD
  go_enter Tryd.func44, Tryd.ntmps44
  go_wp2_with fail
  have r1 := ((Row.new1 w (.cells #[.int .i64 c, .int .i64 e] 23) 23 #[.int .i64 d, .int .i64 f]).alloc (.cells zeroC 47)).alloc (.cells zeroC 47)
  have r2 := (Row.new ((w.alloc (.cells #[.int .i64 c, .int .i64 e] 23)).alloc (.cells #[.int .i64 d, .int .i64 f] 23)) 47 zeroC).alloc (.cells zeroC 47)
  have r3 := Row.new (((w.alloc (.cells #[.int .i64 c, .int .i64 e] 23)).alloc (.cells #[.int .i64 d, .int .i64 f] 23)).alloc (.cells zeroC 47)) 47 zeroC
  have hB := ((((Below.refl _ w).alloc (Nat.le_refl _) (.cells #[.int .i64 c, .int .i64 e] 23)).alloc (by simp) (.cells #[.int .i64 d, .int .i64 f] 23)).alloc (by simp; omega) (.cells zeroC 47)).alloc (by simp; omega) (.cells zeroC 47)
  have hWs : w.heap.size + 4 ≤ ((((w.alloc (.cells #[.int .i64 c, .int .i64 e] 23)).alloc (.cells #[.int .i64 d, .int .i64 f] 23)).alloc (.cells zeroC 47)).alloc (.cells zeroC 47)).heap.size := by simp
  simp only [World.size_alloc] at r2 r3
  show Calls Tryd.prog 53 #[.agg #[.int .i64 c, .int .i64 e]] ((((w.alloc (.cells #[.int .i64 c, .int .i64 e] 23)).alloc (.cells #[.int .i64 d, .int .i64 f] 23)).alloc (.cells zeroC 47)).alloc (.cells zeroC 47)) _
  generalize (((w.alloc (.cells #[.int .i64 c, .int .i64 e] 23)).alloc (.cells #[.int .i64 d, .int .i64 f] 23)).alloc (.cells zeroC 47)).alloc (.cells zeroC 47) = W at *
  refine Calls.mono (HC W).out ?_
  rintro _ w1 ⟨s1, rfl, hD1, hN1, b1⟩
  obtain ⟨_, a1, c1, rfl, _, _⟩ := id hD1
  obtain ⟨nc, HNC⟩ : ∃ nc, Hid (decide (c < 0) = nc) := ⟨_, rfl⟩
  rw [HNC.out]
  obtain ⟨lc, HLC⟩ : ∃ lc, Hid ((digs c.natAbs).length = lc) := ⟨_, rfl⟩
  rw [HLC.out] at hD1 hN1
  rw [HLC.out]
  clear HC
  have q1 := (r1.below b1 r1.lt).alloc (.cells #[.bool nc, .slice a1 lc c1, .int .i64 e] 47)
  obtain ⟨x0, x1⟩ := q1.duo
  go_wp2_with fail
  have r4 := Row.new w1 47 #[.bool nc, .slice a1 lc c1, .int .i64 e]
  have b2 : Below W.heap.size W (w1.alloc (.cells #[.bool nc, .slice a1 lc c1, .int .i64 e] 47)) := b1.alloc b1.size _
  have hX : W.heap.size ≤ w1.heap.size := b1.size
  have b21 : Below w1.heap.size w1 (w1.alloc (.cells #[.bool nc, .slice a1 lc c1, .int .i64 e] 47)) := (Below.refl _ w1).alloc (Nat.le_refl _) _
  have hD2 := hD1.below b21
  have hM1 : ∀ K, W.heap.size ≤ K → w1.heap.size ≤ K → NeS K (.slice a1 lc c1) := fun K _ h => hD1.ne h
  have hM2 : ∀ K, K < W.heap.size → NeS K (.slice a1 lc c1) := fun K h => hN1.ne h
  have hsz : (w1.alloc (.cells #[.bool nc, .slice a1 lc c1, .int .i64 e] 47)).heap.size = w1.heap.size + 1 := by simp
  generalize w1.alloc (.cells #[.bool nc, .slice a1 lc c1, .int .i64 e] 47) = W2 at *
  generalize w1.heap.size = X at *
  clear q1 x0 x1 hD1 hN1 b1 b21
  refine Calls.mono (HD W2).out ?_
  rintro _ w2 ⟨s2, rfl, hD3, hN3, b3⟩
  obtain ⟨_, a2, c2, rfl, _, _⟩ := id hD3
  obtain ⟨nd, HND⟩ : ∃ nd, Hid (decide (d < 0) = nd) := ⟨_, rfl⟩
  rw [HND.out]
  obtain ⟨ld, HLD⟩ : ∃ ld, Hid ((digs d.natAbs).length = ld) := ⟨_, rfl⟩
  rw [HLD.out] at hD3 hN3
  rw [HLD.out]
  clear HD
  have r5 := Row.new w2 47 #[.bool nd, .slice a2 ld c2, .int .i64 f]
  have b4 : Below W2.heap.size W2 (w2.alloc (.cells #[.bool nd, .slice a2 ld c2, .int .i64 f] 47)) := b3.alloc b3.size _
  have b5 : Below w2.heap.size w2 (w2.alloc (.cells #[.bool nd, .slice a2 ld c2, .int .i64 f] 47)) := (Below.refl _ w2).alloc (Nat.le_refl _) _
  have hT : TwAt w X w2.heap.size c e d f (.slice a1 lc c1) (.slice a2 ld c2) (w2.alloc (.cells #[.bool nd, .slice a2 ld c2, .int .i64 f] 47)) := by
    have s4 := b3.size
    refine ⟨(r2.below b2 r2.lt).below b4 (r2.below b2 r2.lt).lt, (r3.below b2 r3.lt).below b4 (r3.below b2 r3.lt).lt, ?_, ?_, hD2.below b4, hD3.below b5, ?_, ?_, (hB.trans (b2.mono (by omega))).trans (b4.mono (by omega))⟩
    · unfold numC; rw [HNC.out]; exact r4.below b4 r4.lt
    · unfold numC; rw [HND.out]; exact r5
    · intro K hK
      by_cases h : K < W.heap.size
      · exact hM2 K h
      · exact hM1 K (by omega) (by omega)
    · intro K hK
      by_cases h : K < W2.heap.size
      · exact hN3.ne h
      · exact hD3.ne (by omega)
  have hXY : X < w2.heap.size := by have := b3.size; omega
  have hX3 : w.heap.size + 3 < X := by omega
  have hY3 : w.heap.size + 3 < w2.heap.size := by omega
  clear r1 r2 r3 hB hWs r4 b2 hX hD2 hM1 hM2 hsz hD3 hN3 b3 r5 b4 b5
  generalize hW5 : w2.alloc (.cells #[.bool nd, .slice a2 ld c2, .int .i64 f] 47) = W5 at *
  generalize hYg : w2.heap.size = Y at *
  go_wp2_with fail
  clear HNC HND
  go_loopw [] (fun wr => ∃ (k : Nat) (a : Option Addr) (n cc : Nat), TwAt w X Y (c * 10 ^ k) (e - (k : Int)) d f (.slice a n cc) (.slice a2 ld c2) wr ∧ Hid ((digs (c * 10 ^ k).natAbs).length = n) ∧ (k = 0 ∨ f ≤ e - (k : Int)) ∧ k ≤ 36) (fun wr => (intOf ((wr.cell? ⟨X, 2, none⟩).getD undef) + 100).toNat)
  case atStart => exact ⟨0, a1, lc, c1, by simpa using hT, by show _ = _; simpa using HLC.out, .inl rfl, by omega⟩
  case round =>
    obtain ⟨k, a, n, cc, hT1, HN, hk, hk36⟩ := hrel
    have hlen := shifted_len c hc k
    rw [HN.out] at hlen
    obtain ⟨x, HX⟩ : ∃ x, Hid (c * 10 ^ k = x) := ⟨_, rfl⟩
    obtain ⟨g, HG⟩ : ∃ g, Hid (e - (k : Int) = g) := ⟨_, rfl⟩
    rw [HX.out, HG.out] at hT1
    rw [HX.out] at HN
    obtain ⟨nx, HNX⟩ : ∃ nx, Hid (decide (x < 0) = nx) := ⟨_, rfl⟩
    obtain ⟨ny, HNY⟩ : ∃ ny, Hid (decide (d < 0) = ny) := ⟨_, rfl⟩
    have hbx := hT1.bx
    have hby := hT1.byy
    unfold numC at hbx hby
    rw [HNX.out] at hbx
    rw [HNY.out] at hby
    obtain ⟨d0, d1, d2⟩ := hbx.tri
    obtain ⟨f0, f1, f2⟩ := hby.tri
    have hTd := hT1.dx
    clear hT HLC
    have hgr : -18 ≤ g + 36 ∧ g ≤ 18 := by have := HG.out; omega
    by_cases hgf : f < g
    · have ggf : decide (f < g) = true := decide_eq_true hgf
      have HSH : ∀ V, Below wr.heap.size wr V → Hid (Calls Tryd.prog 58 #[.agg #[.bool nx, .slice a n cc], .int .i64 ((1 : Nat) : Int)] V fun r w' => ∃ v', r = .returned v' ∧ BigV w' (x * 10 ^ 1) v' ∧ NewV V.heap.size v' ∧ Below V.heap.size V w') := fun V h => by
        have := shift_new x (bv nx (.slice a n cc)) 1 V ⟨_, by rw [← HNX.out], hTd.below h⟩ (by decide) (by rw [HN.out]; omega)
        exact this
      have HT1 : Hid (TwAt w X Y x g d f (.slice a n cc) (.slice a2 ld c2) wr) := hT1
      clear hT1
      have fw1 : IntKind.i64.wrap (g - 1) = g - 1 := wrap_sub1 g (by omega) (by omega)
      go_wp2_with fail
      have hS : Below wr.heap.size wr wr.drew := (Below.refl _ wr).drew
      have tri : ∀ wx, Below wr.heap.size wr wx → wx.cell? ⟨X, 0, none⟩ = some (.bool nx) ∧ wx.cell? ⟨X, 1, none⟩ = some (.slice a n cc) ∧ wx.cell? ⟨X, 2, none⟩ = some (.int .i64 g) := fun wx hx => (hbx.below hx hbx.lt).tri
      refine wp_region_M (fun wx : World => Below wr.heap.size wr wx) (fun j => decide (j < 7)) 8 rfl (by kernel_rfl) ?_
      refine wpM_held 0 (v := ?_) rfl (by kernel_rfl) (by kernel_rfl) rfl (fun _ _ _ h => h) rfl (by intro wx hx; go_simp <;> rfl) hS ?_
      refine wpM_held 1 (v := .agg #[.bool nx, .slice a n cc]) rfl (by kernel_rfl) (by kernel_rfl) rfl (fun _ _ _ h => h) rfl (by intro wx hx; obtain ⟨x0, x1, x2⟩ := tri wx hx; go_simp <;> rfl) hS ?_
      refine wpM_held 3 (v := ?_) rfl (by kernel_rfl) (by kernel_rfl) rfl (fun _ _ _ h => h) rfl (by intro wx hx; go_simp <;> rfl) hS ?_
      refine wpM_held 4 (v := .int .i64 g) rfl (by kernel_rfl) (by kernel_rfl) rfl (fun _ _ _ h => h) rfl (by intro wx hx; obtain ⟨x0, x1, x2⟩ := tri wx hx; go_simp <;> rfl) hS ?_
      refine wpM_held 5 (v := .int .i64 (g - 1)) rfl (by kernel_rfl) (by kernel_rfl) rfl (fun _ _ _ h => h) rfl (by intro wx hx; go_simp <;> first | rfl | exact fw1) hS ?_
      refine wpM_one 2 rfl (by kernel_rfl) rfl ?_
      go_wp2_with fail
      refine Calls.mono (HSH _ hS).out ?_
      rintro _ wb ⟨v2, rfl, hV2, hN2, b2⟩
      obtain ⟨s2, rfl, hD2⟩ := hV2
      have hN2 := hN2.get
      obtain ⟨_, a6, c6, rfl, _, _⟩ := id hD2
      have hW3 : Below wr.heap.size wr wb := hS.trans (b2.mono hS.size)
      have hN3 := hN2.mono (show wr.heap.size ≤ wr.drew.heap.size from Nat.le_refl _)
      clear b2 HSH hS hN2
      unfold bv
      have HNX2 : Hid (decide (x * 10 ^ 1 < 0) = nx) := by
        show _ = _
        rw [← HNX.out, Int.pow_succ, Int.pow_zero, Int.one_mul]
        by_cases hs : x < 0
        · rw [decide_eq_true hs, decide_eq_true (by omega)]
        · rw [decide_eq_false hs, decide_eq_false (by omega)]
      rw [HNX2.out]
      have HT2 : Hid (TwAt w X Y (x * 10 ^ 1) (g - 1) d f (.slice a6 (digs (x * 10 ^ 1).natAbs).length c6) (.slice a2 ld c2) (set3 wb X (.bool nx) (.slice a6 (digs (x * 10 ^ 1).natAbs).length c6) (.int .i64 (g - 1)))) := HT1.out.putX (by omega) (by omega) hW3 hD2 hN3 nx HNX2.out
      obtain ⟨n2, HN2⟩ : ∃ n2 : Nat, Hid ((digs (x * 10 ^ 1 : Int).natAbs).length = n2) := by exact ⟨(digs (x * 10 ^ 1 : Int).natAbs).length, (rfl : (digs (x * 10 ^ 1 : Int).natAbs).length = (digs (x * 10 ^ 1 : Int).natAbs).length)⟩
      rw [HN2.out] at HT2 hD2 hN3
      rw [HN2.out]
      go_wp2_with fail
      refine ⟨fun _ => hW3, ?_⟩
      refine wpM_one 6 rfl (by kernel_rfl) rfl ?_
      go_wp2_with fail
      refine ⟨fun _ => hW3, ?_⟩
      have p2 := hbx.below hW3 hbx.lt
      obtain ⟨y0, y1, y2⟩ := p2.tri
      have zf := p2.frozen
      refine wpM_one 7 rfl (by kernel_rfl) rfl ?_
      go_wp2_with fail
      refine ⟨fun h => by simp at h, ?_⟩
      refine wpM_done (by kernel_rfl) ?_
      go_wp2
      go_roundw
      case rel => 
                have h2 := HT2.out
                refine ⟨k + 1, a6, n2, c6, ?_, ?_, ?_, ?_⟩
                · rw [show c * 10 ^ (k + 1) = x * 10 ^ 1 by rw [← HX.out, Int.pow_succ, Int.pow_succ, Int.pow_zero, Int.one_mul, Int.mul_assoc], show e - ((k + 1 : Nat) : Int) = g - 1 by have := HG.out; omega]
                  exact h2
                · show _ = _
                  rw [show c * 10 ^ (k + 1) = x * 10 ^ 1 by rw [← HX.out, Int.pow_succ, Int.pow_succ, Int.pow_zero, Int.one_mul, Int.mul_assoc]]
                  exact HN2.out
                · right; have := HG.out; omega
                · have := HG.out; omega
      case measure => 
                have h2 := HT2.out.bx
                unfold numC at h2
                have h3 := h2.tri.2.2
                unfold set3 at h3
                rw [h3, d2]
                simp only [Option.getD_some, intOf]
                omega
    · have ggf : decide (f < g) = false := decide_eq_false hgf
      clear hTd
      go_wp2_with fail
      clear d0 d1 d2 f0 f1 f2 hbx hby ggf HNX HNY hgr
      have hT3 := hT1.swap
      clear hT1
      have HC3 : Hid (c * 10 ^ k = x ∧ e - (k : Int) = g) := ⟨HX.out, HG.out⟩
      clear HX
      have HL3 : Hid ((digs x.natAbs).length = n) := HN
      clear HN hlen
      go_loopw [] (fun wr => ∃ (j : Nat) (a3 : Option Addr) (n3 c3 : Nat), TwAt w Y X (d * 10 ^ j) (f - (j : Int)) x g (.slice a3 n3 c3) (.slice a n cc) wr ∧ Hid ((digs (d * 10 ^ j).natAbs).length = n3) ∧ (j = 0 ∨ g ≤ f - (j : Int)) ∧ j ≤ 36) (fun wr => (intOf ((wr.cell? ⟨Y, 2, none⟩).getD undef) + 100).toNat)
      case atStart => exact ⟨0, a2, ld, c2, by simpa using hT3, by show _ = _; simpa using HLD.out, .inl rfl, by omega⟩
      case round =>
        obtain ⟨j, a3, n3, c3, hT1, HM, hj, hj36⟩ := hrel
        have hlen := shifted_len d hd j
        rw [HM.out] at hlen
        obtain ⟨z, HZ⟩ : ∃ z, Hid (d * 10 ^ j = z) := ⟨_, rfl⟩
        obtain ⟨t, HT⟩ : ∃ t, Hid (f - (j : Int) = t) := ⟨_, rfl⟩
        rw [HZ.out, HT.out] at hT1
        rw [HZ.out] at HM
        obtain ⟨nz, HNZ⟩ : ∃ nz, Hid (decide (z < 0) = nz) := ⟨_, rfl⟩
        obtain ⟨nx, HNX⟩ : ∃ nx, Hid (decide (x < 0) = nx) := ⟨_, rfl⟩
        have hbz := hT1.bx
        have hbx := hT1.byy
        unfold numC at hbz hbx
        rw [HNZ.out] at hbz
        rw [HNX.out] at hbx
        obtain ⟨d0, d1, d2⟩ := hbz.tri
        obtain ⟨f0, f1, f2⟩ := hbx.tri
        have hTz := hT1.dx
        clear hT3 HLD
        have hgt : -18 ≤ t + 36 ∧ t ≤ 18 := by have := HT.out; omega
        have hgg : -18 ≤ g + 36 ∧ g ≤ 18 := by have := HG.out; omega
        by_cases hgf2 : g < t
        · have ggf : decide (g < t) = true := decide_eq_true hgf2
          have HSH : ∀ V, Below wr.heap.size wr V → Hid (Calls Tryd.prog 58 #[.agg #[.bool nz, .slice a3 n3 c3], .int .i64 ((1 : Nat) : Int)] V fun r w' => ∃ v', r = .returned v' ∧ BigV w' (z * 10 ^ 1) v' ∧ NewV V.heap.size v' ∧ Below V.heap.size V w') := fun V h => by
            have := shift_new z (bv nz (.slice a3 n3 c3)) 1 V ⟨_, by rw [← HNZ.out], hTz.below h⟩ (by decide) (by rw [HM.out]; omega)
            exact this
          have HT1 : Hid (TwAt w Y X z t x g (.slice a3 n3 c3) (.slice a n cc) wr) := hT1
          clear hT1
          have fw1 : IntKind.i64.wrap (t - 1) = t - 1 := wrap_sub1 t (by omega) (by omega)
          go_wp2_with fail
          have hS : Below wr.heap.size wr wr.drew := (Below.refl _ wr).drew
          have tri : ∀ wx, Below wr.heap.size wr wx → wx.cell? ⟨Y, 0, none⟩ = some (.bool nz) ∧ wx.cell? ⟨Y, 1, none⟩ = some (.slice a3 n3 c3) ∧ wx.cell? ⟨Y, 2, none⟩ = some (.int .i64 t) := fun wx hx => (hbz.below hx hbz.lt).tri
          refine wp_region_M (fun wx : World => Below wr.heap.size wr wx) (fun j => decide (j < 7)) 8 rfl (by kernel_rfl) ?_
          refine wpM_held 0 (v := ?_) rfl (by kernel_rfl) (by kernel_rfl) rfl (fun _ _ _ h => h) rfl (by intro wx hx; go_simp <;> rfl) hS ?_
          refine wpM_held 1 (v := .agg #[.bool nz, .slice a3 n3 c3]) rfl (by kernel_rfl) (by kernel_rfl) rfl (fun _ _ _ h => h) rfl (by intro wx hx; obtain ⟨x0, x1, x2⟩ := tri wx hx; go_simp <;> rfl) hS ?_
          refine wpM_held 3 (v := ?_) rfl (by kernel_rfl) (by kernel_rfl) rfl (fun _ _ _ h => h) rfl (by intro wx hx; go_simp <;> rfl) hS ?_
          refine wpM_held 4 (v := .int .i64 t) rfl (by kernel_rfl) (by kernel_rfl) rfl (fun _ _ _ h => h) rfl (by intro wx hx; obtain ⟨x0, x1, x2⟩ := tri wx hx; go_simp <;> rfl) hS ?_
          refine wpM_held 5 (v := .int .i64 (t - 1)) rfl (by kernel_rfl) (by kernel_rfl) rfl (fun _ _ _ h => h) rfl (by intro wx hx; go_simp <;> first | rfl | exact fw1) hS ?_
          refine wpM_one 2 rfl (by kernel_rfl) rfl ?_
          go_wp2_with fail
          refine Calls.mono (HSH _ hS).out ?_
          rintro _ wb ⟨v2, rfl, hV2, hN2, b2⟩
          obtain ⟨s2, rfl, hD2⟩ := hV2
          have hN2 := hN2.get
          obtain ⟨_, a6, c6, rfl, _, _⟩ := id hD2
          have hW3 : Below wr.heap.size wr wb := hS.trans (b2.mono hS.size)
          have hN3 := hN2.mono (show wr.heap.size ≤ wr.drew.heap.size from Nat.le_refl _)
          clear b2 HSH hS hN2
          unfold bv
          have HNZ2 : Hid (decide (z * 10 ^ 1 < 0) = nz) := by
            show _ = _
            rw [← HNZ.out, Int.pow_succ, Int.pow_zero, Int.one_mul]
            by_cases hs : z < 0
            · rw [decide_eq_true hs, decide_eq_true (by omega)]
            · rw [decide_eq_false hs, decide_eq_false (by omega)]
          rw [HNZ2.out]
          have HT2 : Hid (TwAt w Y X (z * 10 ^ 1) (t - 1) x g (.slice a6 (digs (z * 10 ^ 1).natAbs).length c6) (.slice a n cc) (set3 wb Y (.bool nz) (.slice a6 (digs (z * 10 ^ 1).natAbs).length c6) (.int .i64 (t - 1)))) := HT1.out.putX (by omega) (by omega) hW3 hD2 hN3 nz HNZ2.out
          obtain ⟨m2, HM2⟩ : ∃ m2 : Nat, Hid ((digs (z * 10 ^ 1 : Int).natAbs).length = m2) := by exact ⟨(digs (z * 10 ^ 1 : Int).natAbs).length, (rfl : (digs (z * 10 ^ 1 : Int).natAbs).length = (digs (z * 10 ^ 1 : Int).natAbs).length)⟩
          rw [HM2.out] at HT2 hD2 hN3
          rw [HM2.out]
          go_wp2_with fail
          refine ⟨fun _ => hW3, ?_⟩
          refine wpM_one 6 rfl (by kernel_rfl) rfl ?_
          go_wp2_with fail
          refine ⟨fun _ => hW3, ?_⟩
          have p2 := hbz.below hW3 hbz.lt
          obtain ⟨y0, y1, y2⟩ := p2.tri
          have zf := p2.frozen
          refine wpM_one 7 rfl (by kernel_rfl) rfl ?_
          go_wp2_with fail
          refine ⟨fun h => by simp at h, ?_⟩
          refine wpM_done (by kernel_rfl) ?_
          go_wp2
          go_roundw
          case rel => 
                        have h2 := HT2.out
                        refine ⟨j + 1, a6, m2, c6, ?_, ?_, ?_, ?_⟩
                        · rw [show d * 10 ^ (j + 1) = z * 10 ^ 1 by rw [← HZ.out, Int.pow_succ, Int.pow_succ, Int.pow_zero, Int.one_mul, Int.mul_assoc], show f - ((j + 1 : Nat) : Int) = t - 1 by have := HT.out; omega]
                          exact h2
                        · show _ = _
                          rw [show d * 10 ^ (j + 1) = z * 10 ^ 1 by rw [← HZ.out, Int.pow_succ, Int.pow_succ, Int.pow_zero, Int.one_mul, Int.mul_assoc]]
                          exact HM2.out
                        · right; have := HT.out; omega
                        · have := HT.out; have := HC3.out.2; omega
          case measure => 
                        have h2 := HT2.out.bx
                        unfold numC at h2
                        have h3 := h2.tri.2.2
                        unfold set3 at h3
                        rw [h3, d2]
                        simp only [Option.getD_some, intOf]
                        omega
        · have ggf : decide (g < t) = false := decide_eq_false hgf2
          clear hTz
          go_wp2_with fail
          have htg : t = g := by have := HT.out; have := HG.out; omega
          subst htg
          have HT1 : Hid (TwAt w Y X z t x t (.slice a3 n3 c3) (.slice a n cc) wr) := hT1
          have hS : Row wr.drew X 47 #[.bool nx, .slice a n cc, .int .i64 t] ∧ Row wr.drew Y 47 #[.bool nz, .slice a3 n3 c3, .int .i64 t] := ⟨hbx, hbz⟩
          have q1 : Row wr.drew (w.heap.size + 1 + 1) 47 #[.bool false, .slice none 0 0, .int .i64 0] := HT1.out.res1
          have q2 : Row wr.drew (w.heap.size + 1 + 1 + 1) 47 #[.bool false, .slice none 0 0, .int .i64 0] := HT1.out.res2
          have e1 : DgAt wr.drew (.slice a n cc) (digs x.natAbs) := HT1.out.dy
          have e2 : DgAt wr.drew (.slice a3 n3 c3) (digs z.natAbs) := HT1.out.dx
          have l1 : NeS (w.heap.size + 1 + 1) (.slice a n cc) ∧ NeS (w.heap.size + 1 + 1 + 1) (.slice a n cc) := ⟨HT1.out.ny _ (.inl rfl), HT1.out.ny _ (.inr (.inl rfl))⟩
          have l2 : NeS (w.heap.size + 1 + 1) (.slice a3 n3 c3) ∧ NeS (w.heap.size + 1 + 1 + 1) (.slice a3 n3 c3) := ⟨HT1.out.nx _ (.inl rfl), HT1.out.nx _ (.inr (.inl rfl))⟩
          have hbe : Below w.heap.size w wr.drew := HT1.out.below.drew
          clear d0 d1 d2 f0 f1 f2 hT1 HT1
          refine wp_region_M (fun wx : World => Row wx X 47 #[.bool nx, .slice a n cc, .int .i64 t] ∧ Row wx Y 47 #[.bool nz, .slice a3 n3 c3, .int .i64 t]) (fun j => decide (j < 3)) 5 rfl (by kernel_rfl) ?_
          generalize wr.drew = V at *
          refine wpM_held 0 (v := .agg #[.bool nx, .slice a n cc, .int .i64 t]) rfl (by kernel_rfl) (by kernel_rfl) rfl (fun _ _ _ h => h) rfl (by intro wx hx; obtain ⟨x0, x1, x2⟩ := hx.1.tri; go_simp <;> rfl) hS ?_
          refine wpM_held 1 (v := .agg #[.bool nz, .slice a3 n3 c3, .int .i64 t]) rfl (by kernel_rfl) (by kernel_rfl) rfl (fun _ _ _ h => h) rfl (by intro wx hx; obtain ⟨x0, x1, x2⟩ := hx.2.tri; go_simp <;> rfl) hS ?_
          obtain ⟨y0, y1, y2⟩ := q1.tri
          have zf := q1.frozen
          refine wpM_one 2 rfl (by kernel_rfl) rfl ?_
          go_wp2_with fail
          have S2 : Row ((((V).setCell ⟨w.heap.size + 1 + 1, 0, none⟩ (.bool nx)).setCell ⟨w.heap.size + 1 + 1, 1, none⟩ (.slice a n cc)).setCell ⟨w.heap.size + 1 + 1, 2, none⟩ (.int .i64 t)) X 47 #[.bool nx, .slice a n cc, .int .i64 t] ∧ Row ((((V).setCell ⟨w.heap.size + 1 + 1, 0, none⟩ (.bool nx)).setCell ⟨w.heap.size + 1 + 1, 1, none⟩ (.slice a n cc)).setCell ⟨w.heap.size + 1 + 1, 2, none⟩ (.int .i64 t)) Y 47 #[.bool nz, .slice a3 n3 c3, .int .i64 t] := ⟨((hS.1.off 0 (.bool nx) (by omega)).off 1 (.slice a n cc) (by omega)).off 2 (.int .i64 t) (by omega), ((hS.2.off 0 (.bool nx) (by omega)).off 1 (.slice a n cc) (by omega)).off 2 (.int .i64 t) (by omega)⟩
          have Q1 : Row ((((V).setCell ⟨w.heap.size + 1 + 1, 0, none⟩ (.bool nx)).setCell ⟨w.heap.size + 1 + 1, 1, none⟩ (.slice a n cc)).setCell ⟨w.heap.size + 1 + 1, 2, none⟩ (.int .i64 t)) (w.heap.size + 1 + 1) 47 #[.bool nx, .slice a n cc, .int .i64 t] := Row.set3N q1 _ _ _
          have Q2 : Row ((((V).setCell ⟨w.heap.size + 1 + 1, 0, none⟩ (.bool nx)).setCell ⟨w.heap.size + 1 + 1, 1, none⟩ (.slice a n cc)).setCell ⟨w.heap.size + 1 + 1, 2, none⟩ (.int .i64 t)) (w.heap.size + 1 + 1 + 1) 47 #[.bool false, .slice none 0 0, .int .i64 0] := ((q2.off 0 (.bool nx) (by omega)).off 1 (.slice a n cc) (by omega)).off 2 (.int .i64 t) (by omega)
          have E1 : DgAt ((((V).setCell ⟨w.heap.size + 1 + 1, 0, none⟩ (.bool nx)).setCell ⟨w.heap.size + 1 + 1, 1, none⟩ (.slice a n cc)).setCell ⟨w.heap.size + 1 + 1, 2, none⟩ (.int .i64 t)) (.slice a n cc) (digs x.natAbs) := ((e1.offN l1.1 0 (.bool nx)).offN l1.1 1 (.slice a n cc)).offN l1.1 2 (.int .i64 t)
          have E2 : DgAt ((((V).setCell ⟨w.heap.size + 1 + 1, 0, none⟩ (.bool nx)).setCell ⟨w.heap.size + 1 + 1, 1, none⟩ (.slice a n cc)).setCell ⟨w.heap.size + 1 + 1, 2, none⟩ (.int .i64 t)) (.slice a3 n3 c3) (digs z.natAbs) := ((e2.offN l2.1 0 (.bool nx)).offN l2.1 1 (.slice a n cc)).offN l2.1 2 (.int .i64 t)
          have BE : Below w.heap.size w ((((V).setCell ⟨w.heap.size + 1 + 1, 0, none⟩ (.bool nx)).setCell ⟨w.heap.size + 1 + 1, 1, none⟩ (.slice a n cc)).setCell ⟨w.heap.size + 1 + 1, 2, none⟩ (.int .i64 t)) := below_set (below_set (below_set hbe 0 _ (by omega)) 1 _ (by omega)) 2 _ (by omega)
          refine ⟨fun _ => S2, ?_⟩
          clear hS q1 q2 e1 e2 hbe y0 y1 y2 zf hbx hbz
          generalize (((V).setCell ⟨w.heap.size + 1 + 1, 0, none⟩ (.bool nx)).setCell ⟨w.heap.size + 1 + 1, 1, none⟩ (.slice a n cc)).setCell ⟨w.heap.size + 1 + 1, 2, none⟩ (.int .i64 t) = V2 at *
          clear V
          obtain ⟨y0, y1, y2⟩ := Q2.tri
          have zf := Q2.frozen
          refine wpM_one 3 rfl (by kernel_rfl) rfl ?_
          go_wp2_with fail
          refine ⟨fun h => by simp at h, ?_⟩
          have P1 : Row ((((V2).setCell ⟨w.heap.size + 1 + 1 + 1, 0, none⟩ (.bool nz)).setCell ⟨w.heap.size + 1 + 1 + 1, 1, none⟩ (.slice a3 n3 c3)).setCell ⟨w.heap.size + 1 + 1 + 1, 2, none⟩ (.int .i64 t)) (w.heap.size + 1 + 1) 47 #[.bool nx, .slice a n cc, .int .i64 t] := ((Q1.off 0 (.bool nz) (by omega)).off 1 (.slice a3 n3 c3) (by omega)).off 2 (.int .i64 t) (by omega)
          have P2 : Row ((((V2).setCell ⟨w.heap.size + 1 + 1 + 1, 0, none⟩ (.bool nz)).setCell ⟨w.heap.size + 1 + 1 + 1, 1, none⟩ (.slice a3 n3 c3)).setCell ⟨w.heap.size + 1 + 1 + 1, 2, none⟩ (.int .i64 t)) (w.heap.size + 1 + 1 + 1) 47 #[.bool nz, .slice a3 n3 c3, .int .i64 t] := Row.set3N Q2 _ _ _
          have D1 : DgAt ((((V2).setCell ⟨w.heap.size + 1 + 1 + 1, 0, none⟩ (.bool nz)).setCell ⟨w.heap.size + 1 + 1 + 1, 1, none⟩ (.slice a3 n3 c3)).setCell ⟨w.heap.size + 1 + 1 + 1, 2, none⟩ (.int .i64 t)) (.slice a n cc) (digs x.natAbs) := ((E1.offN l1.2 0 (.bool nz)).offN l1.2 1 (.slice a3 n3 c3)).offN l1.2 2 (.int .i64 t)
          have D2 : DgAt ((((V2).setCell ⟨w.heap.size + 1 + 1 + 1, 0, none⟩ (.bool nz)).setCell ⟨w.heap.size + 1 + 1 + 1, 1, none⟩ (.slice a3 n3 c3)).setCell ⟨w.heap.size + 1 + 1 + 1, 2, none⟩ (.int .i64 t)) (.slice a3 n3 c3) (digs z.natAbs) := ((E2.offN l2.2 0 (.bool nz)).offN l2.2 1 (.slice a3 n3 c3)).offN l2.2 2 (.int .i64 t)
          have B2 : Below w.heap.size w ((((V2).setCell ⟨w.heap.size + 1 + 1 + 1, 0, none⟩ (.bool nz)).setCell ⟨w.heap.size + 1 + 1 + 1, 1, none⟩ (.slice a3 n3 c3)).setCell ⟨w.heap.size + 1 + 1 + 1, 2, none⟩ (.int .i64 t)) := below_set (below_set (below_set BE 0 _ (by omega)) 1 _ (by omega)) 2 _ (by omega)
          refine wpM_one 4 rfl (by kernel_rfl) rfl ?_
          go_wp2_with fail
          refine ⟨fun h => by simp at h, ?_⟩
          refine wpM_done (by kernel_rfl) ?_
          go_wp2
          refine bodyPost_ret (ret_cct rfl (g := w.heap.size + 1 + 1) (g' := w.heap.size + 1 + 1 + 1) rfl rfl rfl (load45 P1 rfl) (load45 P2 rfl)) rfl ⟨k, j, .slice a n cc, .slice a3 n3 c3, ?_, ?_, by omega, hk36, hj36, ?_, ?_, B2⟩
          · rw [HC3.out.1, HC3.out.2, HZ.out]
            unfold numC
            rw [HNX.out, HNZ.out]
            rfl
          · rw [HC3.out.2, HT.out]
          · rw [HC3.out.1]; exact D1
          · rw [HZ.out]; exact D2
end Go.Proofs.YtfbhonjndepjbaaDoor
/- two: where one of both is none. -/
namespace Go.Proofs.YtfbhonjndepjbaaDoor
open Go.RowKit

theorem Row.off3 {W : World} {B : Nat} {t : TypeId} {cs : Array Value} (h : Row W B t cs) {B' : Nat} (hne : B ≠ B') (a b c : Value) :
    Row (((W.setCell ⟨B', 0, none⟩ a).setCell ⟨B', 1, none⟩ b).setCell ⟨B', 2, none⟩ c) B t cs := ((h.off 0 a hne).off 1 b hne).off 2 c hne
set_option maxRecDepth 100000 in
set_option maxHeartbeats 2000000 in
theorem two_bad (c e d f : Int) (hc : I64 c) (hd : I64 d) (w : World) (hb : ¬((-18 ≤ e ∧ e ≤ 18) ∧ (-18 ≤ f ∧ f ≤ 18))) : Calls Tryd.prog 44 #[.agg #[.int .i64 c, .int .i64 e], .agg #[.int .i64 d, .int .i64 f]] w fun r w' => r = .returned (.tuple #[.agg zeroC, .agg zeroC, .bool false]) ∧ Below w.heap.size w w' := by
  obtain ⟨okc, HOC⟩ : ∃ okc, Hid (decide (-18 ≤ e ∧ e ≤ 18) = okc) := ⟨_, rfl⟩
  obtain ⟨okd, HOD⟩ : ∃ okd, Hid (decide (-18 ≤ f ∧ f ≤ 18) = okd) := ⟨_, rfl⟩
  have hbad : okc = false ∨ okc = true ∧ okd = false := by
    rw [← HOC.out, ← HOD.out]
    by_cases h : -18 ≤ e ∧ e ≤ 18
    · right
      exact ⟨decide_eq_true h, decide_eq_false fun h2 => hb ⟨h, h2⟩⟩
    · left; exact decide_eq_false h
  clear hb
  have HC : ∀ W, Hid (Calls Tryd.prog 53 #[.agg #[.int .i64 c, .int .i64 e]] W _) := fun W => num_any c e hc W
  have HD : ∀ W, Hid (Calls Tryd.prog 53 #[.agg #[.int .i64 d, .int .i64 f]] W _) := fun W => num_any d f hd W
  rw [HOC.out] at HC
  rw [HOD.out] at HD
  go_enter Tryd.func44, Tryd.ntmps44
  go_wp2_with fail
  have r1 := ((Row.new1 w (.cells #[.int .i64 c, .int .i64 e] 23) 23 #[.int .i64 d, .int .i64 f]).alloc (.cells zeroC 47)).alloc (.cells zeroC 47)
  have r2 := (Row.new ((w.alloc (.cells #[.int .i64 c, .int .i64 e] 23)).alloc (.cells #[.int .i64 d, .int .i64 f] 23)) 47 zeroC).alloc (.cells zeroC 47)
  have r3 := Row.new (((w.alloc (.cells #[.int .i64 c, .int .i64 e] 23)).alloc (.cells #[.int .i64 d, .int .i64 f] 23)).alloc (.cells zeroC 47)) 47 zeroC
  have hB := ((((Below.refl _ w).alloc (Nat.le_refl _) (.cells #[.int .i64 c, .int .i64 e] 23)).alloc (by simp) (.cells #[.int .i64 d, .int .i64 f] 23)).alloc (by simp; omega) (.cells zeroC 47)).alloc (by simp; omega) (.cells zeroC 47)
  have hWs : w.heap.size + 4 ≤ ((((w.alloc (.cells #[.int .i64 c, .int .i64 e] 23)).alloc (.cells #[.int .i64 d, .int .i64 f] 23)).alloc (.cells zeroC 47)).alloc (.cells zeroC 47)).heap.size := by simp
  simp only [World.size_alloc] at r2 r3
  show Calls Tryd.prog 53 #[.agg #[.int .i64 c, .int .i64 e]] ((((w.alloc (.cells #[.int .i64 c, .int .i64 e] 23)).alloc (.cells #[.int .i64 d, .int .i64 f] 23)).alloc (.cells zeroC 47)).alloc (.cells zeroC 47)) _
  generalize (((w.alloc (.cells #[.int .i64 c, .int .i64 e] 23)).alloc (.cells #[.int .i64 d, .int .i64 f] 23)).alloc (.cells zeroC 47)).alloc (.cells zeroC 47) = W at *
  refine Calls.mono (HC W).out ?_
  rintro _ w1 ⟨s1, rfl, hD1, hN1, b1⟩
  obtain ⟨_, a1, c1, rfl, _, _⟩ := id hD1
  obtain ⟨nc, HNC⟩ : ∃ nc, Hid (decide (c < 0) = nc) := ⟨_, rfl⟩
  rw [HNC.out]
  obtain ⟨lc, HLC⟩ : ∃ lc, Hid ((digs c.natAbs).length = lc) := ⟨_, rfl⟩
  rw [HLC.out] at hD1 hN1
  rw [HLC.out]
  clear HC
  have q1 := (r1.below b1 r1.lt).alloc (.cells #[.bool nc, .slice a1 lc c1, .int .i64 e] 47)
  obtain ⟨x0, x1⟩ := q1.duo
  go_wp2_with fail
  have r4 := Row.new w1 47 #[.bool nc, .slice a1 lc c1, .int .i64 e]
  have b2 : Below W.heap.size W (w1.alloc (.cells #[.bool nc, .slice a1 lc c1, .int .i64 e] 47)) := b1.alloc b1.size _
  have hX : W.heap.size ≤ w1.heap.size := b1.size
  have b21 : Below w1.heap.size w1 (w1.alloc (.cells #[.bool nc, .slice a1 lc c1, .int .i64 e] 47)) := (Below.refl _ w1).alloc (Nat.le_refl _) _
  have hD2 := hD1.below b21
  have hM1 : ∀ K, W.heap.size ≤ K → w1.heap.size ≤ K → NeS K (.slice a1 lc c1) := fun K _ h => hD1.ne h
  have hM2 : ∀ K, K < W.heap.size → NeS K (.slice a1 lc c1) := fun K h => hN1.ne h
  have hsz : (w1.alloc (.cells #[.bool nc, .slice a1 lc c1, .int .i64 e] 47)).heap.size = w1.heap.size + 1 := by simp
  generalize w1.alloc (.cells #[.bool nc, .slice a1 lc c1, .int .i64 e] 47) = W2 at *
  generalize w1.heap.size = X at *
  clear q1 x0 x1 hD1 hN1 b1 b21
  refine Calls.mono (HD W2).out ?_
  rintro _ w2 ⟨s2, rfl, hD3, hN3, b3⟩
  obtain ⟨_, a2, c2, rfl, _, _⟩ := id hD3
  obtain ⟨nd, HND⟩ : ∃ nd, Hid (decide (d < 0) = nd) := ⟨_, rfl⟩
  rw [HND.out]
  obtain ⟨ld, HLD⟩ : ∃ ld, Hid ((digs d.natAbs).length = ld) := ⟨_, rfl⟩
  rw [HLD.out] at hD3 hN3
  rw [HLD.out]
  clear HD
  have b4 : Below W2.heap.size W2 (w2.alloc (.cells #[.bool nd, .slice a2 ld c2, .int .i64 f] 47)) := b3.alloc b3.size _
  have z1 : Row (w2.alloc (.cells #[.bool nd, .slice a2 ld c2, .int .i64 f] 47)) (w.heap.size + 1 + 1) 47 #[.bool false, .slice none 0 0, .int .i64 0] := (r2.below b2 r2.lt).below b4 (r2.below b2 r2.lt).lt
  have z2 : Row (w2.alloc (.cells #[.bool nd, .slice a2 ld c2, .int .i64 f] 47)) (w.heap.size + 1 + 1 + 1) 47 #[.bool false, .slice none 0 0, .int .i64 0] := (r3.below b2 r3.lt).below b4 (r3.below b2 r3.lt).lt
  have BE : Below w.heap.size w (w2.alloc (.cells #[.bool nd, .slice a2 ld c2, .int .i64 f] 47)) := (hB.trans (b2.mono (by omega))).trans (b4.mono (by omega))
  clear r1 r2 r3 hB r4 b2 hX hD2 hM1 hM2 hsz hD3 hN3 b3 b4 HOC HOD
  generalize hW5 : w2.alloc (.cells #[.bool nd, .slice a2 ld c2, .int .i64 f] 47) = V at *
  have Z1 : Row ((((V).setCell ⟨w.heap.size + 1 + 1, 0, none⟩ (.bool false)).setCell ⟨w.heap.size + 1 + 1, 1, none⟩ (.slice none 0 0)).setCell ⟨w.heap.size + 1 + 1, 2, none⟩ (.int .i64 0)) (w.heap.size + 1 + 1) 47 #[.bool false, .slice none 0 0, .int .i64 0] := Row.set3N z1 _ _ _
  have Z2 : Row ((((V).setCell ⟨w.heap.size + 1 + 1, 0, none⟩ (.bool false)).setCell ⟨w.heap.size + 1 + 1, 1, none⟩ (.slice none 0 0)).setCell ⟨w.heap.size + 1 + 1, 2, none⟩ (.int .i64 0)) (w.heap.size + 1 + 1 + 1) 47 #[.bool false, .slice none 0 0, .int .i64 0] := z2.off3 (by omega) _ _ _
  have B1 : Below w.heap.size w ((((V).setCell ⟨w.heap.size + 1 + 1, 0, none⟩ (.bool false)).setCell ⟨w.heap.size + 1 + 1, 1, none⟩ (.slice none 0 0)).setCell ⟨w.heap.size + 1 + 1, 2, none⟩ (.int .i64 0)) := below_set (below_set (below_set BE 0 _ (by omega)) 1 _ (by omega)) 2 _ (by omega)
  have Y1 : Row (((((((V).setCell ⟨w.heap.size + 1 + 1, 0, none⟩ (.bool false)).setCell ⟨w.heap.size + 1 + 1, 1, none⟩ (.slice none 0 0)).setCell ⟨w.heap.size + 1 + 1, 2, none⟩ (.int .i64 0)).setCell ⟨w.heap.size + 1 + 1 + 1, 0, none⟩ (.bool false)).setCell ⟨w.heap.size + 1 + 1 + 1, 1, none⟩ (.slice none 0 0)).setCell ⟨w.heap.size + 1 + 1 + 1, 2, none⟩ (.int .i64 0)) (w.heap.size + 1 + 1) 47 #[.bool false, .slice none 0 0, .int .i64 0] := Z1.off3 (by omega) _ _ _
  have Y2 : Row (((((((V).setCell ⟨w.heap.size + 1 + 1, 0, none⟩ (.bool false)).setCell ⟨w.heap.size + 1 + 1, 1, none⟩ (.slice none 0 0)).setCell ⟨w.heap.size + 1 + 1, 2, none⟩ (.int .i64 0)).setCell ⟨w.heap.size + 1 + 1 + 1, 0, none⟩ (.bool false)).setCell ⟨w.heap.size + 1 + 1 + 1, 1, none⟩ (.slice none 0 0)).setCell ⟨w.heap.size + 1 + 1 + 1, 2, none⟩ (.int .i64 0)) (w.heap.size + 1 + 1 + 1) 47 #[.bool false, .slice none 0 0, .int .i64 0] := Row.set3N Z2 _ _ _
  have B2 : Below w.heap.size w (((((((V).setCell ⟨w.heap.size + 1 + 1, 0, none⟩ (.bool false)).setCell ⟨w.heap.size + 1 + 1, 1, none⟩ (.slice none 0 0)).setCell ⟨w.heap.size + 1 + 1, 2, none⟩ (.int .i64 0)).setCell ⟨w.heap.size + 1 + 1 + 1, 0, none⟩ (.bool false)).setCell ⟨w.heap.size + 1 + 1 + 1, 1, none⟩ (.slice none 0 0)).setCell ⟨w.heap.size + 1 + 1 + 1, 2, none⟩ (.int .i64 0)) := below_set (below_set (below_set B1 0 _ (by omega)) 1 _ (by omega)) 2 _ (by omega)
  obtain ⟨y0, y1, y2⟩ := z1.tri
  obtain ⟨y3, y4, y5⟩ := Z2.tri
  have zf := z1.frozen
  have zg := Z2.frozen
  rcases hbad with rfl | ⟨rfl, rfl⟩
  · go_wp2_with fail
    exact bodyPost_ret (ret_cct rfl (g := w.heap.size + 1 + 1) (g' := w.heap.size + 1 + 1 + 1) rfl rfl rfl (load45 Y1 rfl) (load45 Y2 rfl)) rfl ⟨rfl, B2⟩
  · go_wp2_with fail
    exact bodyPost_ret (ret_cct rfl (g := w.heap.size + 1 + 1) (g' := w.heap.size + 1 + 1 + 1) rfl rfl rfl (load45 Y1 rfl) (load45 Y2 rfl)) rfl ⟨rfl, B2⟩
end Go.Proofs.YtfbhonjndepjbaaDoor
