import Derived.Test.YtfbhonjndepjbaaDoorRte
/- Tell of any number; num: a Dec's number. -/
namespace Go.Proofs.YtfbhonjndepjbaaDoor
open Go.RowKit

set_option maxRecDepth 100000 in
set_option maxHeartbeats 1000000 in
theorem tell_nought (z e : Int) (sv : Value) (w : World) (hz : z = 0) (hD : DgAt w sv (digs z.natAbs)) :
    Calls Tryd.prog 45 #[.agg #[.bool (decide (z < 0)), sv, .int .i64 e]] w fun r w' => r = .returned (.tuple #[.agg #[.int .i64 0, .int .i64 0], .int .i64 0]) ∧ Below w.heap.size w w' := by
  obtain ⟨ng, HNG⟩ : ∃ ng, Hid (decide (z < 0) = ng) := ⟨_, rfl⟩
  rw [HNG.out]
  obtain ⟨_, a, c, rfl, _, _⟩ := id hD
  obtain ⟨L, HL⟩ : ∃ L, Hid ((digs z.natAbs).length = L) := ⟨_, rfl⟩
  obtain rfl : L = 0 := by rw [← HL.out, hz]; exact congrArg List.length digs_zero
  rw [HL.out] at hD
  rw [HL.out]
  have HD : Hid (DgAt w (.slice a 0 c) (digs z.natAbs)) := hD
  clear hD
  go_enter Tryd.func45, Tryd.ntmps45
  go_wp2_with fail
  have r0 := (Row.new w 47 #[.bool ng, .slice a 0 c, .int .i64 e]).alloc (.cells #[.int .i64 0, .int .i64 0] 23)
  have r1 := Row.new1 w (.cells #[.bool ng, .slice a 0 c, .int .i64 e] 47) 23 #[.int .i64 0, .int .i64 0]
  have hB := ((Below.refl _ w).alloc (Nat.le_refl _) (.cells #[.bool ng, .slice a 0 c, .int .i64 e] 47)).alloc (by simp) (.cells #[.int .i64 0, .int .i64 0] 23)
  have hWs : ((w.alloc (.cells #[.bool ng, .slice a 0 c, .int .i64 e] 47)).alloc (.cells #[.int .i64 0, .int .i64 0] 23)).heap.size = w.heap.size + 2 := by simp
  generalize (w.alloc (.cells #[.bool ng, .slice a 0 c, .int .i64 e] 47)).alloc (.cells #[.int .i64 0, .int .i64 0] 23) = W at *
  have HWs : Hid (W.heap.size = w.heap.size + 2) := hWs
  clear hWs
  have hS : Below W.heap.size W W.drew := (Below.refl _ W).drew
  have tri : ∀ wx, Below W.heap.size W wx → wx.cell? ⟨w.heap.size, 0, none⟩ = some (.bool ng) ∧ wx.cell? ⟨w.heap.size, 1, none⟩ = some (.slice a 0 c) ∧ wx.cell? ⟨w.heap.size, 2, none⟩ = some (.int .i64 e) := fun wx hx =>
    ⟨(r0.below hx r0.lt).cell rfl, (r0.below hx r0.lt).cell rfl, (r0.below hx r0.lt).cell rfl⟩
  refine wp_region_M (fun wx : World => Below W.heap.size W wx) (fun j => decide (j < 7)) 7 rfl (by kernel_rfl) ?_
  refine wpM_held 0 (v := ?_) rfl (by kernel_rfl) (by kernel_rfl) rfl (fun _ _ _ h => h) rfl (by intro wx hx; go_simp <;> rfl) hS ?_
  refine wpM_held 1 (v := .agg #[.bool ng, .slice a 0 c]) rfl (by kernel_rfl) (by kernel_rfl) rfl (fun _ _ _ h => h) rfl (by intro wx hx; obtain ⟨x0, x1, x2⟩ := tri wx hx; go_simp <;> rfl) hS ?_
  refine wpM_held 2 (v := ?_) rfl (by kernel_rfl) (by kernel_rfl) rfl (fun _ _ _ h => h) rfl (by intro wx hx; go_simp <;> rfl) hS ?_
  refine wpM_held 3 (v := .int .i64 e) rfl (by kernel_rfl) (by kernel_rfl) rfl (fun _ _ _ h => h) rfl (by intro wx hx; obtain ⟨x0, x1, x2⟩ := tri wx hx; go_simp <;> rfl) hS ?_
  refine wpM_one 4 rfl (by kernel_rfl) rfl ?_
  go_wp2_with fail
  have hW1 : ∀ o, Below W.heap.size W (W.alloc o).drew := fun o => ((Below.refl _ W).alloc (Nat.le_refl _) o).drew
  refine ⟨fun _ => hW1 _, ?_⟩
  refine wpM_one 5 rfl (by kernel_rfl) rfl ?_
  go_wp2_with fail
  refine ⟨fun _ => hW1 _, ?_⟩
  refine wpM_one 6 rfl (by kernel_rfl) rfl ?_
  go_wp2_with fail
  refine ⟨fun _ => hW1 _, ?_⟩
  refine wpM_done (by kernel_rfl) ?_
  have hT : TlAt w W.heap.size z (.slice a 0 c) (W.alloc (.cells #[.bool ng, .slice a 0 c] 45)).drew := by
    have hx := hW1 (.cells #[.bool ng, .slice a 0 c] 45)
    refine ⟨r1.below hx r1.lt, ?_, (HD.out.below hB).below hx, hB.trans (hx.mono (by have := HWs.out; omega))⟩
    rw [HNG.out]
    exact Row.new W 45 _
  generalize (W.alloc (.cells #[.bool ng, .slice a 0 c] 45)).drew = W2 at *
  clear r0 r1 hB hS tri HD hW1
  have hK : w.heap.size + 1 < W.heap.size := by have := HWs.out; omega
  clear HWs
  generalize W.heap.size = K at *
  clear W
  have hbig := hT.big
  rw [HNG.out] at hbig
  obtain ⟨d0, d1⟩ := hbig.duo
  obtain ⟨f0, f1⟩ := hT.res.duo
  have ff := hT.res.frozen
  have hlt1 := hT.res.lt
  have hZe := Row.set2 hT.res (.int .i64 0) (.int .i64 0)
  have hBe := below_set (below_set hT.below (B := w.heap.size + 1) 0 (.int .i64 0) (by omega)) (B := w.heap.size + 1) 1 (.int .i64 0) (by omega)
  go_wp2
  exact bodyPost_ret (ret_two rfl (g := w.heap.size + 1) rfl rfl (load23 hZe rfl)) rfl ⟨rfl, hBe⟩
/-- A Num: a whole number times ten to the e. -/
def NumV (w : World) (z e : Int) (v : Value) : Prop := ∃ sv, v = .agg #[.bool (decide (z < 0)), sv, .int .i64 e] ∧ DgAt w sv (digs z.natAbs)
theorem told_any' (z e : Int) (v : Value) (w : World) (hV : NumV w z e v) (he1 : -2000 ≤ e) (he2 : e ≤ 2000) (hl : (digs z.natAbs).length ≤ 500) :
    Calls Tryd.prog 45 #[v] w fun r w' => r = .returned (decV (tell z e)) ∧ Below w.heap.size w w' := by
  obtain ⟨sv, rfl, hD⟩ := hV
  by_cases hz : z = 0
  · rw [show tell z e = some (0, 0) by rw [hz]; simp [tell, tellW_zero]]
    exact tell_nought z e sv w hz hD
  · exact tell_head z e sv w hz hD _ rfl he1 he2 hl
section
variable {P : Program} {ops : Array Oper} {Q : Exit → Act → World → Prop} {S : World → Prop} {E : Nat → Bool}
/-- An operation whose guard says no, held beside others. -/
theorem wpM_skiph (i : Nat) {o : Oper} {listed listed' : Array Bool} {fuel : Nat} {a : Act} {w : World} (ho : ops[i]? = some o) (hs : Region.noSelect ops = true)
    (hB : (closedB .any ops listed && Region.free .any ops listed i && (Region.ready .any ops listed).contains i && lateB .any ops E listed i) = true) (hL : listed.setIfInBounds i true = listed')
    (hQ : ∀ c a w, Q (.panic c) (a.put o.dst undef) w → Q (.panic c) a w) (hw : Region.wanted o (yielded ops a.tmps) = false) (hS : S w)
    (h : wpM P ops Q S E fuel listed' (a.put o.dst undef) w) : wpM P ops Q S E (fuel + 1) listed a w := by
  subst hL
  simp only [Bool.and_eq_true] at hB
  refine wpX_first ho (Region.noSelect_spec hs) hQ _ _ a w (closed_of_B hB.1.1.1) ?_ (Region.free_spec ho hB.1.1.2) (by simpa using hB.1.2) (.inr ⟨hw, rfl⟩) hS h
  intro j oj hj hl hE hji
  have := List.all_eq_true.1 hB.2 j (List.mem_range.2 (Array.getElem?_eq_some_iff.1 hj).1)
  simpa [hE, hl, hji] using this
end
theorem Tryd.zero45 : (Tryd.prog.info? 47).map (fun i => (i.zero, i.size)) = some (some (.agg #[.bool false, .slice none 0 0, .int .i64 0]), 3) := by kernel_rfl
theorem load45 {W : World} {B : Nat} {cs : Array Value} (h : Row W B 47 cs) (hs : cs.size = 3) : (loadVar 47 ⟨B, 0, none⟩).run Tryd.prog W = .ok (.agg cs) W :=
  run_loadVar_row _ _ 47 47 cs (0, 0) _ h Tryd.underlying47 rfl (by rw [hs]; exact (zero_of_info Tryd.zero45).2)
/-- A block below the digits is written. -/
theorem DgAt.off {W : World} {sv : Value} {ds : List Int} (h : DgAt W sv ds) {B : Nat} (hN : NewS (B + 1) sv) (i : Nat) (u : Value) : DgAt (W.setCell ⟨B, i, none⟩ u) sv ds := by
  refine ⟨?_, h.2⟩
  have hk := (Kept.refl (fun k => k ≠ B) W).setCell (p := ⟨B, i, none⟩) (by simp) u
  rcases h.1 with h0 | ⟨b, off, c, e, hb, hc⟩
  · exact .inl h0
  · by_cases h0 : ds = []
    · subst h0; exact .inl ⟨rfl, _, _, e⟩
    · have hl : 0 < ds.length := List.length_pos_iff.2 h0
      have hne : b ≠ B := by have := hN b off none ds.length c e hl; omega
      exact .inr ⟨b, off, c, e, Nat.lt_of_lt_of_le hb hk.size, fun j hj => (hk.cell (p := ⟨b, off + j, none⟩) hne).trans (hc j hj)⟩
end Go.Proofs.YtfbhonjndepjbaaDoor
