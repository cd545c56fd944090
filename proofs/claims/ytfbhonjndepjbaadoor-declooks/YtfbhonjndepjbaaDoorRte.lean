import Derived.Test.YtfbhonjndepjbaaDoorRfiM
/- Tell: how the document tells a number. -/
namespace Go.Proofs.YtfbhonjndepjbaaDoor
open Go.RowKit

theorem digs_pos_len {n : Nat} (h : n ≠ 0) : 1 ≤ (digs n).length := by rw [digs_pos n h]; simp
/-- What stays of a Tell's boxes. -/
structure TlAt (w : World) (K : Nat) (y : Int) (sv : Value) (wr : World) : Prop where
  res : Row wr (w.heap.size + 1) 23 #[.int .i64 0, .int .i64 0]
  big : Row wr K 45 #[.bool (decide (y < 0)), sv]
  dg : DgAt wr sv (digs y.natAbs)
  below : Below w.heap.size w wr
theorem TlAt.mono {w wr wx : World} {K : Nat} {y : Int} {sv : Value} (h : TlAt w K y sv wr) (hb : Below wr.heap.size wr wx) : TlAt w K y sv wx :=
  ⟨h.res.below hb h.res.lt, h.big.below hb h.big.lt, h.dg.below hb, h.below.trans (hb.mono h.below.size)⟩
/-- Another number is put into the box. -/
theorem TlAt.put {w wr wx : World} {K : Nat} {y y' : Int} {sv : Value} {a a' : Option Addr} {n c n' c' : Nat} (h : TlAt w K y sv wr) (hsv : sv = .slice a n c) (hK : w.heap.size + 1 < K) (hb : Below wr.heap.size wr wx) (hD : DgAt wx (.slice a' n' c') (digs y'.natAbs)) (ng : Bool) (hng : decide (y' < 0) = ng) :
    TlAt w K y' (.slice a' n' c') ((wx.setCell ⟨K, 0, none⟩ (.bool ng)).setCell ⟨K, 1, none⟩ (.slice a' n' c')) := by
  have h2 := h.mono hb
  have hbig := h2.big
  rw [hsv] at hbig
  refine ⟨(h2.res.off 0 _ (by omega)).off 1 _ (by omega), ?_, hD.store hbig _ _, below_set (below_set h2.below 0 _ (by omega)) 1 _ (by omega)⟩
  rw [hng]
  exact Row.set2 hbig _ _
/-- The digits without the first. -/
theorem DgAt.tail {W : World} {a : Option Addr} {n c : Nat} {d : Int} {ds : List Int} (h : DgAt W (.slice a n c) (d :: ds)) :
    ∃ a', (∀ V, (Instr.sliceAt 43 (.slice a n c) (some (.int .i64 1)) none none).run Tryd.prog V = .ok (.slice a' (n - 1) (c - 1)) V) ∧ n = ds.length + 1 ∧ ∀ V, Below W.heap.size W V → DgAt V (.slice a' (n - 1) (c - 1)) ds := by
  obtain ⟨hI, a0, c0, he, hc, hn⟩ := h
  simp only [Value.slice.injEq, List.length_cons] at he
  obtain ⟨rfl, rfl, rfl⟩ := he
  rcases hI with ⟨h0, _⟩ | ⟨b, off, c', he, hb, hcell⟩
  · cases h0
  · simp only [Value.slice.injEq, List.length_cons, true_and] at he
    obtain ⟨rfl, rfl⟩ := he
    rw [List.length_cons] at hc
    refine ⟨if c = 1 then some ⟨b, off, none⟩ else some ⟨b, off + 1, none⟩, fun V => ?_, rfl, fun V hV => ?_⟩
    · have h1 : (1 : Int) ≤ ((ds.length + 1 : Nat) : Int) := by omega
      by_cases hc1 : c = 1
      · subst hc1
        rw [if_pos rfl]
        go_simp
        omega
      · rw [if_neg hc1]
        go_simp
        intro h
        omega
    · have hk := Kept.of_below (S := fun k => k < W.heap.size) hV (fun _ h => h)
      refine ⟨?_, _, _, rfl, by show ds.length ≤ c - 1; omega, fun h => by split at h <;> cases h⟩
      by_cases h0 : ds = []
      · subst h0; exact .inl ⟨rfl, _, _, rfl⟩
      · have hl : 0 < ds.length := List.length_pos_iff.2 h0
        rw [if_neg (by omega)]
        refine .inr ⟨b, off + 1, c - 1, by simp, Nat.lt_of_lt_of_le hb hV.size, fun j hj => ?_⟩
        have := hcell (j + 1) (by rw [List.length_cons]; omega)
        rw [hk.cell (p := ⟨b, off + 1 + j, none⟩) hb, show off + 1 + j = off + (j + 1) by omega, this]
        rfl
theorem tell_fin (y f : Int) (k : Nat) (hy : y.natAbs % 10 ≠ 0) (hk : k = 0 ∨ 18 ≤ f - k) (hg : f - k ≤ 18) : tell y f = if fitsB (y * 10 ^ k) = true ∧ -18 ≤ f - k then some (y * 10 ^ k, f - k) else none := by
  by_cases h0 : k = 0
  · subst h0
    rw [tell_low y f hy (by omega)]
    simp
  · have h1 : f - (k : Int) = 18 := by omega
    rw [tell_high y f hy (by omega), show (f - 18).toNat = k by omega, h1]
    by_cases hf : fitsB (y * 10 ^ k) = true
    · rw [if_pos hf, if_pos ⟨hf, by decide⟩]
    · rw [if_neg hf, if_neg (fun h => hf h.1)]
theorem dval_drop_le {ds : List Int} (h : DgL ds) (m : Nat) : 0 ≤ dval (ds.drop m) ∧ dval (ds.drop m) ≤ dval ds := by
  have h1 := dval_nonneg (fun d hd => h d (List.mem_of_mem_drop hd) : DgL (ds.drop m))
  refine ⟨h1, ?_⟩
  have h2 := dval_nonneg (fun d hd => h d (List.mem_of_mem_take hd) : DgL (ds.take m))
  have e := dval_append (ds.take m) (ds.drop m)
  rw [List.take_append_drop] at e
  have hp := pow10_pos (ds.take m).length
  have : 1 * dval (ds.drop m) ≤ 10 ^ (ds.take m).length * dval (ds.drop m) := Int.mul_le_mul_of_nonneg_right (by omega) h1
  omega
theorem dval_drop (ds : List Int) (m : Nat) (h : m < ds.length) : dval (ds.drop m) = ds[m]?.getD 0 + 10 * dval (ds.drop (m + 1)) := by
  rw [List.drop_eq_getElem_cons h, List.getElem?_eq_getElem h]; rfl
set_option maxRecDepth 100000 in
set_option maxHeartbeats 4000000 in
theorem tell_head (z e : Int) (sv : Value) (w : World) (hz : z ≠ 0) (hD : DgAt w sv (digs z.natAbs)) (v : Value)
    (HV : Hid (v = decV (tell z e)))
    (he1 : -2000 ≤ e) (he2 : e ≤ 2000) (hl : (digs z.natAbs).length ≤ 500) :
    Calls Tryd.prog 45 #[.agg #[.bool (decide (z < 0)), sv, .int .i64 e]] w fun r w' => r = .returned v ∧ Below w.heap.size w w' := by
  obtain ⟨ng, HNG⟩ : ∃ ng, Hid (decide (z < 0) = ng) := ⟨_, rfl⟩
  rw [HNG.out]
  have hL1 := digs_pos_len (show z.natAbs ≠ 0 by omega)
  obtain ⟨_, a, c, rfl, _, _⟩ := id hD
  obtain ⟨L, HL⟩ : ∃ L, Hid ((digs z.natAbs).length = L) := ⟨_, rfl⟩
  rw [HL.out] at hD hL1 hl
  rw [HL.out]
  have HD : Hid (DgAt w (.slice a L c) (digs z.natAbs)) := hD
  have gL : ((L : Int) == 0) = false := by simp only [beq_eq_false_iff_ne]; omega
  clear hD
  go_enter Tryd.func45, Tryd.ntmps45
  go_wp2_with fail
  have r0 := (Row.new w 47 #[.bool ng, .slice a L c, .int .i64 e]).alloc (.cells #[.int .i64 0, .int .i64 0] 23)
  have r1 := Row.new1 w (.cells #[.bool ng, .slice a L c, .int .i64 e] 47) 23 #[.int .i64 0, .int .i64 0]
  have hB := ((Below.refl _ w).alloc (Nat.le_refl _) (.cells #[.bool ng, .slice a L c, .int .i64 e] 47)).alloc (by simp) (.cells #[.int .i64 0, .int .i64 0] 23)
  have hWs : ((w.alloc (.cells #[.bool ng, .slice a L c, .int .i64 e] 47)).alloc (.cells #[.int .i64 0, .int .i64 0] 23)).heap.size = w.heap.size + 2 := by simp
  generalize (w.alloc (.cells #[.bool ng, .slice a L c, .int .i64 e] 47)).alloc (.cells #[.int .i64 0, .int .i64 0] 23) = W at *
  have HWs : Hid (W.heap.size = w.heap.size + 2) := hWs
  clear hWs
  have hS : Below W.heap.size W W.drew := (Below.refl _ W).drew
  have tri : ∀ wx, Below W.heap.size W wx → wx.cell? ⟨w.heap.size, 0, none⟩ = some (.bool ng) ∧ wx.cell? ⟨w.heap.size, 1, none⟩ = some (.slice a L c) ∧ wx.cell? ⟨w.heap.size, 2, none⟩ = some (.int .i64 e) := fun wx hx =>
    ⟨(r0.below hx r0.lt).cell rfl, (r0.below hx r0.lt).cell rfl, (r0.below hx r0.lt).cell rfl⟩
  refine wp_region_M (fun wx : World => Below W.heap.size W wx) (fun j => decide (j < 7)) 7 rfl (by kernel_rfl) ?_
  refine wpM_held 0 (v := ?_) rfl (by kernel_rfl) (by kernel_rfl) rfl (fun _ _ _ h => h) rfl (by intro wx hx; go_simp <;> rfl) hS ?_
  refine wpM_held 1 (v := .agg #[.bool ng, .slice a L c]) rfl (by kernel_rfl) (by kernel_rfl) rfl (fun _ _ _ h => h) rfl (by intro wx hx; obtain ⟨x0, x1, x2⟩ := tri wx hx; go_simp <;> rfl) hS ?_
  refine wpM_held 2 (v := ?_) rfl (by kernel_rfl) (by kernel_rfl) rfl (fun _ _ _ h => h) rfl (by intro wx hx; go_simp <;> rfl) hS ?_
  refine wpM_held 3 (v := .int .i64 e) rfl (by kernel_rfl) (by kernel_rfl) rfl (fun _ _ _ h => h) rfl (by intro wx hx; obtain ⟨x0, x1, x2⟩ := tri wx hx; go_simp <;> rfl) hS ?_
  refine wpM_one 4 rfl (by kernel_rfl) rfl ?_
  go_wp2_with fail
  have hW1 : ∀ o, Below W.heap.size W (W.alloc o).drew := fun o => ((Below.refl _ W).alloc (Nat.le_refl _) o).drew
  refine ⟨fun _ => hW1 _, ?_⟩
  refine wpM_one 5 rfl (by kernel_rfl) rfl ?_
  go_wp2_with fail
  refine ⟨fun _ => hW1 _, ?_⟩
  refine wpM_one 6 rfl (by kernel_rfl) rfl ?_
  go_wp2_with fail
  refine ⟨fun _ => hW1 _, ?_⟩
  refine wpM_done (by kernel_rfl) ?_
  have hT : TlAt w W.heap.size z (.slice a L c) (W.alloc (.cells #[.bool ng, .slice a L c] 45)).drew := by
    have hx := hW1 (.cells #[.bool ng, .slice a L c] 45)
    refine ⟨r1.below hx r1.lt, ?_, (HD.out.below hB).below hx, hB.trans (hx.mono (by have := HWs.out; omega))⟩
    rw [HNG.out]
    exact Row.new W 45 _
  generalize (W.alloc (.cells #[.bool ng, .slice a L c] 45)).drew = W2 at *
  clear r0 r1 hB hS tri HD hW1
  have hK : w.heap.size + 1 < W.heap.size := by have := HWs.out; omega
  clear HWs
  generalize W.heap.size = K at *
  clear W
  have hbig := hT.big
  rw [HNG.out] at hbig
  obtain ⟨d0, d1⟩ := hbig.duo
  obtain ⟨f0, f1⟩ := hT.res.duo
  have ff := hT.res.frozen
  have hlt1 := hT.res.lt
  by_cases h60 : 60 < e
  · have HVN : Hid (v = .tuple #[.agg #[.int .i64 0, .int .i64 0], .int .i64 30]) := by
      show _ = _
      rw [HV.out, tell_far z e hz h60]; rfl
    have hZe := Row.set2 hT.res (.int .i64 0) (.int .i64 0)
    have hBe := below_set (below_set hT.below (B := w.heap.size + 1) 0 (.int .i64 0) (by omega)) (B := w.heap.size + 1) 1 (.int .i64 0) (by omega)
    clear HV
    go_wp2
    exact bodyPost_ret (ret_two rfl (g := w.heap.size + 1) rfl rfl (load23 hZe rfl)) rfl ⟨by rw [HVN.out]; rfl, hBe⟩
  · have g60 : decide (60 < e) = false := decide_eq_false h60
    clear h60
    go_wp2
    clear d0 d1 f0 f1 ff hlt1 hbig
    go_loopw [5] (fun v5 wr => ∃ (y f : Int) (a : Option Addr) (n c : Nat), v5 = .int .i64 f ∧ TlAt w K y (.slice a n c) wr ∧ Hid (y ≠ 0 ∧ tell y f = tell z e ∧ (digs y.natAbs).length = n ∧ f + n ≤ e + L) ∧ -2000 ≤ f ∧ f ≤ 4000 ∧ n ≤ 500) (fun v5 _ => (5000 - intOf v5).toNat)
    case atStart => exact ⟨z, e, a, L, c, rfl, hT, ⟨hz, rfl, HL.out, Int.le_refl _⟩, he1, by omega, hl⟩
    case round =>
      obtain ⟨y, f, a1, n, c1, rfl, hT1, HY, hf1, hf2, hn200⟩ := hrel
      clear hT
      obtain ⟨ny, HNY⟩ : ∃ ny, Hid (decide (y < 0) = ny) := ⟨_, rfl⟩
      have hbig := hT1.big
      rw [HNY.out] at hbig
      obtain ⟨d0, d1⟩ := hbig.duo
      have hy0 := HY.out.1
      have hdg := hT1.dg
      have hds := digs_pos y.natAbs (show y.natAbs ≠ 0 by omega)
      rw [hds] at hdg
      obtain ⟨a2, hsl, hn, htl⟩ := hdg.tail
      obtain ⟨bb, off, hab, _, hc0⟩ := hdg.1.at 0 (by simp)
      subst hab
      obtain ⟨d, hd⟩ : ∃ d, y.natAbs % 10 = d := ⟨_, rfl⟩
      simp only [List.getElem?_cons_zero, Option.getD_some, Nat.add_zero] at hc0
      rw [hd] at hc0 hds
      have gn : (0 : Int) < (n : Int) := by omega
      have HN : Hid (n = (digs (y.natAbs / 10)).length + 1) := hn
      have HTL : Hid (∀ V, Below wr.heap.size wr V → DgAt V (.slice a2 (n - 1) (c1 - 1)) (digs (y.natAbs / 10))) := htl
      have HD9 : Hid (y.natAbs % 10 = d) := hd
      clear hn htl hd hdg hds
      by_cases h0 : d = 0
      · subst h0
        obtain ⟨y', hy'⟩ : ∃ y', bval ny (digs (y.natAbs / 10)) = y' := ⟨_, rfl⟩
        have hyq : y = y' * 10 := by
          rw [← hy']
          unfold bval
          rw [dval_digs, ← HNY.out]
          have h9 := HD9.out
          by_cases hs : y < 0
          · rw [decide_eq_true hs, if_pos rfl]; omega
          · rw [decide_eq_false hs, if_neg (by simp)]; omega
        have hln : (digs y'.natAbs).length = n - 1 := by rw [show y'.natAbs = y.natAbs / 10 by omega, HN.out]; omega
        have hn1 := digs_pos_len (show y'.natAbs ≠ 0 by omega)
        have HY2 : Hid (y' ≠ 0 ∧ tell y' (f + 1) = tell z e ∧ (digs y'.natAbs).length = n - 1 ∧ f + 1 + ((n - 1 : Nat) : Int) ≤ e + L) := by
          obtain ⟨i1, i2, i3, i4⟩ := HY.out
          refine ⟨by omega, ?_, hln, by omega⟩
          rw [← i2, hyq]
          have := tell_pow y' (f + 1) 1
          rw [show f + 1 - ((1 : Nat) : Int) = f by omega, Int.pow_succ, Int.pow_zero, Int.one_mul] at this
          exact this.symm
        have hf3 : f + 1 ≤ 4000 := by have := HY.out.2.2.2; omega
        have HNY2 : Hid (decide (y' < 0) = ny) := by
          show _ = _
          rw [← HNY.out]
          by_cases hs : y < 0
          · rw [decide_eq_true hs, decide_eq_true (by omega)]
          · rw [decide_eq_false hs, decide_eq_false (by omega)]
        have HTR : ∀ V, Below wr.heap.size wr V → Hid (Calls Tryd.prog 59 #[.agg #[.bool ny, .slice a2 (n - 1) (c1 - 1)]] V fun r w' => ∃ v', r = .returned v' ∧ BigV w' y' v' ∧ Below V.heap.size V w') := fun V h => by
          have := trim_any ny _ _ V (HTL.out V h) (digs_dg _) (by have := HN.out; omega)
          rw [hy'] at this
          exact this
        have HT1 : Hid (TlAt w K y (.slice (some ⟨bb, off, none⟩) n c1) wr) := hT1
        have hg0 : (1 : Int) ≤ (n : Int) := by omega
        clear hyq hy' hy0 hT1 HV
        go_wp2_with fail
        have hS : Below wr.heap.size wr wr.drew := (Below.refl _ wr).drew
        have duo : ∀ wx, Below wr.heap.size wr wx → wx.cell? ⟨K, 0, none⟩ = some (.bool ny) ∧ wx.cell? ⟨K, 1, none⟩ = some (.slice (some ⟨bb, off, none⟩) n c1) := fun wx hx => (hbig.below hx hbig.lt).duo
        have keyS : ∀ wx x, x = Value.slice (some ⟨bb, off, none⟩) n c1 → (((Instr.sliceAt 43 x (some (.int .i64 1)) none none).run Tryd.prog wx).andThen fun a w' => Result.ok (Next.value a) w') = Result.ok (Next.value (.slice a2 (n - 1) (c1 - 1))) wx := by
          rintro wx _ rfl; rw [hsl wx]; rfl
        refine wp_region_M (fun wx : World => Below wr.heap.size wr wx) (fun j => decide (j < 7)) 8 rfl (by kernel_rfl) ?_
        refine wpM_held 0 (v := ?_) rfl (by kernel_rfl) (by kernel_rfl) rfl (fun _ _ _ h => h) rfl (by intro wx hx; go_simp <;> rfl) hS ?_
        refine wpM_held 1 (v := .bool ny) rfl (by kernel_rfl) (by kernel_rfl) rfl (fun _ _ _ h => h) rfl (by intro wx hx; obtain ⟨x0, x1⟩ := duo wx hx; go_simp <;> rfl) hS ?_
        refine wpM_held 2 (v := ?_) rfl (by kernel_rfl) (by kernel_rfl) rfl (fun _ _ _ h => h) rfl (by intro wx hx; go_simp <;> rfl) hS ?_
        refine wpM_held 3 (v := .slice (some ⟨bb, off, none⟩) n c1) rfl (by kernel_rfl) (by kernel_rfl) rfl (fun _ _ _ h => h) rfl (by intro wx hx; obtain ⟨x0, x1⟩ := duo wx hx; go_simp <;> rfl) hS ?_
        refine wpM_held 4 (v := .slice a2 (n - 1) (c1 - 1)) rfl (by kernel_rfl) (by kernel_rfl) rfl (fun _ _ _ h => h) rfl (by intro wx hx; simp [execOp, Act.eval]; exact keyS wx _ rfl) hS ?_
        refine wpM_one 5 rfl (by kernel_rfl) rfl ?_
        go_wp2_with fail
        refine ⟨fun _ => hS, ?_⟩
        refine wpM_one 6 rfl (by kernel_rfl) rfl ?_
        go_wp2_with fail
        refine Calls.mono (HTR _ hS).out ?_
        rintro _ wb ⟨v2, rfl, hV2, b2⟩
        obtain ⟨s2, rfl, hD2⟩ := hV2
        obtain ⟨_, a6, c6, rfl, _, _⟩ := id hD2
        have hW3 : Below wr.heap.size wr wb := hS.trans (b2.mono hS.size)
        clear b2 HTR hS
        unfold bv
        rw [HNY2.out]
        rw [HY2.out.2.2.1] at hD2
        rw [HY2.out.2.2.1]
        go_wp2_with fail
        refine ⟨fun _ => hW3, ?_⟩
        have p2 := hbig.below hW3 hbig.lt
        obtain ⟨y0, y1⟩ := p2.duo
        have zf := p2.frozen
        have hT2 := HT1.out.put rfl hK hW3 hD2 ny HNY2.out
        refine wpM_one 7 rfl (by kernel_rfl) rfl ?_
        go_wp2_with fail
        refine ⟨fun h => by simp at h, ?_⟩
        refine wpM_done (by kernel_rfl) ?_
        go_wp2
        go_roundw
        case rel => exact ⟨y', f + 1, a6, n - 1, c6, by go_num, hT2, HY2, by omega, hf3, by omega⟩
        case measure => simp [intOf]; omega
      · have gd : ((d : Int) == 0) = false := by simp only [beq_eq_false_iff_ne]; omega
        have HYD : Hid (y.natAbs % 10 ≠ 0 ∧ tell y f = tell z e) := ⟨by rw [HD9.out]; exact h0, HY.out.2.1⟩
        have HY0 : Hid (y ≠ 0) := hy0
        have HNN : Hid ((digs y.natAbs).length = n) := HY.out.2.2.1
        have HT1 : Hid (TlAt w K y (.slice (some ⟨bb, off, none⟩) n c1) wr) := hT1
        clear h0 HY HD9 HTL HN hsl hT1 hy0
        go_wp2
        clear d0 d1 hc0 hbig gd
        go_loopw [5] (fun v5 wx => ∃ (k : Nat) (a : Option Addr) (n c : Nat), v5 = .int .i64 (f - (k : Int)) ∧ Hid (TlAt w K (y * 10 ^ k) (.slice a n c) wx) ∧ Hid ((digs (y * 10 ^ k).natAbs).length = n ∧ (k = 0 ∨ 18 ≤ f - (k : Int))) ∧ n ≤ 500 ∧ -2000 ≤ f - (k : Int) ∧ (k : Int) ≤ 6000) (fun v5 _ => (intOf v5 + 600).toNat)
        case atStart => exact ⟨0, _, n, c1, by simp, by show TlAt _ _ _ _ _; simpa using HT1.out, by show _ ∧ _; exact ⟨by simpa using HNN.out, .inl rfl⟩, hn200, by simpa using hf1, by omega⟩
        case round =>
          obtain ⟨k, a5, n5, c5, rfl, HT5, HN5, hn5, hk1, hk2⟩ := hrel
          clear HT1 HNN
          obtain ⟨x, hx⟩ : ∃ x, y * 10 ^ k = x := ⟨_, rfl⟩
          rw [hx] at HT5 HN5
          obtain ⟨nx, HNX⟩ : ∃ nx, Hid (decide (x < 0) = nx) := ⟨_, rfl⟩
          obtain ⟨g, hg⟩ : ∃ g, f - (k : Int) = g := ⟨_, rfl⟩
          have hbig := HT5.out.big
          rw [HNX.out] at hbig
          obtain ⟨d0, d1⟩ := hbig.duo
          have hres := HT5.out.res
          obtain ⟨e0, e1⟩ := hres.duo
          have hlK := hbig.lt
          have hlR := hres.lt
          have ff := hres.frozen
          have HG : Hid (f - (k : Int) = g) := hg
          have HX : Hid (y * 10 ^ k = x) := hx
          have hgu : g ≤ 4000 := by omega
          rw [hg] at hk1 ⊢
          clear hx hg
          by_cases hc : 18 < g
          · by_cases hn30 : n5 < 30
            · have g2 : (n5 : Int) < 30 := by omega
              have HSH : ∀ V, Below wr.heap.size wr V → Hid (Calls Tryd.prog 58 #[.agg #[.bool nx, .slice a5 n5 c5], .int .i64 1] V fun r w' => ∃ v', r = .returned v' ∧ BigV w' (x * 10 ^ 1) v' ∧ Below V.heap.size V w') := fun V h => by
                have := shift_any x (bv (decide (x < 0)) (.slice a5 n5 c5)) 1 V ⟨_, rfl, HT5.out.dg.below h⟩ (by omega) (by rw [HN5.out.1]; omega)
                rw [HNX.out] at this
                exact this
              have hx1 : y * 10 ^ (k + 1) = x * 10 ^ 1 := by rw [← HX.out, Int.pow_succ, Int.pow_succ, Int.pow_zero, Int.one_mul, Int.mul_assoc]
              have HX1 : Hid (y * 10 ^ (k + 1) = x * 10 ^ 1) := hx1
              obtain ⟨n6, hn6e⟩ : ∃ n6, (digs (x * 10 ^ 1).natAbs).length = n6 := ⟨_, rfl⟩
              have HN6 : Hid ((digs (x * 10 ^ 1).natAbs).length = n6) := hn6e
              clear hn6e
              have hn6 : n6 ≤ 500 := by
                rw [← HN6.out]
                refine Nat.le_trans (digs_len _ 31 ?_) (by omega)
                have h1 := HN5.out.1
                have h2 : x.natAbs < 10 ^ 30 := by
                  have := dval_lt (digs_dg x.natAbs)
                  rw [dval_digs, h1] at this
                  have h3 : (10 : Nat) ^ n5 ≤ 10 ^ 30 := Nat.pow_le_pow_right (by decide) (by omega)
                  have h4 : (x.natAbs : Int) < ((10 ^ n5 : Nat) : Int) := by rw [Int.natCast_pow]; exact this
                  omega
                rw [Int.natAbs_mul]
                have : ((10 : Int) ^ 1).natAbs = 10 := rfl
                rw [this, Nat.pow_succ]
                omega
              obtain ⟨nz, hnz⟩ : ∃ nz, decide (x * 10 ^ 1 < 0) = nz := ⟨_, rfl⟩
              have HNZ : Hid (decide (x * 10 ^ 1 < 0) = nz) := hnz
              clear hnz
              clear hx1 hn30 HV e0 e1 ff
              go_wp2_with fail
              refine Calls.mono (HSH _ (Below.refl _ _)).out ?_
              rintro _ wb ⟨v2, rfl, hV2, b2⟩
              obtain ⟨s2, rfl, hD2⟩ := hV2
              obtain ⟨_, a6, c6, rfl, _, _⟩ := id hD2
              unfold bv
              rw [HNZ.out]
              rw [HN6.out] at hD2
              rw [HN6.out]
              have p2 := hbig.below b2 hbig.lt
              clear d0 d1
              obtain ⟨y0, y1⟩ := p2.duo
              have zf := p2.frozen
              have hlb := p2.lt
              have hT6 := HT5.out.put rfl hK b2 hD2 nz HNZ.out
              have HT6 : Hid (TlAt w K (y * 10 ^ (k + 1)) (.slice a6 n6 c6) ((wb.setCell ⟨K, 0, none⟩ (.bool nz)).setCell ⟨K, 1, none⟩ (.slice a6 n6 c6))) := by show TlAt _ _ _ _ _; rw [HX1.out]; exact hT6
              have HN7 : Hid ((digs (y * 10 ^ (k + 1)).natAbs).length = n6 ∧ (k + 1 = 0 ∨ 18 ≤ f - ((k + 1 : Nat) : Int))) := by
                show _ ∧ _
                rw [HX1.out]
                exact ⟨HN6.out, .inr (by have := HG.out; omega)⟩
              have HG2 : Hid (f - ((k + 1 : Nat) : Int) = g - 1) := by show _ = _; have := HG.out; omega
              clear b2 hT6 HSH HT5 p2
              go_wp2
              go_roundw
              case rel => exact ⟨k + 1, a6, n6, c6, by rw [HG2.out], HT6, HN7, hn6, by rw [HG2.out]; omega, by have := HG.out; omega⟩
              case measure => simp [intOf]; omega
            · have g2 : decide ((n5 : Int) < 30) = false := decide_eq_false (by omega)
              have g3 : decide (n5 < 30) = false := decide_eq_false hn30
              have HMA : Hid (tell y f = none) := tell_many y f k HYD.out.1 (by have := HG.out; omega) (by rw [HX.out, HN5.out.1]; omega)
              have HVN : Hid (v = .tuple #[.agg #[.int .i64 0, .int .i64 0], .int .i64 30]) := by
                show _ = _
                rw [HV.out, ← HYD.out.2, HMA.out]; rfl
              have hZe := Row.set2 hres (.int .i64 0) (.int .i64 0)
              have hBe := below_set (below_set HT5.out.below (B := w.heap.size + 1) 0 (.int .i64 0) (by omega)) (B := w.heap.size + 1) 1 (.int .i64 0) (by omega)
              clear HV HT5
              go_wp2
              exact bodyPost_ret (ret_two rfl (g := w.heap.size + 1) rfl rfl (load23 hZe rfl)) rfl ⟨by rw [HVN.out]; rfl, hBe⟩
          · have g1 : decide (18 < g) = false := decide_eq_false hc
            have hfin := tell_fin y f k HYD.out.1 HN5.out.2 (by have := HG.out; omega)
            rw [HX.out, HG.out] at hfin
            have HFI : Hid (tell y f = if fitsB x = true ∧ -18 ≤ g then some (x, g) else none) := hfin
            clear hfin
            by_cases hlow : g < -18
            · have HMA : Hid (tell y f = none) := by show _ = _; rw [HFI.out, if_neg (by omega)]
              have HVN : Hid (v = .tuple #[.agg #[.int .i64 0, .int .i64 0], .int .i64 30]) := by
                show _ = _
                rw [HV.out, ← HYD.out.2, HMA.out]; rfl
              have hZe := Row.set2 hres (.int .i64 0) (.int .i64 0)
              have hBe := below_set (below_set HT5.out.below (B := w.heap.size + 1) 0 (.int .i64 0) (by omega)) (B := w.heap.size + 1) 1 (.int .i64 0) (by omega)
              clear HV HT5
              go_wp2
              exact bodyPost_ret (ret_two rfl (g := w.heap.size + 1) rfl rfl (load23 hZe rfl)) rfl ⟨by rw [HVN.out]; rfl, hBe⟩
            · have g2 : decide (g < -18) = false := decide_eq_false hlow
              have HFT : Hid (Calls Tryd.prog 79 #[.agg #[.bool nx, .slice a5 n5 c5]] wr fun r w' => r = .returned (.bool (fitsB x)) ∧ Below wr.heap.size wr w') := by
                have := fits_any x (bv (decide (x < 0)) (.slice a5 n5 c5)) wr ⟨_, rfl, HT5.out.dg⟩ (by rw [HN5.out.1]; omega)
                rw [HNX.out] at this
                exact this
              obtain ⟨fb, HFB⟩ : ∃ fb, Hid (fitsB x = fb) := ⟨_, rfl⟩
              rw [HFB.out] at HFT
              go_wp2_with fail
              refine Calls.mono HFT.out ?_
              rintro _ wb ⟨rfl, b2⟩
              have HT6 : Hid (TlAt w K x (.slice a5 n5 c5) wb) := HT5.out.mono b2
              have hres := HT6.out.res
              have hbig := HT6.out.big
              rw [HNX.out] at hbig
              clear d0 d1 e0 e1 ff hlR hlK b2 HFT HT5
              obtain ⟨d0, d1⟩ := hbig.duo
              obtain ⟨e0, e1⟩ := hres.duo
              have ff := hres.frozen
              have hlR := hres.lt
              cases fb
              · have HMA : Hid (tell y f = none) := by show _ = _; rw [HFI.out, if_neg (by rw [HFB.out]; simp)]
                have HVN : Hid (v = .tuple #[.agg #[.int .i64 0, .int .i64 0], .int .i64 30]) := by
                  show _ = _
                  rw [HV.out, ← HYD.out.2, HMA.out]; rfl
                have hZe := Row.set2 hres (.int .i64 0) (.int .i64 0)
                have hBe := below_set (below_set HT6.out.below (B := w.heap.size + 1) 0 (.int .i64 0) (by omega)) (B := w.heap.size + 1) 1 (.int .i64 0) (by omega)
                clear HV HT6
                go_wp2
                exact bodyPost_ret (ret_two rfl (g := w.heap.size + 1) rfl rfl (load23 hZe rfl)) rfl ⟨by rw [HVN.out]; rfl, hBe⟩
              · have HVS : Hid (v = .tuple #[.agg #[.int .i64 x, .int .i64 g], .int .i64 0]) := by
                  show _ = _
                  rw [HV.out, ← HYD.out.2, HFI.out, if_pos ⟨HFB.out, by omega⟩]; rfl
                have HXB : Hid (-9223372036854775808 ≤ x ∧ x ≤ 9223372036854775807) := by
                  have := HFB.out
                  unfold fitsB at this
                  simp at this
                  exact this
                clear HV HYD HFI HX HG
                cases nx
                · go_wp2
                  clear d0 d1 e0 e1 ff hlR hres hbig
                  go_loopw [6, 7] (fun v6 v7 wx => ∃ (m : Nat) (c : Int), m ≤ n5 ∧ v7 = .int .i64 ((m : Int) - 1) ∧ v6 = .int .i64 c ∧ Hid (c = bval false ((digs x.natAbs).drop m)) ∧ Hid (TlAt w K x (.slice a5 n5 c5) wx)) (fun _ v7 _ => (intOf v7 + 1).toNat)
                  case atStart => exact ⟨n5, 0, Nat.le_refl _, by first | rfl | go_num, rfl, by show _ = _; rw [List.drop_of_length_le (by rw [HN5.out.1]; exact Nat.le_refl _)]; rfl, HT6⟩
                  case round =>
                  obtain ⟨m, c7, hm, rfl, rfl, HC, HT8⟩ := hrel
                  clear HT6
                  have hres := HT8.out.res
                  have hbig := HT8.out.big
                  rw [HNX.out] at hbig
                  obtain ⟨d0, d1⟩ := hbig.duo
                  obtain ⟨e0, e1⟩ := hres.duo
                  have ff := hres.frozen
                  have hlR := hres.lt
                  by_cases hm0 : m = 0
                  · subst hm0
                    have hcx : c7 = x := by
                      have h1 := HC.out
                      rw [List.drop_zero] at h1
                      rw [h1]
                      have h2 := HNX.out
                      unfold bval
                      rw [dval_digs]
                      simp at h2 ⊢
                      omega
                    have HCX : Hid (c7 = x) := hcx
                    have hZe := Row.set2 hres (.int .i64 c7) (.int .i64 g)
                    have hBe := below_set (below_set HT8.out.below (B := w.heap.size + 1) 0 (.int .i64 c7) (by omega)) (B := w.heap.size + 1) 1 (.int .i64 g) (by omega)
                    clear HT8 hcx
                    go_wp2
                    exact bodyPost_ret (ret_two rfl (g := w.heap.size + 1) rfl rfl (load23 hZe rfl)) rfl ⟨by rw [HVS.out, ← HCX.out]; rfl, hBe⟩
                  · obtain ⟨i, hi⟩ : ∃ i, m = i + 1 := ⟨m - 1, by omega⟩
                    have hki : (m : Int) - 1 = (i : Int) := by omega
                    have HMI : Hid (m = i + 1) := hi
                    have hin : (i : Int) < (n5 : Int) := by omega
                    obtain ⟨b5, off5, hab, _, hci⟩ := HT8.out.dg.1.at i (by rw [HN5.out.1]; omega)
                    subst hab
                    obtain ⟨d7, hd7⟩ : ∃ d7, (digs x.natAbs)[i]?.getD 0 = d7 := ⟨_, rfl⟩
                    rw [hd7] at hci
                    have hdb := (digs_dg x.natAbs).get i
                    rw [hd7] at hdb
                    have hdr := dval_drop (digs x.natAbs) i (by rw [HN5.out.1]; omega)
                    rw [hd7, ← hi] at hdr
                    have hb1 := dval_drop_le (digs_dg x.natAbs) i
                    have hb2 := dval_drop_le (digs_dg x.natAbs) m
                    rw [dval_digs] at hb1 hb2
                    obtain ⟨c8, hc8⟩ : ∃ c8, c7 * 10 + d7 = c8 := ⟨_, rfl⟩
                    have hcv := HC.out
                    have HC8 : Hid (c8 = bval false ((digs x.natAbs).drop i)) := by
                      show _ = _
                      rw [← hc8, hcv]
                      unfold bval
                      simp
                      omega
                    have hc8v := HC8.out
                    have hxs := HNX.out
                    have hfx := HXB.out
                    have k1 : -9223372036854775808 ≤ c7 * 10 := by unfold bval at hcv hc8v; simp at hcv hc8v hxs; omega
                    have k2 : c7 * 10 ≤ 9223372036854775807 := by unfold bval at hcv hc8v; simp at hcv hc8v hxs; omega
                    have k3 : -9223372036854775808 ≤ c8 := by unfold bval at hcv hc8v; simp at hcv hc8v hxs; omega
                    have k4 : c8 ≤ 9223372036854775807 := by unfold bval at hcv hc8v; simp at hcv hc8v hxs; omega
                    clear hi hm0 hdr hb1 hb2 hdb hd7 hcv hc8v hxs hfx hres
                    go_wp2
                    go_roundw
                    case rel => exact ⟨i, c8, by omega, by go_num, by first | rfl | go_num, HC8, HT8⟩
                    case measure => have := HMI.out; simp [intOf]; omega
                · go_wp2
                  clear d0 d1 e0 e1 ff hlR hres hbig
                  go_loopw [6, 7] (fun v6 v7 wx => ∃ (m : Nat) (c : Int), m ≤ n5 ∧ v7 = .int .i64 ((m : Int) - 1) ∧ v6 = .int .i64 c ∧ Hid (c = bval true ((digs x.natAbs).drop m)) ∧ Hid (TlAt w K x (.slice a5 n5 c5) wx)) (fun _ v7 _ => (intOf v7 + 1).toNat)
                  case atStart => exact ⟨n5, 0, Nat.le_refl _, by first | rfl | go_num, rfl, by show _ = _; rw [List.drop_of_length_le (by rw [HN5.out.1]; exact Nat.le_refl _)]; rfl, HT6⟩
                  case round =>
                  obtain ⟨m, c7, hm, rfl, rfl, HC, HT8⟩ := hrel
                  clear HT6
                  have hres := HT8.out.res
                  have hbig := HT8.out.big
                  rw [HNX.out] at hbig
                  obtain ⟨d0, d1⟩ := hbig.duo
                  obtain ⟨e0, e1⟩ := hres.duo
                  have ff := hres.frozen
                  have hlR := hres.lt
                  by_cases hm0 : m = 0
                  · subst hm0
                    have hcx : c7 = x := by
                      have h1 := HC.out
                      rw [List.drop_zero] at h1
                      rw [h1]
                      have h2 := HNX.out
                      unfold bval
                      rw [dval_digs]
                      simp at h2 ⊢
                      omega
                    have HCX : Hid (c7 = x) := hcx
                    have hZe := Row.set2 hres (.int .i64 c7) (.int .i64 g)
                    have hBe := below_set (below_set HT8.out.below (B := w.heap.size + 1) 0 (.int .i64 c7) (by omega)) (B := w.heap.size + 1) 1 (.int .i64 g) (by omega)
                    clear HT8 hcx
                    go_wp2
                    exact bodyPost_ret (ret_two rfl (g := w.heap.size + 1) rfl rfl (load23 hZe rfl)) rfl ⟨by rw [HVS.out, ← HCX.out]; rfl, hBe⟩
                  · obtain ⟨i, hi⟩ : ∃ i, m = i + 1 := ⟨m - 1, by omega⟩
                    have hki : (m : Int) - 1 = (i : Int) := by omega
                    have HMI : Hid (m = i + 1) := hi
                    have hin : (i : Int) < (n5 : Int) := by omega
                    obtain ⟨b5, off5, hab, _, hci⟩ := HT8.out.dg.1.at i (by rw [HN5.out.1]; omega)
                    subst hab
                    obtain ⟨d7, hd7⟩ : ∃ d7, (digs x.natAbs)[i]?.getD 0 = d7 := ⟨_, rfl⟩
                    rw [hd7] at hci
                    have hdb := (digs_dg x.natAbs).get i
                    rw [hd7] at hdb
                    have hdr := dval_drop (digs x.natAbs) i (by rw [HN5.out.1]; omega)
                    rw [hd7, ← hi] at hdr
                    have hb1 := dval_drop_le (digs_dg x.natAbs) i
                    have hb2 := dval_drop_le (digs_dg x.natAbs) m
                    rw [dval_digs] at hb1 hb2
                    obtain ⟨c8, hc8⟩ : ∃ c8, c7 * 10 - d7 = c8 := ⟨_, rfl⟩
                    have hcv := HC.out
                    have HC8 : Hid (c8 = bval true ((digs x.natAbs).drop i)) := by
                      show _ = _
                      rw [← hc8, hcv]
                      unfold bval
                      simp
                      omega
                    have hc8v := HC8.out
                    have hxs := HNX.out
                    have hfx := HXB.out
                    have k1 : -9223372036854775808 ≤ c7 * 10 := by unfold bval at hcv hc8v; simp at hcv hc8v hxs; omega
                    have k2 : c7 * 10 ≤ 9223372036854775807 := by unfold bval at hcv hc8v; simp at hcv hc8v hxs; omega
                    have k3 : -9223372036854775808 ≤ c8 := by unfold bval at hcv hc8v; simp at hcv hc8v hxs; omega
                    have k4 : c8 ≤ 9223372036854775807 := by unfold bval at hcv hc8v; simp at hcv hc8v hxs; omega
                    clear hi hm0 hdr hb1 hb2 hdb hd7 hcv hc8v hxs hfx hres
                    go_wp2
                    go_roundw
                    case rel => exact ⟨i, c8, by omega, by go_num, by first | rfl | go_num, HC8, HT8⟩
                    case measure => have := HMI.out; simp [intOf]; omega
end Go.Proofs.YtfbhonjndepjbaaDoor
