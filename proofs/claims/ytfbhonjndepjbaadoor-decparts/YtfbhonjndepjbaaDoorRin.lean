import Derived.Test.YtfbhonjndepjbaaDoorRpxM
import Derived.Deep.CutBlock
import Derived.Deep.DeepCutAuto
/- The document's Int. -/
namespace Go.Proofs.YtfbhonjndepjbaaDoor
open Go.RowKit

theorem tell_int (v : Int) (hv : I64 v) : ∃ (C : Int) (E : Nat), tell v 0 = some (C, (E : Int)) ∧ C * 10 ^ E = v ∧ E ≤ 18 := by
  obtain ⟨C, E, h⟩ := tell_of_dec v 0 (by decide) (by decide) hv.1 hv.2
  obtain ⟨h1, h2, _, _, h5, h6, h7⟩ := tell_some h
  have hE : 0 ≤ E := by
    rcases Int.lt_or_le E 0 with hl | hl
    · exfalso
      have h8 := h7 E (by omega) (Int.le_refl _)
      unfold V at h8
      obtain ⟨m, hm⟩ : ∃ m : Nat, (0 - E).toNat = m + 1 := ⟨(0 - E).toNat - 1, by omega⟩
      rw [show (E - E).toNat = 0 by omega, hm, Int.pow_zero, Int.mul_one, Int.pow_succ, ← Int.mul_assoc] at h8
      omega
    · exact hl
  obtain ⟨m, rfl⟩ := Int.eq_ofNat_of_zero_le hE
  refine ⟨C, m, h, ?_, by omega⟩
  have h8 := h7 0 (Int.le_refl _) hE
  unfold V at h8
  simpa using h8
set_option maxRecDepth 100000 in
set_option maxHeartbeats 8000000 in
theorem rint_ok (c e : Int) (hc : I64 c) (he : within e) (w : World) : Calls Tryd.prog 37 #[.agg #[.int .i64 c, .int .i64 e]] w fun r w' => r = .returned (intV c e) ∧ Below w.heap.size w w' := by
  have HNU : ∀ V, Hid (Calls Tryd.prog 53 #[.agg #[.int .i64 c, .int .i64 e]] V _) := fun V => num_any c e hc V
  rw [decide_eq_true (show (-18 ≤ e ∧ e ≤ 18) from he)] at HNU
  obtain ⟨h1, h2⟩ : -18 ≤ e ∧ e ≤ 18 := he
  obtain ⟨res, HRES⟩ : ∃ res, Hid (intV c e = res) := ⟨_, rfl⟩
  rw [HRES.out]
  have HC : Hid (I64 c) := hc
  have HE : Hid (within e) := ⟨h1, h2⟩
  have b0 := (Below.refl _ w).alloc (Nat.le_refl _) (.cells #[.int .i64 c, .int .i64 e] 23)
  clear hc
  go_enter Tryd.func37, Tryd.ntmps37
  go_wp2_with fail
  generalize w.alloc (.cells #[.int .i64 c, .int .i64 e] 23) = W at *
  refine Calls.mono (HNU W).out ?_
  rintro _ w3 ⟨sv, rfl, hD, hN, b3⟩
  obtain ⟨_, a3, c3, rfl, _, _⟩ := id hD
  have hB5 := b0.trans (b3.mono b0.size)
  obtain ⟨sg, HSG⟩ : ∃ sg, Hid (decide (c < 0) = sg) := ⟨_, rfl⟩
  obtain ⟨n3, HN3⟩ : ∃ n3, Hid ((digs c.natAbs).length = n3) := ⟨_, rfl⟩
  rw [HN3.out] at hD
  rw [HSG.out, HN3.out]
  have rx := Row.new w3 47 #[.bool sg, .slice a3 n3 c3, .int .i64 e]
  have hD5 := hD.below ((Below.refl _ w3).alloc (Nat.le_refl _) (.cells #[.bool sg, .slice a3 n3 c3, .int .i64 e] 47))
  have hB6 := hB5.alloc hB5.size (.cells #[.bool sg, .slice a3 n3 c3, .int .i64 e] 47)
  have hK3 : w.heap.size ≤ w3.heap.size := hB5.size
  clear hD hB5 b0 b3 hN HNU
  go_upto_block 0 with fail
  generalize w3.alloc (.cells #[.bool sg, .slice a3 n3 c3, .int .i64 e] 47) = W4 at *
  generalize w3.heap.size = X at *
  obtain ⟨tz, HTZ⟩ : ∃ tz, Hid ((if e < 0 then e else 0) = tz) := ⟨_, rfl⟩
  obtain ⟨v0, HV0⟩ : ∃ v0, Hid (c * 10 ^ e.toNat = v0) := ⟨_, rfl⟩
  have htz : -18 ≤ tz ∧ tz ≤ 0 := by rw [← HTZ.out]; split <;> omega
  go_cut [] (fun wx => ∃ (a : Option Addr) (n cc : Nat), Row wx X 47 #[.bool sg, .slice a n cc, .int .i64 tz] ∧ Hid (DgAt wx (.slice a n cc) (digs v0.natAbs)) ∧ Hid ((digs v0.natAbs).length = n) ∧ Hid (decide (v0 < 0) = sg) ∧ n ≤ 60 ∧ Below w.heap.size w wx)
  case first =>
    go_wp2_with fail
    go_loopw [] (fun wr => ∃ (k : Nat) (a : Option Addr) (n cc : Nat), Row wr X 47 #[.bool sg, .slice a n cc, .int .i64 (e - (k : Int))] ∧ DgAt wr (.slice a n cc) (digs (c * 10 ^ k).natAbs) ∧ Hid ((digs (c * 10 ^ k).natAbs).length = n) ∧ Hid (decide (c * 10 ^ k < 0) = sg) ∧ (k = 0 ∨ 0 ≤ e - (k : Int)) ∧ k ≤ 18 ∧ Below w.heap.size w wr) (fun wr => (intOf ((wr.cell? ⟨X, 2, none⟩).getD undef) + 100).toNat)
    case atStart => exact ⟨0, a3, n3, c3, by simpa using rx, by rw [Int.pow_zero, Int.mul_one]; exact hD5, by show _ = _; rw [Int.pow_zero, Int.mul_one]; exact HN3.out, by show _ = _; rw [Int.pow_zero, Int.mul_one]; exact HSG.out, .inl rfl, by omega, hB6⟩
    case round =>
      clear rx hD5 hB6
      obtain ⟨k, a, n, cc, hbx, hTd, HN, HNX, hk, hk18, hBr⟩ := hrel
      have hlen : n ≤ 19 + k := by
        rw [← HN.out]
        refine digs_len _ _ ?_
        have h5 := HC.out
        unfold I64 at h5
        rw [Int.natAbs_mul, Int.natAbs_pow, Nat.pow_add]
        exact Nat.mul_lt_mul_of_pos_right (by omega) (Nat.pow_pos (by decide))
      obtain ⟨x, HX⟩ : ∃ x, Hid (c * 10 ^ k = x) := ⟨_, rfl⟩
      obtain ⟨g, HG⟩ : ∃ g, Hid (e - (k : Int) = g) := ⟨_, rfl⟩
      rw [HX.out] at hTd HN HNX
      rw [HG.out] at hbx
      obtain ⟨d0, d1, d2⟩ := hbx.triQ
      have hgr : -18 ≤ g + 36 ∧ g ≤ 18 := by have := HG.out; omega
      by_cases hgf : 0 < g
      · have hn40 : (n : Int) < 40 := by omega
        have HSH : ∀ V, Below wr.heap.size wr V → Hid (Calls Tryd.prog 58 #[.agg #[.bool sg, .slice a n cc], .int .i64 ((1 : Nat) : Int)] V fun r w' => ∃ v', r = .returned v' ∧ BigV w' (x * 10 ^ 1) v' ∧ NewV V.heap.size v' ∧ Below V.heap.size V w') := fun V h => by
          have := shift_new x (bv sg (.slice a n cc)) 1 V ⟨_, by rw [← HNX.out], hTd.below h⟩ (by decide) (by rw [HN.out]; omega)
          exact this
        have fw1 : IntKind.i64.wrap (g - 1) = g - 1 := IntWalk.i64_in _ ⟨by omega, by omega⟩
        go_wp2_with fail
        have hS : Below wr.heap.size wr wr.drew := (Below.refl _ wr).drew
        have tri : ∀ wx, Below wr.heap.size wr wx → wx.cell? ⟨X, 0, none⟩ = some (.bool sg) ∧ wx.cell? ⟨X, 1, none⟩ = some (.slice a n cc) ∧ wx.cell? ⟨X, 2, none⟩ = some (.int .i64 g) := fun wx hx => (hbx.below hx hbx.lt).triQ
        refine wp_region_M (fun wx : World => Below wr.heap.size wr wx) (fun j => decide (j < 7)) 8 rfl (by kernel_rfl) ?_
        refine wpM_held 0 (v := ?_) rfl (by kernel_rfl) (by kernel_rfl) rfl (fun _ _ _ h => h) rfl (by intro wx hx; go_simp <;> rfl) hS ?_
        refine wpM_held 1 (v := .agg #[.bool sg, .slice a n cc]) rfl (by kernel_rfl) (by kernel_rfl) rfl (fun _ _ _ h => h) rfl (by intro wx hx; obtain ⟨x0, x1, x2⟩ := tri wx hx; go_simp <;> rfl) hS ?_
        refine wpM_held 3 (v := ?_) rfl (by kernel_rfl) (by kernel_rfl) rfl (fun _ _ _ h => h) rfl (by intro wx hx; go_simp <;> rfl) hS ?_
        refine wpM_held 4 (v := .int .i64 g) rfl (by kernel_rfl) (by kernel_rfl) rfl (fun _ _ _ h => h) rfl (by intro wx hx; obtain ⟨x0, x1, x2⟩ := tri wx hx; go_simp <;> rfl) hS ?_
        refine wpM_held 5 (v := .int .i64 (g - 1)) rfl (by kernel_rfl) (by kernel_rfl) rfl (fun _ _ _ h => h) rfl (by intro wx hx; go_simp <;> first | rfl | exact fw1) hS ?_
        refine wpM_one 2 rfl (by kernel_rfl) rfl ?_
        go_wp2_with fail
        refine Calls.mono (HSH _ hS).out ?_
        rintro _ wb ⟨v2, rfl, hV2, hN2, b2⟩
        obtain ⟨s2, rfl, hD2⟩ := hV2
        have hN2 := hN2.get
        obtain ⟨_, a6, c6, rfl, _, _⟩ := id hD2
        have hW3 : Below wr.heap.size wr wb := hS.trans (b2.mono hS.size)
        have hNS : NewS (X + 1) (.slice a6 (digs (x * 10 ^ 1).natAbs).length c6) := hN2.mono hbx.lt
        clear b2 HSH hS hN2
        unfold bv
        have HNX2 : Hid (decide (x * 10 ^ 1 < 0) = sg) := by show _ = _; rw [sign_shift]; exact HNX.out
        rw [HNX2.out]
        obtain ⟨n2, HN2⟩ : ∃ n2 : Nat, Hid ((digs (x * 10 ^ 1 : Int).natAbs).length = n2) := by exact ⟨(digs (x * 10 ^ 1 : Int).natAbs).length, (rfl : (digs (x * 10 ^ 1 : Int).natAbs).length = (digs (x * 10 ^ 1 : Int).natAbs).length)⟩
        rw [HN2.out] at hD2 hNS
        rw [HN2.out]
        have p2 := hbx.below hW3 hbx.lt
        have hR3 : Row (((wb.setCell ⟨X, 0, none⟩ (.bool sg)).setCell ⟨X, 1, none⟩ (.slice a6 n2 c6)).setCell ⟨X, 2, none⟩ (.int .i64 (g - 1))) X 47 #[.bool sg, .slice a6 n2 c6, .int .i64 (g - 1)] := ((p2.set 0 _).set 1 _).set 2 _
        have hD3 := ((hD2.off hNS 0 (.bool sg)).off hNS 1 (.slice a6 n2 c6)).off hNS 2 (.int .i64 (g - 1))
        have hB3 := below_set (below_set (below_set (hBr.trans (hW3.mono hBr.size)) (B := X) 0 (.bool sg) (by omega)) (B := X) 1 (.slice a6 n2 c6) (by omega)) (B := X) 2 (.int .i64 (g - 1)) (by omega)
        have HAL : Hid (Row (((wb.setCell ⟨X, 0, none⟩ (.bool sg)).setCell ⟨X, 1, none⟩ (.slice a6 n2 c6)).setCell ⟨X, 2, none⟩ (.int .i64 (g - 1))) X 47 #[.bool sg, .slice a6 n2 c6, .int .i64 (g - 1)] ∧ DgAt _ _ _ ∧ Below w.heap.size w _) := ⟨hR3, hD3, hB3⟩
        clear hR3 hD3 hB3 hD2 hNS hTd
        go_wp2_with fail
        refine ⟨fun _ => hW3, ?_⟩
        refine wpM_one 6 rfl (by kernel_rfl) rfl ?_
        go_wp2_with fail
        refine ⟨fun _ => hW3, ?_⟩
        obtain ⟨y0, y1, y2⟩ := p2.triQ
        have zf := p2.frozen
        refine wpM_one 7 rfl (by kernel_rfl) rfl ?_
        go_wp2_with fail
        refine ⟨fun h => by simp at h, ?_⟩
        refine wpM_done (by kernel_rfl) ?_
        go_wp2
        go_roundw
        case rel =>
          have e1 : c * 10 ^ (k + 1) = x * 10 ^ 1 := by rw [← HX.out, Int.pow_succ, Int.pow_succ, Int.pow_zero, Int.one_mul, Int.mul_assoc]
          have e2 : e - ((k + 1 : Nat) : Int) = g - 1 := by have := HG.out; omega
          refine ⟨k + 1, a6, n2, c6, ?_, ?_, ?_, ?_, ?_, ?_, HAL.out.2.2⟩
          · rw [e2]; exact HAL.out.1
          · rw [e1]; exact HAL.out.2.1
          · show _ = _
            rw [e1]; exact HN2.out
          · show _ = _
            rw [e1]; exact HNX2.out
          · right; have := HG.out; omega
          · have := HG.out; omega
        case measure =>
          have h3 := HAL.out.1.triQ.2.2
          rw [h3, d2]
          simp only [Option.getD_some, intOf]
          omega
      · have hg2 : g = tz := by
          rw [← HTZ.out]
          have := HG.out
          split <;> omega
        subst hg2
        have hxa : x = v0 := by
          rw [← HX.out, ← HV0.out]
          congr 2
          have := HG.out
          omega
        subst hxa
        have HTd : Hid (DgAt wr (.slice a n cc) (digs x.natAbs)) := hTd
        clear hTd
        go_wp2_with fail
        go_meet
        exact ⟨a, n, cc, hbx, HTd, HN, HNX, by omega, hBr⟩
  case rest =>
    clear rx hD5 hB6
    obtain ⟨a, n, cc, hbx, HTd, HN, HNX, hn60, hBr⟩ := hcut
    go_upto_block 2 with fail
    go_cut [] (fun wx => ∃ (a : Option Addr) (n cc : Nat) (v g : Int) (i : Nat), Row wx X 47 #[.bool sg, .slice a n cc, .int .i64 g] ∧ Hid (DgAt wx (.slice a n cc) (digs v.natAbs)) ∧ Hid ((digs v.natAbs).length = n) ∧ Hid (decide (v < 0) = sg) ∧ Hid (v0 = v * 10 ^ i ∧ g = tz + (i : Int) ∧ (g = 0 ∨ v = 0 ∨ v.natAbs % 10 ≠ 0)) ∧ g ≤ 0 ∧ -18 ≤ g ∧ n ≤ 60 ∧ Below w.heap.size w wx)
    case first =>
      go_wp2_with fail
      go_loopw [] (fun wr => ∃ (a : Option Addr) (n cc : Nat) (v g : Int) (i : Nat), Row wr X 47 #[.bool sg, .slice a n cc, .int .i64 g] ∧ Hid (DgAt wr (.slice a n cc) (digs v.natAbs)) ∧ Hid ((digs v.natAbs).length = n) ∧ Hid (decide (v < 0) = sg) ∧ Hid (v0 = v * 10 ^ i ∧ g = tz + (i : Int)) ∧ g ≤ 0 ∧ -18 ≤ g ∧ n ≤ 60 ∧ Below w.heap.size w wr) (fun wr => (- intOf ((wr.cell? ⟨X, 2, none⟩).getD undef)).toNat)
      case atStart => exact ⟨a, n, cc, v0, tz, 0, hbx, HTd, HN, HNX, ⟨by rw [Int.pow_zero, Int.mul_one], by simp⟩, htz.2, htz.1, hn60, hBr⟩
      case round =>
        clear hbx HTd HN HNX hn60 hBr
        obtain ⟨a, n, cc, v, g, i, hbx, HTd, HN, HNX, HVG, hg0, hg18, hn60, hBr⟩ := hrel
        obtain ⟨d0, d1, d2⟩ := hbx.triQ
        by_cases hg : g < 0
        · by_cases hv : v = 0
          · have hn0 : n = 0 := by rw [← HN.out, hv]; rw [show (0 : Int).natAbs = 0 from rfl, digs_zero]; rfl
            have HVE : Hid (v0 = v * 10 ^ i ∧ g = tz + (i : Int) ∧ (g = 0 ∨ v = 0 ∨ v.natAbs % 10 ≠ 0)) := ⟨HVG.out.1, HVG.out.2, .inr (.inl hv)⟩
            subst hn0
            clear hv
            go_wp2_with fail
            go_meet
            exact ⟨a, 0, cc, v, g, i, hbx, HTd, HN, HNX, HVE, hg0, hg18, hn60, hBr⟩
          · have hds := digs_pos v.natAbs (show v.natAbs ≠ 0 by omega)
            have hdg := HTd.out
            rw [hds] at hdg
            obtain ⟨a2, hsl, hn, htl⟩ := hdg.tail
            obtain ⟨bb, off, hab, _, hc0⟩ := hdg.1.at 0 (by simp)
            subst hab
            obtain ⟨d, hd⟩ : ∃ d, v.natAbs % 10 = d := ⟨_, rfl⟩
            simp only [List.getElem?_cons_zero, Option.getD_some, Nat.add_zero] at hc0
            rw [hd] at hc0 hds
            have gn : (0 : Int) < (n : Int) := by omega
            have HNN : Hid (n = (digs (v.natAbs / 10)).length + 1) := hn
            have HTL : Hid (∀ V, Below wr.heap.size wr V → DgAt V (.slice a2 (n - 1) (cc - 1)) (digs (v.natAbs / 10))) := htl
            have HD9 : Hid (v.natAbs % 10 = d) := hd
            have HV9 : Hid (v ≠ 0) := hv
            clear hn htl hd hdg hds hv
            by_cases h0 : d = 0
            · subst h0
              obtain ⟨y', hy'⟩ : ∃ y', bval sg (digs (v.natAbs / 10)) = y' := ⟨_, rfl⟩
              have hyq : v = y' * 10 := by
                rw [← hy']
                unfold bval
                rw [dval_digs, ← HNX.out]
                have h9 := HD9.out
                by_cases hs : v < 0
                · rw [decide_eq_true hs, if_pos rfl]; omega
                · rw [decide_eq_false hs, if_neg (by simp)]; omega
              have HLN : Hid ((digs y'.natAbs).length = n - 1) := by show _ = _; rw [show y'.natAbs = v.natAbs / 10 by omega, HNN.out]; omega
              have HNX2 : Hid (decide (y' < 0) = sg) := by
                show _ = _
                rw [← HNX.out]
                by_cases hs : v < 0
                · rw [decide_eq_true hs, decide_eq_true (by omega)]
                · rw [decide_eq_false hs, decide_eq_false (by omega)]
              have HVG2 : Hid (v0 = y' * 10 ^ (i + 1) ∧ g + 1 = tz + ((i + 1 : Nat) : Int)) := by
                refine ⟨?_, by have := HVG.out.2; omega⟩
                rw [HVG.out.1, hyq, Int.pow_succ, Int.mul_assoc, Int.mul_comm 10]
              have HTR : ∀ V, Below wr.heap.size wr V → Hid (Calls Tryd.prog 59 #[.agg #[.bool sg, .slice a2 (n - 1) (cc - 1)]] V fun r w' => ∃ v', r = .returned v' ∧ BigV w' y' v' ∧ NewV V.heap.size v' ∧ Below V.heap.size V w') := fun V h => by
                have := trim_new sg _ _ V (HTL.out V h) (digs_dg _) (by have := HNN.out; omega)
                rw [hy'] at this
                exact this
              have hg1 : (1 : Int) ≤ (n : Int) := by omega
              have fw1 : IntKind.i64.wrap (g + 1) = g + 1 := IntWalk.i64_in _ ⟨by omega, by omega⟩
              clear hyq hy'
              go_wp2_with fail
              have hS : Below wr.heap.size wr wr.drew := (Below.refl _ wr).drew
              have tri : ∀ wx, Below wr.heap.size wr wx → wx.cell? ⟨X, 0, none⟩ = some (.bool sg) ∧ wx.cell? ⟨X, 1, none⟩ = some (.slice (some ⟨bb, off, none⟩) n cc) ∧ wx.cell? ⟨X, 2, none⟩ = some (.int .i64 g) := fun wx hx => (hbx.below hx hbx.lt).triQ
              have keyS : ∀ wx x, x = Value.slice (some ⟨bb, off, none⟩) n cc → (((Instr.sliceAt 43 x (some (.int .i64 1)) none none).run Tryd.prog wx).andThen fun a w' => Result.ok (Next.value a) w') = Result.ok (Next.value (.slice a2 (n - 1) (cc - 1))) wx := by
                rintro wx _ rfl; rw [hsl wx]; rfl
              refine wp_region_M (fun wx : World => Below wr.heap.size wr wx) (fun j => decide (j < 13)) 14 rfl (by kernel_rfl) ?_
              refine wpM_held 0 (v := ?_) rfl (by kernel_rfl) (by kernel_rfl) rfl (fun _ _ _ h => h) rfl (by intro wx hx; go_simp <;> rfl) hS ?_
              refine wpM_held 1 (v := ?_) rfl (by kernel_rfl) (by kernel_rfl) rfl (fun _ _ _ h => h) rfl (by intro wx hx; go_simp <;> rfl) hS ?_
              refine wpM_held 2 (v := .bool sg) rfl (by kernel_rfl) (by kernel_rfl) rfl (fun _ _ _ h => h) rfl (by intro wx hx; obtain ⟨x0, x1, x2⟩ := tri wx hx; go_simp <;> rfl) hS ?_
              refine wpM_held 3 (v := ?_) rfl (by kernel_rfl) (by kernel_rfl) rfl (fun _ _ _ h => h) rfl (by intro wx hx; go_simp <;> rfl) hS ?_
              refine wpM_held 4 (v := ?_) rfl (by kernel_rfl) (by kernel_rfl) rfl (fun _ _ _ h => h) rfl (by intro wx hx; go_simp <;> rfl) hS ?_
              refine wpM_held 5 (v := .slice (some ⟨bb, off, none⟩) n cc) rfl (by kernel_rfl) (by kernel_rfl) rfl (fun _ _ _ h => h) rfl (by intro wx hx; obtain ⟨x0, x1, x2⟩ := tri wx hx; go_simp <;> rfl) hS ?_
              refine wpM_held 6 (v := .slice a2 (n - 1) (cc - 1)) rfl (by kernel_rfl) (by kernel_rfl) rfl (fun _ _ _ h => h) rfl (by intro wx hx; simp [execOp, Act.eval]; exact keyS wx _ rfl) hS ?_
              refine wpM_held 7 (v := .agg #[.bool sg, .slice a2 (n - 1) (cc - 1)]) rfl (by kernel_rfl) (by kernel_rfl) rfl (fun _ _ _ h => h) rfl (by intro wx hx; go_simp <;> rfl) hS ?_
              refine wpM_held 9 (v := ?_) rfl (by kernel_rfl) (by kernel_rfl) rfl (fun _ _ _ h => h) rfl (by intro wx hx; go_simp <;> rfl) hS ?_
              refine wpM_held 10 (v := .int .i64 g) rfl (by kernel_rfl) (by kernel_rfl) rfl (fun _ _ _ h => h) rfl (by intro wx hx; obtain ⟨x0, x1, x2⟩ := tri wx hx; go_simp <;> rfl) hS ?_
              refine wpM_held 11 (v := .int .i64 (g + 1)) rfl (by kernel_rfl) (by kernel_rfl) rfl (fun _ _ _ h => h) rfl (by intro wx hx; go_simp <;> first | rfl | exact fw1) hS ?_
              refine wpM_one 8 rfl (by kernel_rfl) rfl ?_
              go_wp2_with fail
              refine Calls.mono (HTR _ hS).out ?_
              rintro _ wb ⟨v2, rfl, hV2, hN2, b2⟩
              obtain ⟨s2, rfl, hD2⟩ := hV2
              have hN2 := hN2.get
              obtain ⟨_, a6, c6, rfl, _, _⟩ := id hD2
              have hW3 : Below wr.heap.size wr wb := hS.trans (b2.mono hS.size)
              have hNS : NewS (X + 1) (.slice a6 (digs y'.natAbs).length c6) := hN2.mono hbx.lt
              clear b2 HTR hS hN2
              unfold bv
              rw [HNX2.out]
              rw [HLN.out] at hD2 hNS
              rw [HLN.out]
              have p2 := hbx.below hW3 hbx.lt
              have hR3 : Row (((wb.setCell ⟨X, 0, none⟩ (.bool sg)).setCell ⟨X, 1, none⟩ (.slice a6 (n - 1) c6)).setCell ⟨X, 2, none⟩ (.int .i64 (g + 1))) X 47 #[.bool sg, .slice a6 (n - 1) c6, .int .i64 (g + 1)] := ((p2.set 0 _).set 1 _).set 2 _
              have hD3 := ((hD2.off hNS 0 (.bool sg)).off hNS 1 (.slice a6 (n - 1) c6)).off hNS 2 (.int .i64 (g + 1))
              have hB3 := below_set (below_set (below_set (hBr.trans (hW3.mono hBr.size)) (B := X) 0 (.bool sg) (by omega)) (B := X) 1 (.slice a6 (n - 1) c6) (by omega)) (B := X) 2 (.int .i64 (g + 1)) (by omega)
              have HAL : Hid (Row (((wb.setCell ⟨X, 0, none⟩ (.bool sg)).setCell ⟨X, 1, none⟩ (.slice a6 (n - 1) c6)).setCell ⟨X, 2, none⟩ (.int .i64 (g + 1))) X 47 #[.bool sg, .slice a6 (n - 1) c6, .int .i64 (g + 1)] ∧ DgAt _ _ _ ∧ Below w.heap.size w _) := ⟨hR3, hD3, hB3⟩
              clear hR3 hD3 hB3 hD2 hNS
              go_wp2_with fail
              refine ⟨fun _ => hW3, ?_⟩
              refine wpM_one 12 rfl (by kernel_rfl) rfl ?_
              go_wp2_with fail
              refine ⟨fun _ => hW3, ?_⟩
              obtain ⟨y0, y1, y2⟩ := p2.triQ
              have zf := p2.frozen
              refine wpM_one 13 rfl (by kernel_rfl) rfl ?_
              go_wp2_with fail
              refine ⟨fun h => by simp at h, ?_⟩
              refine wpM_done (by kernel_rfl) ?_
              go_wp2
              go_roundw
              case rel => exact ⟨a6, n - 1, c6, y', g + 1, i + 1, HAL.out.1, HAL.out.2.1, HLN, HNX2, HVG2, by omega, by omega, by omega, HAL.out.2.2⟩
              case measure =>
                have h3 := HAL.out.1.triQ.2.2
                rw [h3, d2]
                simp only [Option.getD_some, intOf]
                omega
            · have gd : ((d : Int) == 0) = false := by simp only [beq_eq_false_iff_ne]; omega
              have HVE : Hid (v0 = v * 10 ^ i ∧ g = tz + (i : Int) ∧ (g = 0 ∨ v = 0 ∨ v.natAbs % 10 ≠ 0)) := ⟨HVG.out.1, HVG.out.2, .inr (.inr (by rw [HD9.out]; exact h0))⟩
              clear h0
              go_wp2_with fail
              go_meet
              exact ⟨_, n, cc, v, g, i, hbx, HTd, HN, HNX, HVE, hg0, hg18, hn60, hBr⟩
        · have hge : g = 0 := by omega
          have HVE : Hid (v0 = v * 10 ^ i ∧ g = tz + (i : Int) ∧ (g = 0 ∨ v = 0 ∨ v.natAbs % 10 ≠ 0)) := ⟨HVG.out.1, HVG.out.2, .inl hge⟩
          clear hge
          go_wp2_with fail
          go_meet
          exact ⟨a, n, cc, v, g, i, hbx, HTd, HN, HNX, HVE, hg0, hg18, hn60, hBr⟩
    case rest =>
      obtain ⟨a, n, cc, v, g, i, hbx, HTd, HN, HNX, HVE, hg0, hg18, hn60, hBr⟩ := hcut
      obtain ⟨d0, d1, d2⟩ := hbx.triQ
      by_cases hv : v = 0
      · have hn0 : n = 0 := by rw [← HN.out, hv]; rw [show (0 : Int).natAbs = 0 from rfl, digs_zero]; rfl
        have HVV : Hid (res = .tuple #[.int .i64 0, .bool true]) := by
          show _ = _
          rw [← HRES.out]
          refine int_nought c e HE.out ?_
          have h5 := HVE.out.1
          rw [hv, Int.zero_mul, ← HV0.out] at h5
          rcases Int.mul_eq_zero.1 h5 with h | h
          · exact h
          · exact absurd h (Int.ne_of_gt (Int.pow_pos (by decide)))
        subst hn0
        clear hv
        go_wp2
        go_ret2
        exact ⟨by rw [HVV.out]; rfl, hBr⟩
      · have hn0 : ((n : Int) == 0) = false := by
          have h5 := HN.out
          rw [digs_pos _ (by omega), List.length_cons] at h5
          simp
          omega
        have HIW : Hid (g = 0 → intV c e = if v.natAbs ≤ 9007199254740992 then .tuple #[.int .i64 v, .bool true] else .tuple #[.int .i64 0, .bool false]) := fun hg => by
          refine int_whole c e v i HE.out hv ?_
          obtain ⟨h5, h6, _⟩ := HVE.out
          have h7 := HTZ.out
          have h8 := HV0.out
          by_cases hl : e < 0
          · right
            rw [if_pos hl] at h7
            rw [show e.toNat = 0 by omega, Int.pow_zero, Int.mul_one] at h8
            exact ⟨hl, by omega, by rw [h8]; exact h5⟩
          · left
            rw [if_neg hl] at h7
            have hi0 : i = 0 := by omega
            rw [hi0, Int.pow_zero, Int.mul_one] at h5
            exact ⟨by omega, by rw [h8]; exact h5⟩
        by_cases hg : g = 0
        · subst hg
          have hIW := HIW.out rfl
          rw [HRES.out] at hIW
          have HIW2 : Hid (res = if v.natAbs ≤ 9007199254740992 then .tuple #[.int .i64 v, .bool true] else .tuple #[.int .i64 0, .bool false]) := hIW
          have HOF : ∀ V, Hid (Calls Tryd.prog 64 #[.int .i64 9007199254740992] V _) := fun V => of_any 9007199254740992 ⟨by decide, by decide⟩ V
          have HMO : ∀ V u, Below wc.heap.size wc V → BigV V 9007199254740992 u → Hid (Calls Tryd.prog 70 #[.agg #[.bool sg, .slice a n cc], u] V fun r w' => r = .returned (.int .i64 (cI ((v.natAbs : Nat) : Int) 9007199254740992)) ∧ Below V.heap.size V w') := fun V u hV hu => by
            obtain ⟨su, rfl, hDu⟩ := hu
            have := more_any sg (decide ((9007199254740992 : Int) < 0)) _ _ _ _ V (HTd.out.below hV) hDu (digs_dg _) (digs_dg _) (by rw [HN.out]; omega) (Nat.le_trans (digs_len _ 20 (by decide)) (by decide))
            rw [dval_digs, dval_digs, show (((9007199254740992 : Int).natAbs : Nat) : Int) = 9007199254740992 from rfl] at this
            exact this
          obtain ⟨ci, HCI⟩ : ∃ ci, Hid (cI ((v.natAbs : Nat) : Int) 9007199254740992 = ci) := ⟨_, rfl⟩
          rw [HCI.out] at HMO
          clear HIW hIW
          have hS : Below wc.heap.size wc wc.drew := (Below.refl _ wc).drew
          have tri : ∀ wx, Below wc.heap.size wc wx → wx.cell? ⟨X, 0, none⟩ = some (.bool sg) ∧ wx.cell? ⟨X, 1, none⟩ = some (.slice a n cc) ∧ wx.cell? ⟨X, 2, none⟩ = some (.int .i64 0) := fun wx hx => (hbx.below hx hbx.lt).triQ
          go_upto_region 10 with fail
          refine wp_region_M (fun wx : World => Below wc.heap.size wc wx) (fun j => decide (j < 10)) 10 rfl (by kernel_rfl) ?_
          refine wpM_held 0 (v := ?_) rfl (by kernel_rfl) (by kernel_rfl) rfl (fun _ _ _ h => h) rfl (by intro wx hx; go_simp <;> rfl) hS ?_
          refine wpM_held 1 (v := .int .i64 0) rfl (by kernel_rfl) (by kernel_rfl) rfl (fun _ _ _ h => h) rfl (by intro wx hx; obtain ⟨x0, x1, x2⟩ := tri wx hx; go_simp <;> rfl) hS ?_
          refine wpM_one 2 rfl (by kernel_rfl) rfl ?_
          go_wp2_with fail
          refine ⟨fun _ => hS, ?_⟩
          refine wpM_one 3 rfl (by kernel_rfl) rfl ?_
          go_wp2_with fail
          refine ⟨fun _ => hS, ?_⟩
          refine wpM_held 4 (v := ?_) rfl (by kernel_rfl) (by kernel_rfl) rfl (fun _ _ _ h => h) rfl (by intro wx hx; go_simp <;> rfl) hS ?_
          refine wpM_held 5 (v := .agg #[.bool sg, .slice a n cc]) rfl (by kernel_rfl) (by kernel_rfl) rfl (fun _ _ _ h => h) rfl (by intro wx hx; obtain ⟨x0, x1, x2⟩ := tri wx hx; go_simp <;> rfl) hS ?_
          refine wpM_one 6 rfl (by kernel_rfl) rfl ?_
          go_wp2_with fail
          refine Calls.mono (HOF _).out ?_
          rintro _ wd ⟨v6, rfl, hV6, b6⟩
          have hSd : Below wc.heap.size wc wd := hS.trans (b6.mono hS.size)
          have HM6 := HMO wd v6 hSd hV6
          obtain ⟨s6, rfl, hD6⟩ := hV6
          obtain ⟨_, a6, c6, rfl, _, _⟩ := id hD6
          clear b6 hS HOF hD6 HMO
          unfold bv at HM6 ⊢
          obtain ⟨n6, HN6⟩ : ∃ n6 : Nat, Hid ((digs (9007199254740992 : Int).natAbs).length = n6) := ⟨_, rfl⟩
          obtain ⟨m6, HM7⟩ : ∃ m6, Hid (decide ((9007199254740992 : Int) < 0) = m6) := ⟨_, rfl⟩
          rw [HM7.out, HN6.out] at HM6 ⊢
          go_wp2_with fail
          refine ⟨fun _ => hSd, ?_⟩
          refine wpM_one 7 rfl (by kernel_rfl) rfl ?_
          go_wp2_with fail
          refine Calls.mono HM6.out ?_
          rintro _ we ⟨rfl, b7⟩
          have hSe : Below wc.heap.size wc we := hSd.trans (b7.mono hSd.size)
          clear b7 hSd HM6
          go_wp2_with fail
          refine ⟨fun _ => hSe, ?_⟩
          refine wpM_one 8 rfl (by kernel_rfl) rfl ?_
          go_wp2_with fail
          refine ⟨fun _ => hSe, ?_⟩
          refine wpM_one 9 rfl (by kernel_rfl) rfl ?_
          go_wp2_with fail
          refine ⟨fun _ => hSe, ?_⟩
          refine wpM_done (by kernel_rfl) ?_
          have hBe := hBr.trans (hSe.mono hBr.size)
          have xe := hbx.below hSe hbx.lt
          have De := HTd.out.below hSe
          clear d0 d1 d2
          by_cases hle : v.natAbs ≤ 9007199254740992
          · have hci : ¬ 0 < ci := by
              rw [← HCI.out]
              unfold cI
              rw [if_neg (by omega)]
              split <;> omega
            have HRV : Hid (res = .tuple #[.int .i64 v, .bool true]) := by show _ = _; rw [HIW2.out, if_pos hle]
            obtain ⟨C, E, hte, hCE, hE18⟩ := tell_int v ⟨by omega, by omega⟩
            have HTE : Hid (Calls Tryd.prog 45 #[.agg #[.bool (decide (v < 0)), .slice a n cc, .int .i64 0]] we _) := told_any' v 0 _ _ ⟨_, rfl, De⟩ (by decide) (by decide) (by rw [HN.out]; omega)
            rw [hte, HNX.out] at HTE
            have HTE : Hid (Calls Tryd.prog 45 #[.agg #[.bool sg, .slice a n cc, .int .i64 0]] we fun r w' => r = .returned (.tuple #[.agg #[.int .i64 C, .int .i64 (E : Int)], .int .i64 0]) ∧ Below we.heap.size we w') := HTE
            have HCE : Hid (C * 10 ^ E = v ∧ v.natAbs ≤ 9007199254740992) := ⟨hCE, hle⟩
            clear hle hte hCE
            obtain ⟨d0, d1, d2⟩ := xe.triQ
            go_wp2_with fail
            refine Calls.mono HTE.out ?_
            rintro _ wf ⟨rfl, b8⟩
            have hBf := hBe.trans (b8.mono hBe.size)
            have hBg := hBf.alloc hBf.size (.cells #[.int .i64 C, .int .i64 (E : Int)] 23)
            have rf := Row.new wf 23 #[.int .i64 C, .int .i64 (E : Int)]
            clear b8 HTE d0 d1 d2 hBe hBf
            obtain ⟨f0, f1⟩ := rf.duo
            go_wp2_with fail
            generalize wf.alloc (.cells #[.int .i64 C, .int .i64 (E : Int)] 23) = wg at *
            go_loopw [8, 9] (fun v8 v9 wr => ∃ (m : Nat) (u : Int), m ≤ E ∧ v9 = .int .i64 (m : Int) ∧ v8 = .int .i64 u ∧ Hid (u = C * 10 ^ m) ∧ wg = wr) (fun _ v9 _ => E - (intOf v9).toNat)
            case atStart => exact ⟨0, C, Nat.zero_le _, rfl, rfl, by show _ = _; rw [Int.pow_zero, Int.mul_one], rfl⟩
            case round =>
              obtain ⟨m, u, hm, rfl, rfl, HU, rfl⟩ := hrel
              by_cases hmE : m < E
              · have hub : (u * 10).natAbs ≤ 9007199254740992 := by
                  obtain ⟨h5, h6⟩ := HCE.out
                  obtain ⟨q, hq⟩ : ∃ q, E = q + (m + 1) := ⟨E - (m + 1), by omega⟩
                  rw [hq, Nat.add_comm, Int.pow_add, ← Int.mul_assoc, Int.pow_succ, ← Int.mul_assoc, ← HU.out] at h5
                  rw [← h5, Int.natAbs_mul, Int.natAbs_pow] at h6
                  have h7 : 1 ≤ (10 : Int).natAbs ^ q := Nat.one_le_pow _ _ (by decide)
                  exact Nat.le_trans (Nat.le_mul_of_pos_right _ (by omega)) h6
                obtain ⟨u2, hu2⟩ : ∃ u2, u * 10 = u2 := ⟨_, rfl⟩
                have wu : IntKind.i64.wrap (u * 10) = u2 := by rw [hu2, IntKind.wrap_i64]; omega
                have HU2 : Hid (u2 = C * 10 ^ (m + 1)) := by show _ = _; rw [← hu2, HU.out, Int.pow_succ, Int.mul_assoc]
                have hm3 : (m : Int) < (E : Int) := by omega
                clear hu2 hub
                go_wp2
                go_roundw
                case rel => exact ⟨m + 1, u2, by omega, by go_num, rfl, HU2, by first | rfl | trivial⟩
                case measure => simp [intOf] <;> omega
              · have hme : m = E := by omega
                have HUE : Hid (u = v) := by show _ = _; rw [HU.out, hme]; exact HCE.out.1
                have hm3 : ¬ (m : Int) < (E : Int) := by omega
                clear hme
                go_wp2
                go_ret2
                exact ⟨by rw [HRV.out, ← HUE.out]; rfl, hBg⟩
          · have hci : 0 < ci := by
              rw [← HCI.out]
              unfold cI
              rw [if_pos (by omega)]
              decide
            have HRV : Hid (res = .tuple #[.int .i64 0, .bool false]) := by show _ = _; rw [HIW2.out, if_neg hle]
            clear hle
            go_wp2
            go_ret2
            exact ⟨by rw [HRV.out]; rfl, hBe⟩
        · have HRV : Hid (res = .tuple #[.int .i64 0, .bool false]) := by
            show _ = _
            rw [← HRES.out]
            obtain ⟨h5, h6, h7⟩ := HVE.out
            have h8 := HTZ.out
            have h9 := HV0.out
            have hl : e < 0 := by
              rcases Int.lt_or_le e 0 with h | h
              · exact h
              · rw [if_neg (by omega)] at h8; omega
            rw [if_pos hl] at h8
            rw [show e.toNat = 0 by omega, Int.pow_zero, Int.mul_one] at h9
            refine int_part c e v i HE.out (by omega) (by rw [h9]; exact h5) ?_
            rcases h7 with h | h | h
            · exact absurd h hg
            · exact absurd h hv
            · exact h
          have hgb : (g != 0) = true := by simpa using hg
          clear HIW hg
          have hS : Below wc.heap.size wc wc.drew := (Below.refl _ wc).drew
          have tri : ∀ wx, Below wc.heap.size wc wx → wx.cell? ⟨X, 0, none⟩ = some (.bool sg) ∧ wx.cell? ⟨X, 1, none⟩ = some (.slice a n cc) ∧ wx.cell? ⟨X, 2, none⟩ = some (.int .i64 g) := fun wx hx => (hbx.below hx hbx.lt).triQ
          go_upto_region 10 with fail
          refine wp_region_M (fun wx : World => Below wc.heap.size wc wx) (fun j => decide (j < 10)) 10 rfl (by kernel_rfl) ?_
          refine wpM_held 0 (v := ?_) rfl (by kernel_rfl) (by kernel_rfl) rfl (fun _ _ _ h => h) rfl (by intro wx hx; go_simp <;> rfl) hS ?_
          refine wpM_held 1 (v := .int .i64 g) rfl (by kernel_rfl) (by kernel_rfl) rfl (fun _ _ _ h => h) rfl (by intro wx hx; obtain ⟨x0, x1, x2⟩ := tri wx hx; go_simp <;> rfl) hS ?_
          refine wpM_one 2 rfl (by kernel_rfl) rfl ?_
          go_wp2_with fail
          refine ⟨fun _ => hS, ?_⟩
          refine wpM_one 3 rfl (by kernel_rfl) rfl ?_
          go_wp2_with fail
          refine ⟨fun _ => hS, ?_⟩
          refine wpM_skiph 4 rfl (by kernel_rfl) (by kernel_rfl) rfl (fun _ _ _ h => h) rfl hS ?_
          refine wpM_skiph 5 rfl (by kernel_rfl) (by kernel_rfl) rfl (fun _ _ _ h => h) rfl hS ?_
          refine wpM_skiph 6 rfl (by kernel_rfl) (by kernel_rfl) rfl (fun _ _ _ h => h) rfl hS ?_
          refine wpM_skiph 7 rfl (by kernel_rfl) (by kernel_rfl) rfl (fun _ _ _ h => h) rfl hS ?_
          refine wpM_skiph 8 rfl (by kernel_rfl) (by kernel_rfl) rfl (fun _ _ _ h => h) rfl hS ?_
          refine wpM_one 9 rfl (by kernel_rfl) rfl ?_
          go_wp2_with fail
          refine ⟨fun _ => hS, ?_⟩
          refine wpM_done (by kernel_rfl) ?_
          have hBe := hBr.trans (hS.mono hBr.size)
          go_wp2
          go_ret2
          exact ⟨by rw [HRV.out]; rfl, hBe⟩
theorem rint_any (c e : Int) (hc : I64 c) (he : within e) (w : World) : Calls Tryd.prog 37 #[.agg #[.int .i64 c, .int .i64 e]] w fun r w' => r = .returned (intV c e) ∧ Below w.heap.size w w' := rint_ok c e hc he w
end Go.Proofs.YtfbhonjndepjbaaDoor
