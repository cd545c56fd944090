import Derived.Test.YtfbhonjndepjbaaDoorRfiMM
import Derived.Test.YtfbhonjndepjbaaDoorDpa
import Derived.Deep.CutBlock
import Derived.Deep.DeepCutAuto
/- Quo: how often a number goes into another one. -/
namespace Go.Proofs.YtfbhonjndepjbaaDoor
open Go.RowKit

set_option maxRecDepth 100000 in
set_option maxHeartbeats 8000000 in
theorem quo_digs (na nb : Bool) (sa sb : Value) (da db : List Int) (w : World) (hA : DgAt w sa da) (hB : DgAt w sb db) (ga : DgL da) (gb : DgL db) (la : da.length ≤ 300) (lb : db.length ≤ 300) (hb0 : 0 < dval db) :
    Calls Tryd.prog 57 #[bv na sa, bv nb sb] w fun r w' => ∃ v1 v2, r = .returned (.tuple #[v1, v2]) ∧ BigV w' (dval da / dval db) v1 ∧ BigV w' (dval da % dval db) v2 ∧ Below w.heap.size w w' := by
  obtain ⟨_, a1, c1, rfl, _, _⟩ := id hA
  obtain ⟨_, a2, c2, rfl, _, _⟩ := id hB
  have HA : Hid (DgAt w (.slice a1 da.length c1) da) := hA
  have HB : Hid (DgAt w (.slice a2 db.length c2) db) := hB
  have HGA : Hid (DgL da) := ga
  have HGB : Hid (DgL db) := gb
  obtain ⟨Bv, hBv⟩ : ∃ Bv, dval db = Bv := ⟨_, rfl⟩
  rw [hBv] at hb0
  rw [hBv]
  have HBV : Hid (dval db = Bv) := hBv
  have HB0 : Hid (0 < Bv) := hb0
  unfold bv
  clear hA hB ga gb hBv hb0
  have mk : ∀ W : World, (Instr.makeSlice 43 (.int .i64 (da.length : Int)) (.int .i64 (da.length : Int))).run Tryd.prog W = .ok (.slice (some ⟨W.heap.size, 0, none⟩) da.length da.length) (W.alloc (.cells (dcell (List.replicate da.length 0)) 3)) := fun W => by
    rw [← dcell_zeros]
    exact make41 da.length (by omega) W
  have r0 := ((((((Row.new w 45 #[.bool false, .slice a1 da.length c1]).alloc (.cells #[.bool false, .slice a2 db.length c2] 45)).alloc (.cells #[.bool false, .slice none 0 0] 45)).alloc (.cells #[.bool false, .slice none 0 0] 45)).alloc (.cells (dcell (List.replicate da.length 0)) 3)).alloc (.cells #[.bool false, .slice none 0 0] 45))
  have r1 := (((((Row.new (w.alloc (.cells #[.bool false, .slice a1 da.length c1] 45)) 45 #[.bool false, .slice a2 db.length c2]).alloc (.cells #[.bool false, .slice none 0 0] 45)).alloc (.cells #[.bool false, .slice none 0 0] 45)).alloc (.cells (dcell (List.replicate da.length 0)) 3)).alloc (.cells #[.bool false, .slice none 0 0] 45))
  have r2 := ((((Row.new ((w.alloc (.cells #[.bool false, .slice a1 da.length c1] 45)).alloc (.cells #[.bool false, .slice a2 db.length c2] 45)) 45 #[.bool false, .slice none 0 0]).alloc (.cells #[.bool false, .slice none 0 0] 45)).alloc (.cells (dcell (List.replicate da.length 0)) 3)).alloc (.cells #[.bool false, .slice none 0 0] 45))
  have r3 := (((Row.new (((w.alloc (.cells #[.bool false, .slice a1 da.length c1] 45)).alloc (.cells #[.bool false, .slice a2 db.length c2] 45)).alloc (.cells #[.bool false, .slice none 0 0] 45)) 45 #[.bool false, .slice none 0 0]).alloc (.cells (dcell (List.replicate da.length 0)) 3)).alloc (.cells #[.bool false, .slice none 0 0] 45))
  have r4 := ((Row.new ((((w.alloc (.cells #[.bool false, .slice a1 da.length c1] 45)).alloc (.cells #[.bool false, .slice a2 db.length c2] 45)).alloc (.cells #[.bool false, .slice none 0 0] 45)).alloc (.cells #[.bool false, .slice none 0 0] 45)) 3 (dcell (List.replicate da.length 0))).alloc (.cells #[.bool false, .slice none 0 0] 45))
  have r5 := (Row.new (((((w.alloc (.cells #[.bool false, .slice a1 da.length c1] 45)).alloc (.cells #[.bool false, .slice a2 db.length c2] 45)).alloc (.cells #[.bool false, .slice none 0 0] 45)).alloc (.cells #[.bool false, .slice none 0 0] 45)).alloc (.cells (dcell (List.replicate da.length 0)) 3)) 45 #[.bool false, .slice none 0 0])
  have bz : Below w.heap.size w ((((((w.alloc (.cells #[.bool false, .slice a1 da.length c1] 45)).alloc (.cells #[.bool false, .slice a2 db.length c2] 45)).alloc (.cells #[.bool false, .slice none 0 0] 45)).alloc (.cells #[.bool false, .slice none 0 0] 45)).alloc (.cells (dcell (List.replicate da.length 0)) 3)).alloc (.cells #[.bool false, .slice none 0 0] 45)) := (((((((Below.refl _ w).alloc (Nat.le_refl _) _).alloc (by simp) _).alloc (by simp; omega) _).alloc (by simp; omega) _).alloc (by simp; omega) _).alloc (by simp; omega) _)
  simp only [World.size_alloc] at r1 r2 r3 r4 r5
  have HQ0 : Hid (QuSt w (.slice a1 da.length c1) (.slice a2 db.length c2) none 0 0 (List.replicate da.length 0) 0 ((((((w.alloc (.cells #[.bool false, .slice a1 da.length c1] 45)).alloc (.cells #[.bool false, .slice a2 db.length c2] 45)).alloc (.cells #[.bool false, .slice none 0 0] 45)).alloc (.cells #[.bool false, .slice none 0 0] 45)).alloc (.cells (dcell (List.replicate da.length 0)) 3)).alloc (.cells #[.bool false, .slice none 0 0] 45))) := ⟨r0, r1, r2, r3, r4, r5, by rw [show (0 : Int).natAbs = 0 from rfl, digs_zero]; exact dg_nil _, bz⟩
  go_enter Tryd.func57, Tryd.ntmps57
  go_upto_block 0 with fail
  clear r0 r1 r2 r3 r4 r5 bz mk
  generalize ((((((w.alloc (.cells #[.bool false, .slice a1 da.length c1] 45)).alloc (.cells #[.bool false, .slice a2 db.length c2] 45)).alloc (.cells #[.bool false, .slice none 0 0] 45)).alloc (.cells #[.bool false, .slice none 0 0] 45)).alloc (.cells (dcell (List.replicate da.length 0)) 3)).alloc (.cells #[.bool false, .slice none 0 0] 45)) = W at *
  obtain ⟨D, hD⟩ : ∃ D, w.heap.size + 1 + 1 + 1 + 1 = D := ⟨_, rfl⟩
  have HDe : Hid (w.heap.size + 1 + 1 + 1 + 1 = D) := hD
  have HRe : Hid (w.heap.size + 1 + 1 + 1 + 1 + 1 = D + 1) := by show _ = _; rw [hD]
  rw [hD]
  clear hD
  go_cut [8] (fun v8 wx => ∃ (qs : List Int) (r : Int) (ar : Option Addr) (nr cr : Nat), Hid (QoAt da qs Bv r 0) ∧ Hid ((digs r.natAbs).length = nr) ∧ nr ≤ 302 ∧ qs.length ≤ 300 ∧ Hid (QuSt w (.slice a1 da.length c1) (.slice a2 db.length c2) ar nr cr qs r wx))
  case first =>
    as_aux_lemma =>
      go_wp2_with fail
      go_loopw [8] (fun v8 wr => ∃ (i : Nat) (qs : List Int) (r : Int) (ar : Option Addr) (nr cr : Nat), i ≤ da.length ∧ v8 = .int .i64 ((i : Int) - 1) ∧ Hid (QoAt da qs Bv r i) ∧ Hid ((digs r.natAbs).length = nr) ∧ nr ≤ 302 ∧ Hid (QuSt w (.slice a1 da.length c1) (.slice a2 db.length c2) ar nr cr qs r wr)) (fun v8 _ => (intOf v8 + 1).toNat)
      case atStart => exact ⟨da.length, List.replicate da.length 0, 0, none, 0, 0, Nat.le_refl _, rfl, QoAt.begin da Bv, by show _ = _; rw [show (0 : Int).natAbs = 0 from rfl, digs_zero]; rfl, by omega, HQ0⟩
      case round =>
        clear HQ0
        obtain ⟨i, qs, r, ar, nr, cr, hi, rfl, HO, HNR, hnr, HQ⟩ := hrel
        by_cases hi0 : i = 0
        · subst hi0
          have hql : qs.length ≤ 300 := by rw [HO.out.le]; exact la
          go_wp2_with fail
          go_meet
          exact ⟨qs, r, ar, nr, cr, HO, HNR, hnr, hql, HQ⟩
        · obtain ⟨j, rfl⟩ : ∃ j, i = j + 1 := ⟨i - 1, by omega⟩
          have hj : j < da.length := by omega
          have hv : ((j + 1 : Nat) : Int) - 1 = (j : Int) := by omega
          rw [hv]
          obtain ⟨b1, o1, hga, hb1, hx0⟩ := HA.out.1.at j hj
          obtain ⟨x, hx⟩ : ∃ x, da[j]?.getD 0 = x := ⟨_, rfl⟩
          have hxb := HGA.out.get j
          rw [hx] at hx0 hxb
          subst hga
          have HX : Hid (∀ V, Below w.heap.size w V → V.cell? ⟨b1, o1 + j, none⟩ = some (.int .i64 x)) := fun V hV => (World.cell?_of_block (w := w) (a := ⟨b1, o1 + j, none⟩) (hV.block b1 hb1)).trans hx0
          have hr0 : 0 ≤ r ∧ r < Bv := by
            rw [HO.out.re]
            exact ⟨Int.emod_nonneg _ (Int.ne_of_gt HB0.out), Int.emod_lt_of_pos _ HB0.out⟩
          have HR0 : Hid (0 ≤ r ∧ r < Bv) := hr0
          have HQI : Hid (QiAt da qs Bv (10 * r + x) j 0 (10 * r + x)) := by
            have := QiAt.start HO.out HGA.out hj HB0.out
            rw [hx] at this
            exact this
          have hnr2 : nr ≤ 300 := by
            rw [← HNR.out]
            refine Nat.le_trans (digs_len _ db.length ?_) lb
            have h5 := dval_lt HGB.out
            rw [HBV.out] at h5
            have h6 : ((r.natAbs : Nat) : Int) < ((10 ^ db.length : Nat) : Int) := by
              rw [Int.natCast_pow]
              have : ((10 : Nat) : Int) = 10 := rfl
              rw [this]
              omega
            exact Int.ofNat_lt.1 h6
          have HSH : ∀ V, Below wr.heap.size wr V → Hid (Calls Tryd.prog 58 #[.agg #[.bool false, .slice ar nr cr], .int .i64 ((1 : Nat) : Int)] V fun r9 w' => ∃ v', r9 = .returned v' ∧ BigV w' (r * 10 ^ 1) v' ∧ Below V.heap.size V w') := fun V h => by
            have := shift_any r (bv false (.slice ar nr cr)) 1 V ⟨_, by rw [decide_eq_false (by have := HR0.out; omega)], (HQ.out.dr.below h)⟩ (by decide) (by rw [HNR.out]; omega)
            exact this
          have HOF : ∀ V, Hid (Calls Tryd.prog 64 #[.int .i64 x] V _) := fun V => of_any x ⟨by omega, by omega⟩ V
          have hQ := HQ.out
          have hqlt := hQ.rr.lt
          have k0 : ∀ wx, Below wr.heap.size wr wx → wx.cell? ⟨D + 1, 0, none⟩ = some (.bool false) ∧ wx.cell? ⟨D + 1, 1, none⟩ = some (.slice ar nr cr) := fun wx hx => by have := (hQ.rr.below hx hQ.rr.lt).duo; rw [HRe.out] at this; exact this
          have k1 : ∀ wx, Below wr.heap.size wr wx → wx.cell? ⟨w.heap.size, 0, none⟩ = some (.bool false) ∧ wx.cell? ⟨w.heap.size, 1, none⟩ = some (.slice (some ⟨b1, o1, none⟩) da.length c1) := fun wx hx => (hQ.ra.below hx hQ.ra.lt).duo
          have k2 : ∀ wx, Below wr.heap.size wr wx → wx.cell? ⟨b1, o1 + j, none⟩ = some (.int .i64 x) := fun wx hx => HX.out wx (hQ.be.trans (hx.mono hQ.be.size))
          have hj3 : (j : Int) < (da.length : Int) := by omega
          have hj4 : (0 : Int) ≤ (j : Int) := by omega
          clear hx hx0 hi hi0 hv hr0 hQ
          go_upto_region 8 with fail
          have hS : Below wr.heap.size wr wr.drew := (Below.refl _ wr).drew
          refine wp_region_M (fun wx : World => Below wr.heap.size wr wx) (fun j => decide (j < 9)) 10 rfl (by kernel_rfl) ?_
          refine wpM_held 0 (v := .agg #[.bool false, .slice ar nr cr]) rfl (by kernel_rfl) (by kernel_rfl) rfl (fun _ _ _ h => h) rfl (by intro wx hx; obtain ⟨x0, x1⟩ := k0 wx hx; go_simp <;> rfl) hS ?_
          refine wpM_held 2 (v := ?_) rfl (by kernel_rfl) (by kernel_rfl) rfl (fun _ _ _ h => h) rfl (by intro wx hx; go_simp <;> rfl) hS ?_
          refine wpM_held 3 (v := .slice (some ⟨b1, o1, none⟩) da.length c1) rfl (by kernel_rfl) (by kernel_rfl) rfl (fun _ _ _ h => h) rfl (by intro wx hx; obtain ⟨x0, x1⟩ := k1 wx hx; go_simp <;> rfl) hS ?_
          refine wpM_held 4 (v := .int .i64 (j : Int)) rfl (by kernel_rfl) (by kernel_rfl) rfl (fun _ _ _ h => h) rfl (by intro wx hx; go_simp <;> rfl) hS ?_
          refine wpM_held 5 (v := .pointer (some ⟨b1, o1 + j, none⟩)) rfl (by kernel_rfl) (by kernel_rfl) rfl (fun _ _ _ h => h) rfl (by intro wx hx; go_simp <;> rfl) hS ?_
          refine wpM_held 6 (v := .int .i64 x) rfl (by kernel_rfl) (by kernel_rfl) rfl (fun _ _ _ h => h) rfl (by intro wx hx; have x0 := k2 wx hx; go_simp <;> rfl) hS ?_
          refine wpM_one 1 rfl (by kernel_rfl) rfl ?_
          go_wp2_with fail
          refine Calls.mono (HSH _ hS).out ?_
          rintro _ w2 ⟨v2, rfl, hV2, b2⟩
          have hV2' := hV2
          obtain ⟨s2, rfl, hD2⟩ := hV2
          obtain ⟨_, a6, c6, rfl, _, _⟩ := id hD2
          have hW2 : Below wr.heap.size wr w2 := hS.trans (b2.mono hS.size)
          have e10 : r * 10 ^ 1 = 10 * r := by rw [Int.pow_succ, Int.pow_zero, Int.one_mul]; omega
          have HSG : Hid (decide (r * 10 ^ 1 < 0) = false) := by show _ = _; rw [e10]; exact decide_eq_false (by have := HR0.out; omega)
          have HE10 : Hid (r * 10 ^ 1 = 10 * r) := e10
          clear b2 HSH hS hD2 e10
          unfold bv at hV2' ⊢
          rw [HSG.out] at hV2' ⊢
          obtain ⟨n6, HN6⟩ : ∃ n6 : Nat, Hid ((digs (r * 10 ^ 1 : Int).natAbs).length = n6) := by exact ⟨(digs (r * 10 ^ 1 : Int).natAbs).length, (rfl : (digs (r * 10 ^ 1 : Int).natAbs).length = (digs (r * 10 ^ 1 : Int).natAbs).length)⟩
          rw [HN6.out] at hV2' ⊢
          have hn6 : n6 ≤ 302 := by
            rw [← HN6.out]
            refine Nat.le_trans (digs_len _ (nr + 1) ?_) (by omega)
            have h5 := dval_lt (digs_dg r.natAbs)
            rw [dval_digs, HNR.out] at h5
            have h6 : r.natAbs < 10 ^ nr := by
              have : ((r.natAbs : Nat) : Int) < ((10 ^ nr : Nat) : Int) := by rw [Int.natCast_pow]; exact h5
              exact Int.ofNat_lt.1 this
            rw [HE10.out, Nat.pow_succ]
            omega
          go_wp2_with fail
          refine ⟨fun _ => hW2, ?_⟩
          refine wpM_one 7 rfl (by kernel_rfl) rfl ?_
          go_wp2_with fail
          refine Calls.mono (HOF _).out ?_
          rintro _ w3 ⟨v3, rfl, hV3, b3⟩
          have hW3 : Below wr.heap.size wr w3 := hW2.trans (b3.mono hW2.size)
          have hV2'' := hV2'.below b3
          have HPL : Hid (Calls Tryd.prog 46 #[.agg #[.bool false, .slice a6 n6 c6], v3] w3 _) := plus_any (r * 10 ^ 1) x _ v3 w3 hV2'' hV3 (by rw [HN6.out]; omega) (Nat.le_trans (digs_len _ 1 (by omega)) (by decide))
          obtain ⟨s3, rfl, hD3⟩ := hV3
          obtain ⟨_, a7, c7, rfl, _, _⟩ := id hD3
          clear b3 HOF hW2 hV2' hV2'' hD3
          unfold bv at HPL ⊢
          obtain ⟨sx, HSX⟩ : ∃ sx, Hid (decide (x < 0) = sx) := ⟨_, rfl⟩
          obtain ⟨n7, HN7⟩ : ∃ n7 : Nat, Hid ((digs x.natAbs).length = n7) := ⟨_, rfl⟩
          rw [HSX.out, HN7.out] at HPL ⊢
          go_wp2_with fail
          refine ⟨fun _ => hW3, ?_⟩
          refine wpM_one 8 rfl (by kernel_rfl) rfl ?_
          go_wp2_with fail
          refine Calls.mono HPL.out ?_
          rintro _ w4 ⟨v4, rfl, hV4, b4⟩
          rw [HE10.out] at hV4
          obtain ⟨s4, rfl, hD4⟩ := hV4
          obtain ⟨_, a8, c8, rfl, _, _⟩ := id hD4
          have hW4 : Below wr.heap.size wr w4 := hW3.trans (b4.mono hW3.size)
          clear b4 HPL hW3
          unfold bv
          have HS4 : Hid (decide (10 * r + x < 0) = false) := by show _ = _; exact decide_eq_false (by have := HR0.out; omega)
          rw [HS4.out]
          obtain ⟨n8, HN8⟩ : ∃ n8 : Nat, Hid ((digs (10 * r + x : Int).natAbs).length = n8) := by exact ⟨(digs (10 * r + x : Int).natAbs).length, (rfl : (digs (10 * r + x : Int).natAbs).length = (digs (10 * r + x : Int).natAbs).length)⟩
          rw [HN8.out] at hD4 ⊢
          have hn8 : n8 ≤ 302 := by
            rw [← HN8.out]
            refine Nat.le_trans (digs_len _ (nr + 1) ?_) (by omega)
            have h5 := dval_lt (digs_dg r.natAbs)
            rw [dval_digs, HNR.out] at h5
            have h6 : r.natAbs < 10 ^ nr := by
              have : ((r.natAbs : Nat) : Int) < ((10 ^ nr : Nat) : Int) := by rw [Int.natCast_pow]; exact h5
              exact Int.ofNat_lt.1 this
            rw [Nat.pow_succ]
            omega
          have hQ4 := HQ.out.mono hW4
          have hQ5 := hQ4.put hD4
          rw [HRe.out] at hQ5
          have HQ5 : Hid (QuSt w (.slice (some ⟨b1, o1, none⟩) da.length c1) (.slice a2 db.length c2) a8 n8 c8 qs (10 * r + x) ((w4.setCell ⟨D + 1, 0, none⟩ (.bool false)).setCell ⟨D + 1, 1, none⟩ (.slice a8 n8 c8))) := hQ5
          have q4 := hQ4.rr
          rw [HRe.out] at q4
          clear hQ4 hQ5 hD4 HQ HO HNR
          go_wp2_with fail
          refine ⟨fun _ => hW4, ?_⟩
          obtain ⟨y0, y1⟩ := q4.duo
          have zf := q4.frozen
          refine wpM_one 9 rfl (by kernel_rfl) rfl ?_
          go_wp2_with fail
          refine ⟨fun h => by simp at h, ?_⟩
          refine wpM_done (by kernel_rfl) ?_
          clear y0 y1 zf q4 hW4 k0 k1 k2 hqlt
          generalize (w4.setCell ⟨D + 1, 0, none⟩ (.bool false)).setCell ⟨D + 1, 1, none⟩ (.slice a8 n8 c8) = w5 at *
          obtain ⟨X0, HX0⟩ : ∃ X0, Hid (10 * r + x = X0) := ⟨_, rfl⟩
          rw [HX0.out] at HQ5 HQI HN8
          go_wp2_with fail
          go_loopw [] (fun wk => ∃ (c r1 : Int) (qs1 : List Int) (ar : Option Addr) (nr cr : Nat), Hid (QiAt da qs1 Bv r1 j c X0) ∧ Hid ((digs r1.natAbs).length = nr) ∧ nr ≤ 302 ∧ Hid (QuSt w (.slice (some ⟨b1, o1, none⟩) da.length c1) (.slice a2 db.length c2) ar nr cr qs1 r1 wk)) (fun wk => (10 - intOf ((wk.cell? ⟨D, j, none⟩).getD undef)).toNat)
          case atStart => exact ⟨0, X0, qs, a8, n8, c8, HQI, HN8, hn8, HQ5⟩
          case round =>
            clear HQI HN8 hn8 HQ5 hnr hnr2 HN6 hn6
            obtain ⟨c, r1, qs1, ar1, nr1, cr1, HQI, HN1, hn1, HQ1⟩ := hrel
            have hQ1 := HQ1.out
            have hr10 := HQI.out.r0
            have hqj : j < qs1.length := by rw [HQI.out.le]; exact hj
            have kr := hQ1.rr
            have kb := hQ1.rb
            have kd := hQ1.at j hqj
            have fd := hQ1.rd.frozen j
            rw [HRe.out] at kr
            rw [HDe.out] at kd fd
            rw [HQI.out.here] at kd
            have HKD : Hid (wr.cell? ⟨D, j, none⟩ = some (.int .i64 c)) := kd
            obtain ⟨x0, x1⟩ := kr.duo
            obtain ⟨x2, x3⟩ := kb.duo
            have HMO : Hid (Calls Tryd.prog 70 #[.agg #[.bool false, .slice ar1 nr1 cr1], .agg #[.bool false, .slice a2 db.length c2]] wr fun r9 w' => r9 = .returned (.int .i64 (cI r1 Bv)) ∧ Below wr.heap.size wr w') := by
              have := more_any false false _ _ _ _ wr hQ1.dr (HB.out.below hQ1.be) (digs_dg _) HGB.out (by rw [HN1.out]; omega) (by omega)
              rw [dval_digs, HBV.out, show ((r1.natAbs : Nat) : Int) = r1 by omega] at this
              exact this
            by_cases hge : Bv ≤ r1
            · have HCI : Hid (0 ≤ cI r1 Bv) := by
                show _ ≤ _
                unfold cI
                split
                · omega
                · rw [if_neg (by omega)]; omega
              obtain ⟨ci, HCE⟩ : ∃ ci, Hid (cI r1 Bv = ci) := ⟨_, rfl⟩
              have hci : 0 ≤ ci := by rw [← HCE.out]; exact HCI.out
              rw [HCE.out] at HMO
              have HGE : Hid (Bv ≤ r1) := hge
              clear hge
              go_wp2_with fail
              refine Calls.mono HMO.out ?_
              rintro _ wa ⟨rfl, ba⟩
              have hQa := hQ1.mono ba
              clear ba HMO x0 x1 x2 x3 kr kb kd fd hQ1 HQ1
              have kr := hQa.rr
              have kb := hQa.rb
              rw [HRe.out] at kr
              obtain ⟨x0, x1⟩ := kr.duo
              obtain ⟨x2, x3⟩ := kb.duo
              have HLE : Hid (Calls Tryd.prog 81 #[.agg #[.bool false, .slice ar1 nr1 cr1], .agg #[.bool false, .slice a2 db.length c2]] wa _) := less_digs false false _ _ _ _ wa hQa.dr (HB.out.below hQa.be) (digs_dg _) HGB.out (by rw [HN1.out]; omega) (by omega) (by rw [dval_digs, HBV.out]; have := HGE.out; omega)
              have HQa : Hid (QuSt _ _ _ _ _ _ _ _ _) := hQa
              clear hQa
              go_wp2_with fail
              refine Calls.mono HLE.out ?_
              rintro _ wb ⟨sv, ds, rfl, hDs, hGs, hvs, hls, bb⟩
              rw [dval_digs, HBV.out, show ((r1.natAbs : Nat) : Int) = r1 by omega] at hvs
              rw [HN1.out] at hls
              have hQb := HQa.out.mono bb
              obtain ⟨_, a9, c9, rfl, _, _⟩ := id hDs
              have HTR : Hid (Calls Tryd.prog 59 #[.agg #[.bool false, .slice a9 ds.length c9]] wb _) := trim_new false (.slice a9 ds.length c9) ds wb hDs hGs (by omega)
              rw [show bval false ds = r1 - Bv from hvs] at HTR
              clear bb HLE x0 x1 x2 x3 kr kb HQa hDs hGs hvs
              obtain ⟨n9, hn9⟩ : ∃ n9, ds.length = n9 := ⟨_, rfl⟩
              rw [hn9] at HTR ⊢
              clear hn9 hls
              go_wp2_with fail
              refine Calls.mono HTR.out ?_
              rintro _ wc ⟨v5, rfl, hV5, hN5, bc⟩
              obtain ⟨s5, rfl, hD5⟩ := hV5
              obtain ⟨_, a5, c5, rfl, _, _⟩ := id hD5
              have hQc := hQb.mono bc
              have HS5 : Hid (decide (r1 - Bv < 0) = false) := by show _ = _; exact decide_eq_false (by have := HGE.out; omega)
              obtain ⟨n5, HN5⟩ : ∃ n5 : Nat, Hid ((digs (r1 - Bv : Int).natAbs).length = n5) := by exact ⟨(digs (r1 - Bv : Int).natAbs).length, (rfl : (digs (r1 - Bv : Int).natAbs).length = (digs (r1 - Bv : Int).natAbs).length)⟩
              have hn5 : n5 ≤ 302 := by
                rw [← HN5.out]
                refine Nat.le_trans (digs_len _ nr1 ?_) hn1
                have h5 := dval_lt (digs_dg r1.natAbs)
                rw [dval_digs, HN1.out] at h5
                have h6 : r1.natAbs < 10 ^ nr1 := by
                  have : ((r1.natAbs : Nat) : Int) < ((10 ^ nr1 : Nat) : Int) := by rw [Int.natCast_pow]; exact h5
                  exact Int.ofNat_lt.1 this
                have := HGE.out
                have := HB0.out
                omega
              have hNS : NewS (w.heap.size + 1 + 1 + 1 + 1 + 1) (.slice a5 (digs (r1 - Bv).natAbs).length c5) := hN5.get.mono (Nat.le_of_lt hQb.rr.lt)
              unfold bv
              rw [HS5.out]
              rw [HN5.out] at hD5 hNS ⊢
              have hQd := hQc.put hD5
              have kr := hQc.rr
              rw [HRe.out] at kr hQd
              clear bc HTR hQb hQc hD5 hN5
              obtain ⟨x0, x1⟩ := kr.duo
              have zf := kr.frozen
              go_upto_region 11 with fail
              clear x0 x1 zf kr
              generalize (wc.setCell ⟨D + 1, 0, none⟩ (.bool false)).setCell ⟨D + 1, 1, none⟩ (.slice a5 n5 c5) = wd at *
              have HST : Hid (QiAt da (qs1.set j (c + 1)) Bv (r1 - Bv) j (c + 1) X0) := HQI.out.step hj HB0.out HGE.out
              have hc9 : c + 1 ≤ 9 := HST.out.c9 HB0.out
              have hc0 := HQI.out.c0
              have kd := hQd.at j hqj
              have fd := hQd.rd.frozen j
              rw [HQI.out.here] at kd
              have hQe := hQd.set hNS j (c + 1)
              rw [HDe.out] at kd fd hQe
              have HQe : Hid (QuSt _ _ _ _ _ _ _ _ _) := hQe
              have hqe : (wd.setCell ⟨D, j, none⟩ (.int .i64 (c + 1))).cell? ⟨D, j, none⟩ = some (.int .i64 (c + 1)) := by
                have h5 := hQe.at j (by rw [List.length_set]; exact hqj)
                rw [HDe.out, getD_set _ _ _ _ hqj, if_pos rfl] at h5
                exact h5
              have HQC : Hid _ := hqe
              clear hQd hQe hNS hqe
              go_wp2
              go_roundw
              case rel => exact ⟨c + 1, r1 - Bv, qs1.set j (c + 1), a5, n5, c5, HST, HN5, hn5, HQe⟩
              case measure =>
                rw [HQC.out, HKD.out]
                simp only [Option.getD_some, intOf]
                omega
            · obtain ⟨ci, HCE⟩ : ∃ ci, Hid (cI r1 Bv = ci) := ⟨_, rfl⟩
              have hci : ci < 0 := by
                rw [← HCE.out]
                unfold cI
                rw [if_neg (by omega), if_pos (by omega)]
                omega
              rw [HCE.out] at HMO
              have HDN : Hid (QoAt da qs1 Bv r1 j) := HQI.out.done hj HB0.out (by omega)
              clear hge
              go_wp2_with fail
              refine Calls.mono HMO.out ?_
              rintro _ wa ⟨rfl, ba⟩
              have HQa : Hid (QuSt _ _ _ _ _ _ _ _ _) := hQ1.mono ba
              clear ba HMO x0 x1 x2 x3 kr kb kd fd hQ1 HQ1
              go_wp2
              go_roundw
              case rel => exact ⟨j, qs1, r1, ar1, nr1, cr1, by omega, by go_num, HDN, HN1, hn1, HQa⟩
              case measure => simp [intOf] <;> omega
  case rest =>
    clear HQ0
    obtain ⟨qs, r, ar, nr, cr, HO, HNR, hnr, hql, HQ⟩ := hcut
    have hQ := HQ.out
    have HDR : Hid (dval da % Bv = r ∧ dval da / Bv = dval qs ∧ 0 ≤ r) := by
      have h1 := HO.out.re
      have h2 := HO.out.va
      rw [List.drop_zero] at h1 h2
      rw [List.drop_zero] at h2
      exact ⟨h1.symm, h2.symm, by rw [h1]; exact Int.emod_nonneg _ (Int.ne_of_gt HB0.out)⟩
    have hql2 : da.length = qs.length := HO.out.le.symm
    have HDG : Hid (DgAt wc (.slice (some ⟨D, 0, none⟩) da.length da.length) qs) := by
      show DgAt _ _ _
      rw [hql2]
      refine ⟨.inr ⟨D, 0, qs.length, rfl, by rw [← HDe.out]; exact hQ.rd.lt, fun j hj => ?_⟩, _, _, rfl, Nat.le_refl _, fun e => by simp at e⟩
      have := hQ.at j hj
      rw [HDe.out] at this
      rw [Nat.zero_add]
      exact this
    have HTR : ∀ V, Below wc.heap.size wc V → Hid (Calls Tryd.prog 59 #[.agg #[.bool false, .slice (some ⟨D, 0, none⟩) da.length da.length]] V fun r9 w' => ∃ v, r9 = .returned v ∧ BigV w' (dval da / Bv) v ∧ NewV V.heap.size v ∧ Below V.heap.size V w') := fun V h => by
      have := trim_new false _ qs V (HDG.out.below h) HO.out.dg (by omega)
      rw [show bval false qs = dval da / Bv from HDR.out.2.1.symm] at this
      exact this
    clear hql2
    go_upto_region 12 with fail
    have hS0 : Below wc.heap.size wc wc.drew := (Below.refl _ wc).drew
    have krr : Row wc (D + 1) 45 #[.bool false, .slice ar nr cr] := by have := hQ.rr; rw [HRe.out] at this; exact this
    have hS : Row wc.drew (D + 1) 45 #[.bool false, .slice ar nr cr] := krr
    refine wp_region_M (fun wx : World => Row wx (D + 1) 45 #[.bool false, .slice ar nr cr]) (fun j => decide (j < 5)) 6 rfl (by kernel_rfl) ?_
    refine wpM_held 0 (v := .slice (some ⟨D, 0, none⟩) da.length da.length) rfl (by kernel_rfl) (by kernel_rfl) rfl (fun _ _ _ h => h) rfl (by intro wx hx; go_simp <;> rfl) hS ?_
    refine wpM_held 1 (v := .agg #[.bool false, .slice (some ⟨D, 0, none⟩) da.length da.length]) rfl (by kernel_rfl) (by kernel_rfl) rfl (fun _ _ _ h => h) rfl (by intro wx hx; go_simp <;> rfl) hS ?_
    refine wpM_held 3 (v := .agg #[.bool false, .slice ar nr cr]) rfl (by kernel_rfl) (by kernel_rfl) rfl (fun _ _ _ h => h) rfl (by intro wx hx; obtain ⟨x0, x1⟩ := hx.duo; go_simp <;> rfl) hS ?_
    refine wpM_one 2 rfl (by kernel_rfl) rfl ?_
    go_wp2_with fail
    refine Calls.mono (HTR _ hS0).out ?_
    rintro _ w2 ⟨v2, rfl, hV2, hN2, b2⟩
    obtain ⟨s2, rfl, hD2⟩ := hV2
    obtain ⟨_, a3, c3, rfl, _, _⟩ := id hD2
    have hW2 : Below wc.heap.size wc w2 := hS0.trans (b2.mono hS0.size)
    have hQ2 := hQ.mono hW2
    have hS2 : Row w2 (D + 1) 45 #[.bool false, .slice ar nr cr] := krr.below hW2 krr.lt
    clear b2 HTR hS hS0 hQ HQ krr hN2
    obtain ⟨sg, HSG⟩ : ∃ sg, Hid (decide (dval da / Bv < 0) = sg) := ⟨_, rfl⟩
    obtain ⟨n3, HN3⟩ : ∃ n3 : Nat, Hid ((digs (dval da / Bv : Int).natAbs).length = n3) := by exact ⟨(digs (dval da / Bv : Int).natAbs).length, (rfl : (digs (dval da / Bv : Int).natAbs).length = (digs (dval da / Bv : Int).natAbs).length)⟩
    unfold bv
    rw [HSG.out]
    rw [HN3.out] at hD2 ⊢
    go_wp2_with fail
    refine ⟨fun _ => hS2, ?_⟩
    have p1 := hQ2.y1
    have p2 := hQ2.y2
    obtain ⟨x0, x1⟩ := p1.duo
    have zf := p1.frozen
    have t1 : Row ((w2.setCell ⟨w.heap.size + 1 + 1, 0, none⟩ (.bool sg)).setCell ⟨w.heap.size + 1 + 1, 1, none⟩ (.slice a3 n3 c3)) (w.heap.size + 1 + 1) 45 #[.bool sg, .slice a3 n3 c3] := Row.set2 p1 _ _
    have t2 := (p2.other (K := w.heap.size + 1 + 1) (by omega) 0 (.bool sg)).other (K := w.heap.size + 1 + 1) (by omega) 1 (.slice a3 n3 c3)
    have hS3 := (hS2.other (K := w.heap.size + 1 + 1) (by have := HDe.out; omega) 0 (.bool sg)).other (K := w.heap.size + 1 + 1) (by have := HDe.out; omega) 1 (.slice a3 n3 c3)
    have dq := hD2.store p1 (.bool sg) (.slice a3 n3 c3)
    have dr := hQ2.dr.store p1 (.bool sg) (.slice a3 n3 c3)
    have hB3 := below_set (below_set hQ2.be (B := w.heap.size + 1 + 1) 0 (.bool sg) (by omega)) (B := w.heap.size + 1 + 1) 1 (.slice a3 n3 c3) (by omega)
    refine wpM_one 4 rfl (by kernel_rfl) rfl ?_
    go_wp2_with fail
    refine ⟨fun _ => hS3, ?_⟩
    clear x0 x1 zf p1 p2 hS2 hS3 hQ2 hD2 hW2
    generalize (w2.setCell ⟨w.heap.size + 1 + 1, 0, none⟩ (.bool sg)).setCell ⟨w.heap.size + 1 + 1, 1, none⟩ (.slice a3 n3 c3) = w3 at *
    obtain ⟨x0, x1⟩ := t2.duo
    have zf := t2.frozen
    have u1 := (t1.other (K := w.heap.size + 1 + 1 + 1) (by omega) 0 (.bool false)).other (K := w.heap.size + 1 + 1 + 1) (by omega) 1 (.slice ar nr cr)
    have u2 : Row ((w3.setCell ⟨w.heap.size + 1 + 1 + 1, 0, none⟩ (.bool false)).setCell ⟨w.heap.size + 1 + 1 + 1, 1, none⟩ (.slice ar nr cr)) (w.heap.size + 1 + 1 + 1) 45 #[.bool false, .slice ar nr cr] := Row.set2 t2 _ _
    have eq := dq.store t2 (.bool false) (.slice ar nr cr)
    have er := dr.store t2 (.bool false) (.slice ar nr cr)
    have hB4 := below_set (below_set hB3 (B := w.heap.size + 1 + 1 + 1) 0 (.bool false) (by omega)) (B := w.heap.size + 1 + 1 + 1) 1 (.slice ar nr cr) (by omega)
    refine wpM_one 5 rfl (by kernel_rfl) rfl ?_
    go_wp2_with fail
    refine ⟨fun h => by simp at h, ?_⟩
    refine wpM_done (by kernel_rfl) ?_
    go_wp2
    refine bodyPost_ret (ret_cells rfl (g := w.heap.size + 1 + 1) (g2 := w.heap.size + 1 + 1 + 1) rfl rfl (load43 u1 rfl) (load43 u2 rfl)) rfl ⟨_, _, rfl, ⟨_, by rw [HSG.out]; rfl, eq⟩, ?_, hB4⟩
    rw [HDR.out.1]
    exact ⟨_, by rw [decide_eq_false (by have := HDR.out.2.2; omega)]; rfl, er⟩
end Go.Proofs.YtfbhonjndepjbaaDoor
