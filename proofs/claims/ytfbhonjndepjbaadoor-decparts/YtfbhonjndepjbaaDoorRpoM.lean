import Derived.Test.YtfbhonjndepjbaaDoorRtxM
import Derived.Test.YtfbhonjndepjbaaDoorRtxM
import Derived.Test.YtfbhonjndepjbaaDoorRin
import Derived.Test.YtfbhonjndepjbaaDoorRfiMM
import Derived.Test.YtfbhonjndepjbaaDoorRfiMM
import Derived.Test.YtfbhonjndepjbaaDoorPqpM
import Derived.Deep.CutBlock
import Derived.Deep.DeepCutAuto
import Derived.Test.YtfbhonjndepjbaaDoorWddM
/- The document's Pow: powers of zero and more. -/
namespace Go.Proofs.YtfbhonjndepjbaaDoor
open Go.RowKit

theorem pow_len (c : Int) (hc : I64 c) (i : Nat) (hi : i ≤ 64) : (digs (c ^ i).natAbs).length ≤ 1400 := by
  have h1 : c.natAbs ≤ 10 ^ 19 := by unfold I64 at hc; have c19 : (10 : Nat) ^ 19 = 10000000000000000000 := by decide
                                     omega
  have h2 : (c ^ i).natAbs ≤ 10 ^ (19 * i) := by
    rw [Int.natAbs_pow, Nat.pow_mul]
    exact Nat.pow_le_pow_left h1 i
  have h3 : (c ^ i).natAbs < 10 ^ (19 * i + 1) := Nat.lt_of_le_of_lt h2 (Nat.pow_lt_pow_right (by decide) (by omega))
  exact Nat.le_trans (digs_len _ _ h3) (by omega)
theorem e_times (e : Int) (i : Nat) (he1 : -18 ≤ e) (he2 : e ≤ 18) (hi : i ≤ 64) : -1152 ≤ e * (i : Int) ∧ e * (i : Int) ≤ 1152 := by
  have h1 : e * (i : Int) ≤ 18 * (i : Int) := Int.mul_le_mul_of_nonneg_right he2 (by omega)
  have h2 : (-18) * (i : Int) ≤ e * (i : Int) := Int.mul_le_mul_of_nonneg_right he1 (by omega)
  omega
set_option maxRecDepth 100000 in
set_option maxHeartbeats 16000000 in
theorem rpow_up (c e d f : Int) (hc : I64 c) (hd : I64 d) (w : World) (he1 : -18 ≤ e) (he2 : e ≤ 18) (hf1 : -18 ≤ f) (hf2 : f ≤ 18) (k : Nat) (hk : k ≤ 64) (hI : intV d f = .tuple #[.int .i64 (k : Int), .bool true]) : Calls Tryd.prog 23 #[.agg #[.int .i64 c, .int .i64 e], .agg #[.int .i64 d, .int .i64 f]] w fun r w' => r = .returned (decV (tell (c ^ k) (e * (k : Int)))) ∧ Below w.heap.size w w' := by
  have HI : ∀ W, Hid (Calls Tryd.prog 37 #[.agg #[.int .i64 d, .int .i64 f]] W fun r w' => r = .returned (.tuple #[.int .i64 (k : Int), .bool true]) ∧ Below W.heap.size W w') := fun W => by
    have := rint_any d f hd ⟨hf1, hf2⟩ W
    rw [hI] at this
    exact this
  obtain ⟨rv, hrv⟩ : ∃ rv, decV (tell (c ^ k) (e * (k : Int))) = rv := ⟨_, rfl⟩
  rw [hrv]
  have HRV : Hid (decV (tell (c ^ k) (e * (k : Int))) = rv) := hrv
  clear hrv hI
  have HC : ∀ W, Hid (Calls Tryd.prog 53 #[.agg #[.int .i64 c, .int .i64 e]] W _) := fun W => num_any c e hc W
  have HD : ∀ W, Hid (Calls Tryd.prog 53 #[.agg #[.int .i64 d, .int .i64 f]] W _) := fun W => num_any d f hd W
  rw [decide_eq_true (show -18 ≤ e ∧ e ≤ 18 from ⟨he1, he2⟩)] at HC
  rw [decide_eq_true (show -18 ≤ f ∧ f ≤ 18 from ⟨hf1, hf2⟩)] at HD
  go_enter Tryd.func23, Tryd.ntmps23
  go_wp2_with fail
  have r1 := (Row.new1 w (.cells #[.int .i64 c, .int .i64 e] 23) 23 #[.int .i64 d, .int .i64 f]).alloc (.cells #[.int .i64 0, .int .i64 0] 23)
  have r2 := Row.new ((w.alloc (.cells #[.int .i64 c, .int .i64 e] 23)).alloc (.cells #[.int .i64 d, .int .i64 f] 23)) 23 #[.int .i64 0, .int .i64 0]
  have hB := (((Below.refl _ w).alloc (Nat.le_refl _) (.cells #[.int .i64 c, .int .i64 e] 23)).alloc (by simp) (.cells #[.int .i64 d, .int .i64 f] 23)).alloc (by simp; omega) (.cells #[.int .i64 0, .int .i64 0] 23)
  have hWs : w.heap.size + 3 ≤ (((((w.alloc (.cells #[.int .i64 c, .int .i64 e] 23)).alloc (.cells #[.int .i64 d, .int .i64 f] 23)).alloc (.cells #[.int .i64 0, .int .i64 0] 23)))).heap.size := by simp
  simp only [World.size_alloc] at r2
  generalize ((((w.alloc (.cells #[.int .i64 c, .int .i64 e] 23)).alloc (.cells #[.int .i64 d, .int .i64 f] 23)).alloc (.cells #[.int .i64 0, .int .i64 0] 23))) = W at *
  refine Calls.mono (HC W).out ?_
  rintro _ w1 ⟨s1, rfl, hD1, hN1, b1⟩
  clear HC hN1
  obtain ⟨_, a1, c1, rfl, _, _⟩ := id hD1
  obtain ⟨nc, HNC⟩ : ∃ nc, Hid (decide (c < 0) = nc) := ⟨_, rfl⟩
  rw [HNC.out]
  obtain ⟨lc, HLC⟩ : ∃ lc, Hid ((digs c.natAbs).length = lc) := ⟨_, rfl⟩
  rw [HLC.out] at hD1
  rw [HLC.out]
  have q1 := (r1.below b1 r1.lt).alloc (.cells #[.bool nc, .slice a1 lc c1, .int .i64 e] 47)
  obtain ⟨x0, x1⟩ := q1.duo
  go_wp2_with fail
  have r4 := Row.new w1 47 #[.bool nc, .slice a1 lc c1, .int .i64 e]
  have b2 : Below W.heap.size W (w1.alloc (.cells #[.bool nc, .slice a1 lc c1, .int .i64 e] 47)) := b1.alloc b1.size _
  have hD2 := hD1.below ((Below.refl _ w1).alloc (Nat.le_refl _) (.cells #[.bool nc, .slice a1 lc c1, .int .i64 e] 47))
  clear x0 x1 hD1
  generalize w1.alloc (.cells #[.bool nc, .slice a1 lc c1, .int .i64 e] 47) = W2 at *
  generalize w1.heap.size = X at *
  refine Calls.mono (HD W2).out ?_
  rintro _ w2 ⟨s2, rfl, hD3, hN3, b3⟩
  clear HD hN3
  obtain ⟨_, a2, c2, rfl, _, _⟩ := id hD3
  obtain ⟨nd, HND⟩ : ∃ nd, Hid (decide (d < 0) = nd) := ⟨_, rfl⟩
  rw [HND.out]
  obtain ⟨ld, HLD⟩ : ∃ ld, Hid ((digs d.natAbs).length = ld) := ⟨_, rfl⟩
  rw [HLD.out]
  clear hD3
  have b4 : Below W2.heap.size W2 (w2.alloc (.cells #[.bool nd, .slice a2 ld c2, .int .i64 f] 47)) := b3.alloc b3.size _
  have eX := hD2.below b4
  have px := r4.below b4 r4.lt
  have hrx := (r2.below b2 r2.lt).below b4 (r2.below b2 r2.lt).lt
  have hBe := (hB.trans (b2.mono (by omega))).trans (b4.mono (Nat.le_trans (by omega) b2.size))
  have q2 := q1.below b4 q1.lt
  obtain ⟨x0, x1⟩ := q2.duo
  go_upto_region 5 with fail
  generalize w2.alloc (.cells #[.bool nd, .slice a2 ld c2, .int .i64 f] 47) = W3 at *
  generalize w2.heap.size = Y at *
  clear r1 r2 hB r4 hD2 b1 b2 b3 b4 q1
  go_wp2_with fail
  refine Calls.mono (HI W3).out ?_
  rintro _ w3 ⟨rfl, b5⟩
  clear x0 x1 HI
  have eX2 := eX.below b5
  have px2 := px.below b5 px.lt
  have hr2 := hrx.below b5 hrx.lt
  have hB2 := hBe.trans (b5.mono hBe.size)
  clear eX px hrx hBe q2 b5
  have g1 : decide ((k : Int) < -64) = false := decide_eq_false (by omega)
  have g2 : decide ((64 : Int) < (k : Int)) = false := decide_eq_false (by omega)
  have g3 : decide ((k : Int) < 0) = false := decide_eq_false (by omega)
  have hcl : (digs c.natAbs).length ≤ 20 := by
    have c20 : (10 : Nat) ^ 20 = 100000000000000000000 := by decide
    exact digs_len _ 20 (by unfold I64 at hc; omega)
  go_upto_region 8 with fail
  go_cut [58] (fun v58 wx => v58 = .bool false ∧ wx = w3)
  case first =>
    obtain ⟨x0, x1, x2⟩ := px2.tri
    by_cases hl0 : lc = 0
    · subst hl0
      go_wp2_with fail
      go_meet
      exact ⟨rfl, rfl⟩
    · have hl1 : ((lc : Int) == 0) = false := beq_eq_false_iff_ne.2 (by omega)
      go_wp2_with fail
      go_meet
      exact ⟨rfl, rfl⟩
  case rest =>
    obtain ⟨rfl, rfl⟩ := hcut
    have HO := of_new 1 ⟨by decide, by decide⟩ wc
    go_wp2_with fail
    refine Calls.mono HO ?_
    rintro _ w4 ⟨v4, rfl, hV4, hN4, b6⟩
    clear HO
    obtain ⟨s4, rfl, hD4⟩ := hV4
    have hN4 := hN4.get
    obtain ⟨_, a4, c4, rfl, _, _⟩ := id hD4
    have hX6 : X < wc.heap.size := px2.lt
    have hZ6 : w.heap.size + 1 + 1 < wc.heap.size := hr2.lt
    obtain ⟨n4, HN4e⟩ : ∃ n4, Hid ((digs (1 : Int).natAbs).length = n4) := ⟨_, rfl⟩
    rw [HN4e.out] at hD4 hN4
    obtain ⟨s1g, hs1g⟩ : ∃ b, decide ((1 : Int) < 0) = b := ⟨_, rfl⟩
    have HS1 : Hid (decide ((1 : Int) < 0) = s1g) := hs1g
    unfold bv
    rw [HN4e.out, hs1g]
    clear hs1g
    have pb := Row.new w4 47 #[.bool s1g, .slice a4 n4 c4, .int .i64 0]
    have b7 : Below w4.heap.size w4 (w4.alloc (.cells #[.bool s1g, .slice a4 n4 c4, .int .i64 0] 47)) := (Below.refl _ w4).alloc (Nat.le_refl _) _
    have hBw : Below wc.heap.size wc (w4.alloc (.cells #[.bool s1g, .slice a4 n4 c4, .int .i64 0] 47)) := b6.trans (b7.mono b6.size)
    have hD5 := hD4.below b7
    have hne0 : NeS w4.heap.size (.slice a4 n4 c4) := hD4.ne (Nat.le_refl _)
    have hPB : wc.heap.size ≤ w4.heap.size := b6.size
    go_upto_region 14 with fail
    generalize w4.alloc (.cells #[.bool s1g, .slice a4 n4 c4, .int .i64 0] 47) = w5 at *
    generalize w4.heap.size = PB at *
    clear b6 b7 hD4 hN4
    go_wp2_with fail
    go_loopw [14] (fun v14 wx => ∃ (i : Nat) (a : Option Addr) (n cc : Nat) (sg : Bool), i ≤ k ∧ v14 = .int .i64 (i : Int) ∧ Row wx PB 47 #[.bool sg, .slice a n cc, .int .i64 (e * (i : Int))] ∧ Hid (BigV wx (c ^ i) (.agg #[.bool sg, .slice a n cc])) ∧ Hid (NeS PB (.slice a n cc)) ∧ Hid (Below wc.heap.size wc wx)) (fun v14 _ => k - (intOf v14).toNat)
    case atStart =>
      exact ⟨0, a4, n4, c4, s1g, Nat.zero_le _, rfl, by simpa using pb, ⟨_, by rw [Int.pow_zero, HS1.out]; rfl, by rw [Int.pow_zero]; exact hD5⟩, hne0, hBw⟩
    case round =>
      obtain ⟨i, a, n, cc, sg, hi, rfl, hrow, HBV, HNE, HBE⟩ := hrel
      clear pb hD5 hne0 hBw
      by_cases hik : i < k
      · have gk : decide ((i : Int) < (k : Int)) = true := decide_eq_true (by omega)
        have px3 := px2.below HBE.out px2.lt
        have eb := eX2.below HBE.out
        obtain ⟨et1, et2⟩ := e_times e i he1 he2 (by omega)
        have HT : ∀ V, Below wr.heap.size wr V → Hid (Calls Tryd.prog 54 #[.agg #[.bool sg, .slice a n cc], .agg #[.bool nc, .slice a1 lc c1]] V fun r w' => ∃ sg' a' n' cc', r = .returned (.agg #[.bool sg', .slice a' n' cc']) ∧ BigV w' (c ^ i * c) (.agg #[.bool sg', .slice a' n' cc']) ∧ NewS V.heap.size (.slice a' n' cc') ∧ Below V.heap.size V w') := fun V hV => by
          obtain ⟨sv, hsv, hDg⟩ := HBV.out
          have hx : BigV V (c ^ i) (.agg #[.bool sg, .slice a n cc]) := ⟨sv, hsv, hDg.below hV⟩
          have hy : BigV V c (.agg #[.bool nc, .slice a1 lc c1]) := ⟨.slice a1 lc c1, by rw [HNC.out]; rfl, eb.below hV⟩
          refine (rtimes_new (c ^ i) c _ _ V hx hy (pow_len c hc i (by omega)) (by omega)).mono ?_
          rintro r w' ⟨v, rfl, h1, h2, h3⟩
          obtain ⟨s, rfl, hs⟩ := h1
          obtain ⟨_, a', c', rfl, _, _⟩ := id hs
          exact ⟨_, a', _, c', rfl, ⟨_, rfl, hs⟩, h2.get, h3⟩
        have fw : IntKind.i64.wrap (e * (i : Int) + e) = e * (i : Int) + e := IntWalk.i64_in _ ⟨by omega, by omega⟩
        have trb : ∀ wx, Below wr.heap.size wr wx → wx.cell? ⟨PB, 0, none⟩ = some (.bool sg) ∧ wx.cell? ⟨PB, 1, none⟩ = some (.slice a n cc) ∧ wx.cell? ⟨PB, 2, none⟩ = some (.int .i64 (e * (i : Int))) := fun wx hx => (hrow.below hx hrow.lt).tri
        have trx : ∀ wx, Below wr.heap.size wr wx → wx.cell? ⟨X, 0, none⟩ = some (.bool nc) ∧ wx.cell? ⟨X, 1, none⟩ = some (.slice a1 lc c1) ∧ wx.cell? ⟨X, 2, none⟩ = some (.int .i64 e) := fun wx hx => (px3.below hx px3.lt).tri
        obtain ⟨ei, hei⟩ : ∃ ei, e * (i : Int) = ei := ⟨_, rfl⟩
        have HEI : Hid (e * (i : Int) = ei) := hei
        rw [hei] at fw trb hrow et1 et2
        clear hei
        go_upto_region 17 with fail
        have hS : Below wr.heap.size wr wr.drew := (Below.refl _ wr).drew
        refine wp_region_M (fun wx : World => Below wr.heap.size wr wx) (fun j => decide (j < 11)) 12 rfl (by kernel_rfl) ?_
        refine wpM_held 0 (v := ?_) rfl (by kernel_rfl) (by kernel_rfl) rfl (fun _ _ _ h => h) rfl (by intro wx hx; go_simp <;> rfl) hS ?_
        refine wpM_held 1 (v := .agg #[.bool sg, .slice a n cc]) rfl (by kernel_rfl) (by kernel_rfl) rfl (fun _ _ _ h => h) rfl (by intro wx hx; obtain ⟨x0, x1, x2⟩ := trb wx hx; go_simp <;> rfl) hS ?_
        refine wpM_held 2 (v := ?_) rfl (by kernel_rfl) (by kernel_rfl) rfl (fun _ _ _ h => h) rfl (by intro wx hx; go_simp <;> rfl) hS ?_
        refine wpM_held 3 (v := .agg #[.bool nc, .slice a1 lc c1]) rfl (by kernel_rfl) (by kernel_rfl) rfl (fun _ _ _ h => h) rfl (by intro wx hx; obtain ⟨x0, x1, x2⟩ := trx wx hx; go_simp <;> rfl) hS ?_
        refine wpM_held 5 (v := ?_) rfl (by kernel_rfl) (by kernel_rfl) rfl (fun _ _ _ h => h) rfl (by intro wx hx; go_simp <;> rfl) hS ?_
        refine wpM_held 6 (v := .int .i64 ei) rfl (by kernel_rfl) (by kernel_rfl) rfl (fun _ _ _ h => h) rfl (by intro wx hx; obtain ⟨x0, x1, x2⟩ := trb wx hx; go_simp <;> rfl) hS ?_
        refine wpM_held 7 (v := ?_) rfl (by kernel_rfl) (by kernel_rfl) rfl (fun _ _ _ h => h) rfl (by intro wx hx; go_simp <;> rfl) hS ?_
        refine wpM_held 8 (v := .int .i64 e) rfl (by kernel_rfl) (by kernel_rfl) rfl (fun _ _ _ h => h) rfl (by intro wx hx; obtain ⟨x0, x1, x2⟩ := trx wx hx; go_simp <;> rfl) hS ?_
        refine wpM_held 9 (v := .int .i64 (ei + e)) rfl (by kernel_rfl) (by kernel_rfl) rfl (fun _ _ _ h => h) rfl (by intro wx hx; go_simp <;> first | rfl | exact fw) hS ?_
        refine wpM_one 4 rfl (by kernel_rfl) rfl ?_
        go_wp2_with fail
        refine Calls.mono (HT _ hS).out ?_
        rintro _ wb ⟨sg', a', n', cc', rfl, hV', hN', b4⟩
        have hWb : Below wr.heap.size wr wb := hS.trans (b4.mono hS.size)
        have hNP : NeS PB (.slice a' n' cc') := hN'.ne (Nat.lt_of_lt_of_le hrow.lt hS.size)
        clear b4 HT hN'
        have HBV' : Hid (BigV wb (c ^ i * c) (.agg #[.bool sg', .slice a' n' cc'])) := hV'
        clear hV'
        go_wp2_with fail
        refine ⟨fun _ => hWb, ?_⟩
        refine wpM_one 10 rfl (by kernel_rfl) rfl ?_
        go_wp2_with fail
        refine ⟨fun _ => hWb, ?_⟩
        have pr := hrow.below hWb hrow.lt
        obtain ⟨y0, y1, y2⟩ := pr.tri
        have zf := pr.frozen
        have hlt := pr.lt
        have hZe := Row.set3N pr (.bool sg') (.slice a' n' cc') (.int .i64 (ei + e))
        have hBx := HBE.out.trans (hWb.mono HBE.out.size)
        have hBg := below_set (below_set (below_set hBx (B := PB) 0 (.bool sg') hPB) (B := PB) 1 (.slice a' n' cc') hPB) (B := PB) 2 (.int .i64 (ei + e)) hPB
        have HBW : Hid (BigV (((wb.setCell ⟨PB, 0, none⟩ (.bool sg')).setCell ⟨PB, 1, none⟩ (.slice a' n' cc')).setCell ⟨PB, 2, none⟩ (.int .i64 (ei + e))) (c ^ (i + 1)) (.agg #[.bool sg', .slice a' n' cc'])) := by
          obtain ⟨s, hs, hD⟩ := HBV'.out
          have hsl : s = .slice a' n' cc' := by
            unfold bv at hs
            simp only [Value.agg.injEq, Array.mk.injEq, List.cons.injEq, and_true] at hs
            exact hs.2.symm
          subst hsl
          refine ⟨.slice a' n' cc', ?_, ?_⟩
          · rw [Int.pow_succ]; exact hs
          · rw [Int.pow_succ]
            exact ((hD.offN hNP 0 _).offN hNP 1 _).offN hNP 2 _
        have HZ : Hid _ := hZe
        have HG : Hid _ := hBg
        clear HBV HBV' hZe hBg hBx eb px3 trb trx hS
        refine wpM_one 11 rfl (by kernel_rfl) rfl ?_
        go_wp2_with fail
        refine ⟨fun h => by simp at h, ?_⟩
        refine wpM_done (by kernel_rfl) ?_
        go_wp2_with fail
        go_roundw
        case rel => exact ⟨i + 1, a', n', cc', sg', by omega, rfl, by rw [show e * ((i + 1 : Nat) : Int) = ei + e by rw [← HEI.out, Int.natCast_succ, Int.mul_add, Int.mul_one]]; exact HZ.out, HBW, hNP, HG⟩
        case measure => simp [intOf]; omega
      · have gk : decide ((i : Int) < (k : Int)) = false := decide_eq_false (by omega)
        have hike : i = k := by omega
        subst hike
        obtain ⟨et1, et2⟩ := e_times e i he1 he2 hk
        obtain ⟨p, q, er, hdv⟩ := decV_form (tell (c ^ i) (e * (i : Int)))
        have HRES : Hid (rv = .tuple #[.agg #[.int .i64 p, .int .i64 q], .int .i64 er]) := by show _ = _; rw [← HRV.out, hdv]
        have HTE : Hid (Calls Tryd.prog 45 #[.agg #[.bool sg, .slice a n cc, .int .i64 (e * (i : Int))]] wr fun r w' => r = .returned (.tuple #[.agg #[.int .i64 p, .int .i64 q], .int .i64 er]) ∧ Below wr.heap.size wr w') := by
          obtain ⟨s, hs, hD⟩ := HBV.out
          unfold bv at hs
          simp only [Value.agg.injEq, Array.mk.injEq, List.cons.injEq, and_true] at hs
          have := told_big (c ^ i) (e * (i : Int)) _ wr ⟨s, rfl, hD⟩ (by omega) (by omega) (pow_len c hc i hk)
          rw [hdv, ← hs.1, ← hs.2] at this
          exact this
        clear hdv
        have rz := hr2.below HBE.out hZ6
        obtain ⟨d0, d1, d2⟩ := hrow.tri
        have hB8 := hB2.trans (HBE.out.mono hB2.size)
        have g4 : decide ((0 : Int) ≤ (i : Int)) = true := decide_eq_true (by omega)
        obtain ⟨ei, hei⟩ : ∃ ei, e * (i : Int) = ei := ⟨_, rfl⟩
        rw [hei] at HTE hrow d2
        clear hei HRV
        go_wp2_with fail
        refine Calls.mono HTE.out ?_
        rintro _ wd ⟨rfl, b8⟩
        have pr := rz.below b8 rz.lt
        obtain ⟨y0, y1⟩ := pr.duo
        have zf := pr.frozen
        have hlt := pr.lt
        have hZe := Row.set2 pr (.int .i64 p) (.int .i64 q)
        have hB9 := hB8.trans (b8.mono hB8.size)
        have hBg := below_set (below_set hB9 (B := w.heap.size + 1 + 1) 0 (.int .i64 p) (by omega)) (B := w.heap.size + 1 + 1) 1 (.int .i64 q) (by omega)
        clear d0 d1 d2 hrow HTE
        go_wp2
        exact bodyPost_ret (ret_two rfl (g := w.heap.size + 1 + 1) rfl rfl (load23 hZe rfl)) rfl ⟨by rw [HRES.out]; rfl, hBg⟩
end Go.Proofs.YtfbhonjndepjbaaDoor
/- The document's Pow: where it refuses. -/
namespace Go.Proofs.YtfbhonjndepjbaaDoor
open Go.RowKit

set_option maxRecDepth 100000 in
set_option maxHeartbeats 16000000 in
theorem rpow_part (c e d f : Int) (hc : I64 c) (hd : I64 d) (w : World) (he1 : -18 ≤ e) (he2 : e ≤ 18) (hf1 : -18 ≤ f) (hf2 : f ≤ 18) (n : Int) (hI : intV d f = .tuple #[.int .i64 n, .bool false]) : Calls Tryd.prog 23 #[.agg #[.int .i64 c, .int .i64 e], .agg #[.int .i64 d, .int .i64 f]] w fun r w' => r = .returned (.tuple #[.agg #[.int .i64 0, .int .i64 0], .int .i64 30]) ∧ Below w.heap.size w w' := by
  have HI : ∀ W, Hid (Calls Tryd.prog 37 #[.agg #[.int .i64 d, .int .i64 f]] W fun r w' => r = .returned (.tuple #[.int .i64 n, .bool false]) ∧ Below W.heap.size W w') := fun W => by
    have := rint_any d f hd ⟨hf1, hf2⟩ W
    rw [hI] at this
    exact this
  clear hI
  have HC : ∀ W, Hid (Calls Tryd.prog 53 #[.agg #[.int .i64 c, .int .i64 e]] W _) := fun W => num_any c e hc W
  have HD : ∀ W, Hid (Calls Tryd.prog 53 #[.agg #[.int .i64 d, .int .i64 f]] W _) := fun W => num_any d f hd W
  rw [decide_eq_true (show -18 ≤ e ∧ e ≤ 18 from ⟨he1, he2⟩)] at HC
  rw [decide_eq_true (show -18 ≤ f ∧ f ≤ 18 from ⟨hf1, hf2⟩)] at HD
  go_enter Tryd.func23, Tryd.ntmps23
  go_wp2_with fail
  have r1 := (Row.new1 w (.cells #[.int .i64 c, .int .i64 e] 23) 23 #[.int .i64 d, .int .i64 f]).alloc (.cells #[.int .i64 0, .int .i64 0] 23)
  have r2 := Row.new ((w.alloc (.cells #[.int .i64 c, .int .i64 e] 23)).alloc (.cells #[.int .i64 d, .int .i64 f] 23)) 23 #[.int .i64 0, .int .i64 0]
  have hB := (((Below.refl _ w).alloc (Nat.le_refl _) (.cells #[.int .i64 c, .int .i64 e] 23)).alloc (by simp) (.cells #[.int .i64 d, .int .i64 f] 23)).alloc (by simp; omega) (.cells #[.int .i64 0, .int .i64 0] 23)
  have hWs : w.heap.size + 3 ≤ (((((w.alloc (.cells #[.int .i64 c, .int .i64 e] 23)).alloc (.cells #[.int .i64 d, .int .i64 f] 23)).alloc (.cells #[.int .i64 0, .int .i64 0] 23)))).heap.size := by simp
  simp only [World.size_alloc] at r2
  generalize ((((w.alloc (.cells #[.int .i64 c, .int .i64 e] 23)).alloc (.cells #[.int .i64 d, .int .i64 f] 23)).alloc (.cells #[.int .i64 0, .int .i64 0] 23))) = W at *
  refine Calls.mono (HC W).out ?_
  rintro _ w1 ⟨s1, rfl, hD1, hN1, b1⟩
  clear HC hN1
  obtain ⟨_, a1, c1, rfl, _, _⟩ := id hD1
  obtain ⟨nc, HNC⟩ : ∃ nc, Hid (decide (c < 0) = nc) := ⟨_, rfl⟩
  rw [HNC.out]
  obtain ⟨lc, HLC⟩ : ∃ lc, Hid ((digs c.natAbs).length = lc) := ⟨_, rfl⟩
  rw [HLC.out] at hD1
  rw [HLC.out]
  have q1 := (r1.below b1 r1.lt).alloc (.cells #[.bool nc, .slice a1 lc c1, .int .i64 e] 47)
  obtain ⟨x0, x1⟩ := q1.duo
  go_wp2_with fail
  have r4 := Row.new w1 47 #[.bool nc, .slice a1 lc c1, .int .i64 e]
  have b2 : Below W.heap.size W (w1.alloc (.cells #[.bool nc, .slice a1 lc c1, .int .i64 e] 47)) := b1.alloc b1.size _
  have hD2 := hD1.below ((Below.refl _ w1).alloc (Nat.le_refl _) (.cells #[.bool nc, .slice a1 lc c1, .int .i64 e] 47))
  clear x0 x1 hD1
  generalize w1.alloc (.cells #[.bool nc, .slice a1 lc c1, .int .i64 e] 47) = W2 at *
  generalize w1.heap.size = X at *
  refine Calls.mono (HD W2).out ?_
  rintro _ w2 ⟨s2, rfl, hD3, hN3, b3⟩
  clear HD hN3
  obtain ⟨_, a2, c2, rfl, _, _⟩ := id hD3
  obtain ⟨nd, HND⟩ : ∃ nd, Hid (decide (d < 0) = nd) := ⟨_, rfl⟩
  rw [HND.out]
  obtain ⟨ld, HLD⟩ : ∃ ld, Hid ((digs d.natAbs).length = ld) := ⟨_, rfl⟩
  rw [HLD.out]
  clear hD3
  have b4 : Below W2.heap.size W2 (w2.alloc (.cells #[.bool nd, .slice a2 ld c2, .int .i64 f] 47)) := b3.alloc b3.size _
  have eX := hD2.below b4
  have px := r4.below b4 r4.lt
  have hrx := (r2.below b2 r2.lt).below b4 (r2.below b2 r2.lt).lt
  have hBe := (hB.trans (b2.mono (by omega))).trans (b4.mono (Nat.le_trans (by omega) b2.size))
  have q2 := q1.below b4 q1.lt
  obtain ⟨x0, x1⟩ := q2.duo
  go_upto_region 5 with fail
  generalize w2.alloc (.cells #[.bool nd, .slice a2 ld c2, .int .i64 f] 47) = W3 at *
  generalize w2.heap.size = Y at *
  clear r1 r2 hB r4 hD2 b1 b2 b3 b4 q1
  go_wp2_with fail
  refine Calls.mono (HI W3).out ?_
  rintro _ w3 ⟨rfl, b5⟩
  clear x0 x1 HI
  have eX2 := eX.below b5
  have px2 := px.below b5 px.lt
  have hr2 := hrx.below b5 hrx.lt
  have hB2 := hBe.trans (b5.mono hBe.size)
  clear eX px hrx hBe q2 b5
  have hlt := hr2.lt
  obtain ⟨y0, y1⟩ := hr2.duo
  have zf := hr2.frozen
  have hZe := Row.set2 hr2 (.int .i64 0) (.int .i64 0)
  have hBg := below_set (below_set hB2 (B := w.heap.size + 1 + 1) 0 (.int .i64 0) (by omega)) (B := w.heap.size + 1 + 1) 1 (.int .i64 0) (by omega)
  go_wp2
  exact bodyPost_ret (ret_two rfl (g := w.heap.size + 1 + 1) rfl rfl (load23 hZe rfl)) rfl ⟨rfl, hBg⟩
set_option maxRecDepth 100000 in
set_option maxHeartbeats 16000000 in
theorem rpow_low (c e d f : Int) (hc : I64 c) (hd : I64 d) (w : World) (he1 : -18 ≤ e) (he2 : e ≤ 18) (hf1 : -18 ≤ f) (hf2 : f ≤ 18) (n : Int) (hn : n < -64) (hI : intV d f = .tuple #[.int .i64 n, .bool true]) : Calls Tryd.prog 23 #[.agg #[.int .i64 c, .int .i64 e], .agg #[.int .i64 d, .int .i64 f]] w fun r w' => r = .returned (.tuple #[.agg #[.int .i64 0, .int .i64 0], .int .i64 30]) ∧ Below w.heap.size w w' := by
  have HI : ∀ W, Hid (Calls Tryd.prog 37 #[.agg #[.int .i64 d, .int .i64 f]] W fun r w' => r = .returned (.tuple #[.int .i64 n, .bool true]) ∧ Below W.heap.size W w') := fun W => by
    have := rint_any d f hd ⟨hf1, hf2⟩ W
    rw [hI] at this
    exact this
  clear hI
  have HC : ∀ W, Hid (Calls Tryd.prog 53 #[.agg #[.int .i64 c, .int .i64 e]] W _) := fun W => num_any c e hc W
  have HD : ∀ W, Hid (Calls Tryd.prog 53 #[.agg #[.int .i64 d, .int .i64 f]] W _) := fun W => num_any d f hd W
  rw [decide_eq_true (show -18 ≤ e ∧ e ≤ 18 from ⟨he1, he2⟩)] at HC
  rw [decide_eq_true (show -18 ≤ f ∧ f ≤ 18 from ⟨hf1, hf2⟩)] at HD
  go_enter Tryd.func23, Tryd.ntmps23
  go_wp2_with fail
  have r1 := (Row.new1 w (.cells #[.int .i64 c, .int .i64 e] 23) 23 #[.int .i64 d, .int .i64 f]).alloc (.cells #[.int .i64 0, .int .i64 0] 23)
  have r2 := Row.new ((w.alloc (.cells #[.int .i64 c, .int .i64 e] 23)).alloc (.cells #[.int .i64 d, .int .i64 f] 23)) 23 #[.int .i64 0, .int .i64 0]
  have hB := (((Below.refl _ w).alloc (Nat.le_refl _) (.cells #[.int .i64 c, .int .i64 e] 23)).alloc (by simp) (.cells #[.int .i64 d, .int .i64 f] 23)).alloc (by simp; omega) (.cells #[.int .i64 0, .int .i64 0] 23)
  have hWs : w.heap.size + 3 ≤ (((((w.alloc (.cells #[.int .i64 c, .int .i64 e] 23)).alloc (.cells #[.int .i64 d, .int .i64 f] 23)).alloc (.cells #[.int .i64 0, .int .i64 0] 23)))).heap.size := by simp
  simp only [World.size_alloc] at r2
  generalize ((((w.alloc (.cells #[.int .i64 c, .int .i64 e] 23)).alloc (.cells #[.int .i64 d, .int .i64 f] 23)).alloc (.cells #[.int .i64 0, .int .i64 0] 23))) = W at *
  refine Calls.mono (HC W).out ?_
  rintro _ w1 ⟨s1, rfl, hD1, hN1, b1⟩
  clear HC hN1
  obtain ⟨_, a1, c1, rfl, _, _⟩ := id hD1
  obtain ⟨nc, HNC⟩ : ∃ nc, Hid (decide (c < 0) = nc) := ⟨_, rfl⟩
  rw [HNC.out]
  obtain ⟨lc, HLC⟩ : ∃ lc, Hid ((digs c.natAbs).length = lc) := ⟨_, rfl⟩
  rw [HLC.out] at hD1
  rw [HLC.out]
  have q1 := (r1.below b1 r1.lt).alloc (.cells #[.bool nc, .slice a1 lc c1, .int .i64 e] 47)
  obtain ⟨x0, x1⟩ := q1.duo
  go_wp2_with fail
  have r4 := Row.new w1 47 #[.bool nc, .slice a1 lc c1, .int .i64 e]
  have b2 : Below W.heap.size W (w1.alloc (.cells #[.bool nc, .slice a1 lc c1, .int .i64 e] 47)) := b1.alloc b1.size _
  have hD2 := hD1.below ((Below.refl _ w1).alloc (Nat.le_refl _) (.cells #[.bool nc, .slice a1 lc c1, .int .i64 e] 47))
  clear x0 x1 hD1
  generalize w1.alloc (.cells #[.bool nc, .slice a1 lc c1, .int .i64 e] 47) = W2 at *
  generalize w1.heap.size = X at *
  refine Calls.mono (HD W2).out ?_
  rintro _ w2 ⟨s2, rfl, hD3, hN3, b3⟩
  clear HD hN3
  obtain ⟨_, a2, c2, rfl, _, _⟩ := id hD3
  obtain ⟨nd, HND⟩ : ∃ nd, Hid (decide (d < 0) = nd) := ⟨_, rfl⟩
  rw [HND.out]
  obtain ⟨ld, HLD⟩ : ∃ ld, Hid ((digs d.natAbs).length = ld) := ⟨_, rfl⟩
  rw [HLD.out]
  clear hD3
  have b4 : Below W2.heap.size W2 (w2.alloc (.cells #[.bool nd, .slice a2 ld c2, .int .i64 f] 47)) := b3.alloc b3.size _
  have eX := hD2.below b4
  have px := r4.below b4 r4.lt
  have hrx := (r2.below b2 r2.lt).below b4 (r2.below b2 r2.lt).lt
  have hBe := (hB.trans (b2.mono (by omega))).trans (b4.mono (Nat.le_trans (by omega) b2.size))
  have q2 := q1.below b4 q1.lt
  obtain ⟨x0, x1⟩ := q2.duo
  go_upto_region 5 with fail
  generalize w2.alloc (.cells #[.bool nd, .slice a2 ld c2, .int .i64 f] 47) = W3 at *
  generalize w2.heap.size = Y at *
  clear r1 r2 hB r4 hD2 b1 b2 b3 b4 q1
  go_wp2_with fail
  refine Calls.mono (HI W3).out ?_
  rintro _ w3 ⟨rfl, b5⟩
  clear x0 x1 HI
  have eX2 := eX.below b5
  have px2 := px.below b5 px.lt
  have hr2 := hrx.below b5 hrx.lt
  have hB2 := hBe.trans (b5.mono hBe.size)
  clear eX px hrx hBe q2 b5
  have hlt := hr2.lt
  obtain ⟨y0, y1⟩ := hr2.duo
  have zf := hr2.frozen
  have hZe := Row.set2 hr2 (.int .i64 0) (.int .i64 0)
  have hBg := below_set (below_set hB2 (B := w.heap.size + 1 + 1) 0 (.int .i64 0) (by omega)) (B := w.heap.size + 1 + 1) 1 (.int .i64 0) (by omega)
  have g1 : decide (n < -64) = true := decide_eq_true hn
  go_wp2
  exact bodyPost_ret (ret_two rfl (g := w.heap.size + 1 + 1) rfl rfl (load23 hZe rfl)) rfl ⟨rfl, hBg⟩
set_option maxRecDepth 100000 in
set_option maxHeartbeats 16000000 in
theorem rpow_high (c e d f : Int) (hc : I64 c) (hd : I64 d) (w : World) (he1 : -18 ≤ e) (he2 : e ≤ 18) (hf1 : -18 ≤ f) (hf2 : f ≤ 18) (n : Int) (hn : 64 < n) (hI : intV d f = .tuple #[.int .i64 n, .bool true]) : Calls Tryd.prog 23 #[.agg #[.int .i64 c, .int .i64 e], .agg #[.int .i64 d, .int .i64 f]] w fun r w' => r = .returned (.tuple #[.agg #[.int .i64 0, .int .i64 0], .int .i64 30]) ∧ Below w.heap.size w w' := by
  have HI : ∀ W, Hid (Calls Tryd.prog 37 #[.agg #[.int .i64 d, .int .i64 f]] W fun r w' => r = .returned (.tuple #[.int .i64 n, .bool true]) ∧ Below W.heap.size W w') := fun W => by
    have := rint_any d f hd ⟨hf1, hf2⟩ W
    rw [hI] at this
    exact this
  clear hI
  have HC : ∀ W, Hid (Calls Tryd.prog 53 #[.agg #[.int .i64 c, .int .i64 e]] W _) := fun W => num_any c e hc W
  have HD : ∀ W, Hid (Calls Tryd.prog 53 #[.agg #[.int .i64 d, .int .i64 f]] W _) := fun W => num_any d f hd W
  rw [decide_eq_true (show -18 ≤ e ∧ e ≤ 18 from ⟨he1, he2⟩)] at HC
  rw [decide_eq_true (show -18 ≤ f ∧ f ≤ 18 from ⟨hf1, hf2⟩)] at HD
  go_enter Tryd.func23, Tryd.ntmps23
  go_wp2_with fail
  have r1 := (Row.new1 w (.cells #[.int .i64 c, .int .i64 e] 23) 23 #[.int .i64 d, .int .i64 f]).alloc (.cells #[.int .i64 0, .int .i64 0] 23)
  have r2 := Row.new ((w.alloc (.cells #[.int .i64 c, .int .i64 e] 23)).alloc (.cells #[.int .i64 d, .int .i64 f] 23)) 23 #[.int .i64 0, .int .i64 0]
  have hB := (((Below.refl _ w).alloc (Nat.le_refl _) (.cells #[.int .i64 c, .int .i64 e] 23)).alloc (by simp) (.cells #[.int .i64 d, .int .i64 f] 23)).alloc (by simp; omega) (.cells #[.int .i64 0, .int .i64 0] 23)
  have hWs : w.heap.size + 3 ≤ (((((w.alloc (.cells #[.int .i64 c, .int .i64 e] 23)).alloc (.cells #[.int .i64 d, .int .i64 f] 23)).alloc (.cells #[.int .i64 0, .int .i64 0] 23)))).heap.size := by simp
  simp only [World.size_alloc] at r2
  generalize ((((w.alloc (.cells #[.int .i64 c, .int .i64 e] 23)).alloc (.cells #[.int .i64 d, .int .i64 f] 23)).alloc (.cells #[.int .i64 0, .int .i64 0] 23))) = W at *
  refine Calls.mono (HC W).out ?_
  rintro _ w1 ⟨s1, rfl, hD1, hN1, b1⟩
  clear HC hN1
  obtain ⟨_, a1, c1, rfl, _, _⟩ := id hD1
  obtain ⟨nc, HNC⟩ : ∃ nc, Hid (decide (c < 0) = nc) := ⟨_, rfl⟩
  rw [HNC.out]
  obtain ⟨lc, HLC⟩ : ∃ lc, Hid ((digs c.natAbs).length = lc) := ⟨_, rfl⟩
  rw [HLC.out] at hD1
  rw [HLC.out]
  have q1 := (r1.below b1 r1.lt).alloc (.cells #[.bool nc, .slice a1 lc c1, .int .i64 e] 47)
  obtain ⟨x0, x1⟩ := q1.duo
  go_wp2_with fail
  have r4 := Row.new w1 47 #[.bool nc, .slice a1 lc c1, .int .i64 e]
  have b2 : Below W.heap.size W (w1.alloc (.cells #[.bool nc, .slice a1 lc c1, .int .i64 e] 47)) := b1.alloc b1.size _
  have hD2 := hD1.below ((Below.refl _ w1).alloc (Nat.le_refl _) (.cells #[.bool nc, .slice a1 lc c1, .int .i64 e] 47))
  clear x0 x1 hD1
  generalize w1.alloc (.cells #[.bool nc, .slice a1 lc c1, .int .i64 e] 47) = W2 at *
  generalize w1.heap.size = X at *
  refine Calls.mono (HD W2).out ?_
  rintro _ w2 ⟨s2, rfl, hD3, hN3, b3⟩
  clear HD hN3
  obtain ⟨_, a2, c2, rfl, _, _⟩ := id hD3
  obtain ⟨nd, HND⟩ : ∃ nd, Hid (decide (d < 0) = nd) := ⟨_, rfl⟩
  rw [HND.out]
  obtain ⟨ld, HLD⟩ : ∃ ld, Hid ((digs d.natAbs).length = ld) := ⟨_, rfl⟩
  rw [HLD.out]
  clear hD3
  have b4 : Below W2.heap.size W2 (w2.alloc (.cells #[.bool nd, .slice a2 ld c2, .int .i64 f] 47)) := b3.alloc b3.size _
  have eX := hD2.below b4
  have px := r4.below b4 r4.lt
  have hrx := (r2.below b2 r2.lt).below b4 (r2.below b2 r2.lt).lt
  have hBe := (hB.trans (b2.mono (by omega))).trans (b4.mono (Nat.le_trans (by omega) b2.size))
  have q2 := q1.below b4 q1.lt
  obtain ⟨x0, x1⟩ := q2.duo
  go_upto_region 5 with fail
  generalize w2.alloc (.cells #[.bool nd, .slice a2 ld c2, .int .i64 f] 47) = W3 at *
  generalize w2.heap.size = Y at *
  clear r1 r2 hB r4 hD2 b1 b2 b3 b4 q1
  go_wp2_with fail
  refine Calls.mono (HI W3).out ?_
  rintro _ w3 ⟨rfl, b5⟩
  clear x0 x1 HI
  have eX2 := eX.below b5
  have px2 := px.below b5 px.lt
  have hr2 := hrx.below b5 hrx.lt
  have hB2 := hBe.trans (b5.mono hBe.size)
  clear eX px hrx hBe q2 b5
  have hlt := hr2.lt
  obtain ⟨y0, y1⟩ := hr2.duo
  have zf := hr2.frozen
  have hZe := Row.set2 hr2 (.int .i64 0) (.int .i64 0)
  have hBg := below_set (below_set hB2 (B := w.heap.size + 1 + 1) 0 (.int .i64 0) (by omega)) (B := w.heap.size + 1 + 1) 1 (.int .i64 0) (by omega)
  have g1 : decide (n < -64) = false := decide_eq_false (by omega)
  have g2 : decide (64 < n) = true := decide_eq_true hn
  go_wp2
  exact bodyPost_ret (ret_two rfl (g := w.heap.size + 1 + 1) rfl rfl (load23 hZe rfl)) rfl ⟨rfl, hBg⟩
set_option maxRecDepth 100000 in
set_option maxHeartbeats 16000000 in
theorem rpow_nil (c e d f : Int) (hc : I64 c) (hd : I64 d) (w : World) (he1 : -18 ≤ e) (he2 : e ≤ 18) (hf1 : -18 ≤ f) (hf2 : f ≤ 18) (n : Int) (hn : n < 0) (hn2 : -64 ≤ n) (h0 : c = 0) (hI : intV d f = .tuple #[.int .i64 n, .bool true]) : Calls Tryd.prog 23 #[.agg #[.int .i64 c, .int .i64 e], .agg #[.int .i64 d, .int .i64 f]] w fun r w' => r = .returned (.tuple #[.agg #[.int .i64 0, .int .i64 0], .int .i64 31]) ∧ Below w.heap.size w w' := by
  have H0 : Hid (c = 0) := h0
  clear h0
  have HI : ∀ W, Hid (Calls Tryd.prog 37 #[.agg #[.int .i64 d, .int .i64 f]] W fun r w' => r = .returned (.tuple #[.int .i64 n, .bool true]) ∧ Below W.heap.size W w') := fun W => by
    have := rint_any d f hd ⟨hf1, hf2⟩ W
    rw [hI] at this
    exact this
  clear hI
  have HC : ∀ W, Hid (Calls Tryd.prog 53 #[.agg #[.int .i64 c, .int .i64 e]] W _) := fun W => num_any c e hc W
  have HD : ∀ W, Hid (Calls Tryd.prog 53 #[.agg #[.int .i64 d, .int .i64 f]] W _) := fun W => num_any d f hd W
  rw [decide_eq_true (show -18 ≤ e ∧ e ≤ 18 from ⟨he1, he2⟩)] at HC
  rw [decide_eq_true (show -18 ≤ f ∧ f ≤ 18 from ⟨hf1, hf2⟩)] at HD
  go_enter Tryd.func23, Tryd.ntmps23
  go_wp2_with fail
  have r1 := (Row.new1 w (.cells #[.int .i64 c, .int .i64 e] 23) 23 #[.int .i64 d, .int .i64 f]).alloc (.cells #[.int .i64 0, .int .i64 0] 23)
  have r2 := Row.new ((w.alloc (.cells #[.int .i64 c, .int .i64 e] 23)).alloc (.cells #[.int .i64 d, .int .i64 f] 23)) 23 #[.int .i64 0, .int .i64 0]
  have hB := (((Below.refl _ w).alloc (Nat.le_refl _) (.cells #[.int .i64 c, .int .i64 e] 23)).alloc (by simp) (.cells #[.int .i64 d, .int .i64 f] 23)).alloc (by simp; omega) (.cells #[.int .i64 0, .int .i64 0] 23)
  have hWs : w.heap.size + 3 ≤ (((((w.alloc (.cells #[.int .i64 c, .int .i64 e] 23)).alloc (.cells #[.int .i64 d, .int .i64 f] 23)).alloc (.cells #[.int .i64 0, .int .i64 0] 23)))).heap.size := by simp
  simp only [World.size_alloc] at r2
  generalize ((((w.alloc (.cells #[.int .i64 c, .int .i64 e] 23)).alloc (.cells #[.int .i64 d, .int .i64 f] 23)).alloc (.cells #[.int .i64 0, .int .i64 0] 23))) = W at *
  refine Calls.mono (HC W).out ?_
  rintro _ w1 ⟨s1, rfl, hD1, hN1, b1⟩
  clear HC hN1
  obtain ⟨_, a1, c1, rfl, _, _⟩ := id hD1
  obtain ⟨nc, HNC⟩ : ∃ nc, Hid (decide (c < 0) = nc) := ⟨_, rfl⟩
  rw [HNC.out]
  obtain ⟨lc, HLC⟩ : ∃ lc, Hid ((digs c.natAbs).length = lc) := ⟨_, rfl⟩
  rw [HLC.out] at hD1
  rw [HLC.out]
  have q1 := (r1.below b1 r1.lt).alloc (.cells #[.bool nc, .slice a1 lc c1, .int .i64 e] 47)
  obtain ⟨x0, x1⟩ := q1.duo
  go_wp2_with fail
  have r4 := Row.new w1 47 #[.bool nc, .slice a1 lc c1, .int .i64 e]
  have b2 : Below W.heap.size W (w1.alloc (.cells #[.bool nc, .slice a1 lc c1, .int .i64 e] 47)) := b1.alloc b1.size _
  have hD2 := hD1.below ((Below.refl _ w1).alloc (Nat.le_refl _) (.cells #[.bool nc, .slice a1 lc c1, .int .i64 e] 47))
  clear x0 x1 hD1
  generalize w1.alloc (.cells #[.bool nc, .slice a1 lc c1, .int .i64 e] 47) = W2 at *
  generalize w1.heap.size = X at *
  refine Calls.mono (HD W2).out ?_
  rintro _ w2 ⟨s2, rfl, hD3, hN3, b3⟩
  clear HD hN3
  obtain ⟨_, a2, c2, rfl, _, _⟩ := id hD3
  obtain ⟨nd, HND⟩ : ∃ nd, Hid (decide (d < 0) = nd) := ⟨_, rfl⟩
  rw [HND.out]
  obtain ⟨ld, HLD⟩ : ∃ ld, Hid ((digs d.natAbs).length = ld) := ⟨_, rfl⟩
  rw [HLD.out]
  clear hD3
  have b4 : Below W2.heap.size W2 (w2.alloc (.cells #[.bool nd, .slice a2 ld c2, .int .i64 f] 47)) := b3.alloc b3.size _
  have eX := hD2.below b4
  have px := r4.below b4 r4.lt
  have hrx := (r2.below b2 r2.lt).below b4 (r2.below b2 r2.lt).lt
  have hBe := (hB.trans (b2.mono (by omega))).trans (b4.mono (Nat.le_trans (by omega) b2.size))
  have q2 := q1.below b4 q1.lt
  obtain ⟨x0, x1⟩ := q2.duo
  go_upto_region 5 with fail
  generalize w2.alloc (.cells #[.bool nd, .slice a2 ld c2, .int .i64 f] 47) = W3 at *
  generalize w2.heap.size = Y at *
  clear r1 r2 hB r4 hD2 b1 b2 b3 b4 q1
  go_wp2_with fail
  refine Calls.mono (HI W3).out ?_
  rintro _ w3 ⟨rfl, b5⟩
  clear x0 x1 HI
  have eX2 := eX.below b5
  have px2 := px.below b5 px.lt
  have hr2 := hrx.below b5 hrx.lt
  have hB2 := hBe.trans (b5.mono hBe.size)
  clear eX px hrx hBe q2 b5
  have hlc : lc = 0 := by rw [← HLC.out, H0.out, Int.natAbs_zero, digs_zero]; rfl
  clear HLC
  rw [hlc] at px2
  have hl0 : (((0 : Nat) : Int) == 0) = true := rfl
  obtain ⟨x0, x1, x2⟩ := px2.tri
  have hlt := hr2.lt
  obtain ⟨y0, y1⟩ := hr2.duo
  have zf := hr2.frozen
  have hZe := Row.set2 hr2 (.int .i64 0) (.int .i64 0)
  have hBg := below_set (below_set hB2 (B := w.heap.size + 1 + 1) 0 (.int .i64 0) (by omega)) (B := w.heap.size + 1 + 1) 1 (.int .i64 0) (by omega)
  have g1 : decide (n < -64) = false := decide_eq_false (by omega)
  have g2 : decide (64 < n) = false := decide_eq_false (by omega)
  have g3 : decide (n < 0) = true := decide_eq_true hn
  go_wp2
  exact bodyPost_ret (ret_two rfl (g := w.heap.size + 1 + 1) rfl rfl (load23 hZe rfl)) rfl ⟨rfl, hBg⟩
end Go.Proofs.YtfbhonjndepjbaaDoor
