import Derived.Test.YtfbhonjndepjbaaDoorRpoM
import Derived.Test.YtfbhonjndepjbaaDoorRdv
import Derived.Test.YtfbhonjndepjbaaDoorPqpM
import Derived.Deep.CutBlock
import Derived.Deep.DeepCutAuto
/- The document's Pow: powers below zero. -/
namespace Go.Proofs.YtfbhonjndepjbaaDoor
open Go.RowKit

theorem digs_60 (u : Nat) : 60 < (digs u).length ↔ 10 ^ 60 ≤ u := by
  constructor
  · intro h
    apply Nat.le_of_not_lt
    intro h2
    have := digs_len u 60 h2
    omega
  · intro h
    apply Nat.lt_of_not_le
    intro h2
    have h3 := dval_lt (digs_dg u)
    rw [dval_digs] at h3
    have h4 : (10 : Nat) ^ (digs u).length ≤ 10 ^ 60 := Nat.pow_le_pow_right (by decide) h2
    have h5 : (u : Int) < ((10 ^ (digs u).length : Nat) : Int) := by rw [Int.natCast_pow]; exact h3
    omega
theorem dg_len {W : World} {a : Option Addr} {n cc : Nat} {ds : List Int} (h : DgAt W (.slice a n cc) ds) : ds.length = n := by
  obtain ⟨_, a', c', he, _, _⟩ := id h
  cases he
  rfl
set_option maxRecDepth 100000 in
set_option maxHeartbeats 16000000 in
theorem rpow_down (c e d f : Int) (hc : I64 c) (hd : I64 d) (w : World) (he1 : -18 ≤ e) (he2 : e ≤ 18) (hf1 : -18 ≤ f) (hf2 : f ≤ 18) (k : Nat) (hk : k ≤ 64) (hk1 : 1 ≤ k) (hc0' : c ≠ 0) (u z : Nat) (hu : c.natAbs ^ k = u * 10 ^ z) (hu10 : u % 10 ≠ 0) (hI : intV d f = .tuple #[.int .i64 (-(k : Int)), .bool true]) : Calls Tryd.prog 23 #[.agg #[.int .i64 c, .int .i64 e], .agg #[.int .i64 d, .int .i64 f]] w fun r w' => r = .returned (decV (downD (decide (c ^ k < 0)) u (e * (k : Int) + (z : Int)))) ∧ Below w.heap.size w w' := by
  obtain ⟨nk, hnk⟩ : ∃ nk : Int, -(k : Int) = nk := ⟨_, rfl⟩
  rw [hnk] at hI
  have HI : ∀ W, Hid (Calls Tryd.prog 37 #[.agg #[.int .i64 d, .int .i64 f]] W fun r w' => r = .returned (.tuple #[.int .i64 nk, .bool true]) ∧ Below W.heap.size W w') := fun W => by
    have := rint_any d f hd ⟨hf1, hf2⟩ W
    rw [hI] at this
    exact this
  obtain ⟨rv, hrv⟩ : ∃ rv, decV (downD (decide (c ^ k < 0)) u (e * (k : Int) + (z : Int))) = rv := ⟨_, rfl⟩
  rw [hrv]
  have HRV : Hid (decV (downD (decide (c ^ k < 0)) u (e * (k : Int) + (z : Int))) = rv) := hrv
  clear hrv hI
  have HC : ∀ W, Hid (Calls Tryd.prog 53 #[.agg #[.int .i64 c, .int .i64 e]] W _) := fun W => num_any c e hc W
  have HD : ∀ W, Hid (Calls Tryd.prog 53 #[.agg #[.int .i64 d, .int .i64 f]] W _) := fun W => num_any d f hd W
  rw [decide_eq_true (show -18 ≤ e ∧ e ≤ 18 from ⟨he1, he2⟩)] at HC
  rw [decide_eq_true (show -18 ≤ f ∧ f ≤ 18 from ⟨hf1, hf2⟩)] at HD
  go_enter Tryd.func23, Tryd.ntmps23
  go_wp2_with fail
  have r1 := (Row.new1 w (.cells #[.int .i64 c, .int .i64 e] 23) 23 #[.int .i64 d, .int .i64 f]).alloc (.cells #[.int .i64 0, .int .i64 0] 23)
  have r2 := Row.new ((w.alloc (.cells #[.int .i64 c, .int .i64 e] 23)).alloc (.cells #[.int .i64 d, .int .i64 f] 23)) 23 #[.int .i64 0, .int .i64 0]
  have hB := (((Below.refl _ w).alloc (Nat.le_refl _) (.cells #[.int .i64 c, .int .i64 e] 23)).alloc (by simp) (.cells #[.int .i64 d, .int .i64 f] 23)).alloc (by simp; omega) (.cells #[.int .i64 0, .int .i64 0] 23)
  have hWs : w.heap.size + 3 ≤ (((((w.alloc (.cells #[.int .i64 c, .int .i64 e] 23)).alloc (.cells #[.int .i64 d, .int .i64 f] 23)).alloc (.cells #[.int .i64 0, .int .i64 0] 23)))).heap.size := by simp
  simp only [World.size_alloc] at r2
  generalize ((((w.alloc (.cells #[.int .i64 c, .int .i64 e] 23)).alloc (.cells #[.int .i64 d, .int .i64 f] 23)).alloc (.cells #[.int .i64 0, .int .i64 0] 23))) = W at *
  refine Calls.mono (HC W).out ?_
  rintro _ w1 ⟨s1, rfl, hD1, hN1, b1⟩
  clear HC hN1
  obtain ⟨_, a1, c1, rfl, _, _⟩ := id hD1
  obtain ⟨nc, HNC⟩ : ∃ nc, Hid (decide (c < 0) = nc) := ⟨_, rfl⟩
  rw [HNC.out]
  obtain ⟨lc, HLC⟩ : ∃ lc, Hid ((digs c.natAbs).length = lc) := ⟨_, rfl⟩
  rw [HLC.out] at hD1
  rw [HLC.out]
  have q1 := (r1.below b1 r1.lt).alloc (.cells #[.bool nc, .slice a1 lc c1, .int .i64 e] 47)
  obtain ⟨x0, x1⟩ := q1.duo
  go_wp2_with fail
  have r4 := Row.new w1 47 #[.bool nc, .slice a1 lc c1, .int .i64 e]
  have b2 : Below W.heap.size W (w1.alloc (.cells #[.bool nc, .slice a1 lc c1, .int .i64 e] 47)) := b1.alloc b1.size _
  have hD2 := hD1.below ((Below.refl _ w1).alloc (Nat.le_refl _) (.cells #[.bool nc, .slice a1 lc c1, .int .i64 e] 47))
  clear x0 x1 hD1
  generalize w1.alloc (.cells #[.bool nc, .slice a1 lc c1, .int .i64 e] 47) = W2 at *
  generalize w1.heap.size = X at *
  refine Calls.mono (HD W2).out ?_
  rintro _ w2 ⟨s2, rfl, hD3, hN3, b3⟩
  clear HD hN3
  obtain ⟨_, a2, c2, rfl, _, _⟩ := id hD3
  obtain ⟨nd, HND⟩ : ∃ nd, Hid (decide (d < 0) = nd) := ⟨_, rfl⟩
  rw [HND.out]
  obtain ⟨ld, HLD⟩ : ∃ ld, Hid ((digs d.natAbs).length = ld) := ⟨_, rfl⟩
  rw [HLD.out]
  clear hD3
  have b4 : Below W2.heap.size W2 (w2.alloc (.cells #[.bool nd, .slice a2 ld c2, .int .i64 f] 47)) := b3.alloc b3.size _
  have eX := hD2.below b4
  have px := r4.below b4 r4.lt
  have hrx := (r2.below b2 r2.lt).below b4 (r2.below b2 r2.lt).lt
  have hBe := (hB.trans (b2.mono (by omega))).trans (b4.mono (Nat.le_trans (by omega) b2.size))
  have q2 := q1.below b4 q1.lt
  obtain ⟨x0, x1⟩ := q2.duo
  go_upto_region 5 with fail
  generalize w2.alloc (.cells #[.bool nd, .slice a2 ld c2, .int .i64 f] 47) = W3 at *
  generalize w2.heap.size = Y at *
  clear r1 r2 hB r4 hD2 b1 b2 b3 b4 q1
  go_wp2_with fail
  refine Calls.mono (HI W3).out ?_
  rintro _ w3 ⟨rfl, b5⟩
  clear x0 x1 HI
  have eX2 := eX.below b5
  have px2 := px.below b5 px.lt
  have hr2 := hrx.below b5 hrx.lt
  have hB2 := hBe.trans (b5.mono hBe.size)
  clear eX px hrx hBe q2 b5
  have HUZ : Hid (c.natAbs ^ k = u * 10 ^ z) := hu
  clear hu
  have g1 : decide (nk < -64) = false := decide_eq_false (by omega)
  have g2 : decide ((64 : Int) < nk) = false := decide_eq_false (by omega)
  have g3 : decide (nk < 0) = true := decide_eq_true (by omega)
  have HG4 : Hid (decide ((0 : Int) ≤ nk) = false) := decide_eq_false (by omega)
  have fwk : IntKind.i64.wrap (-nk) = (k : Int) := by rw [← hnk, Int.neg_neg]; exact IntWalk.i64_in _ ⟨by omega, by omega⟩
  clear hnk
  have hcl : (digs c.natAbs).length ≤ 20 := by
    have c20 : (10 : Nat) ^ 20 = 100000000000000000000 := by decide
    exact digs_len _ 20 (by unfold I64 at hc; omega)
  have hlc : 0 < lc := by
    rw [← HLC.out]
    exact digs_pos_len (show c.natAbs ≠ 0 by omega)
  go_upto_region 8 with fail
  go_cut [58] (fun v58 wx => v58 = .bool false ∧ wx = w3)
  case first =>
    obtain ⟨x0, x1, x2⟩ := px2.tri
    have hl1 : ((lc : Int) == 0) = false := beq_eq_false_iff_ne.2 (by omega)
    go_wp2_with fail
    go_meet
    exact ⟨rfl, rfl⟩
  case rest =>
    obtain ⟨rfl, rfl⟩ := hcut
    have HO := of_new 1 ⟨by decide, by decide⟩ wc
    go_wp2_with fail
    refine Calls.mono HO ?_
    rintro _ w4 ⟨v4, rfl, hV4, hN4, b6⟩
    clear HO
    obtain ⟨s4, rfl, hD4⟩ := hV4
    have hN4 := hN4.get
    obtain ⟨_, a4, c4, rfl, _, _⟩ := id hD4
    have hX6 : X < wc.heap.size := px2.lt
    have hZ6 : w.heap.size + 1 + 1 < wc.heap.size := hr2.lt
    obtain ⟨n4, HN4e⟩ : ∃ n4, Hid ((digs (1 : Int).natAbs).length = n4) := ⟨_, rfl⟩
    rw [HN4e.out] at hD4 hN4
    obtain ⟨s1g, hs1g⟩ : ∃ b, decide ((1 : Int) < 0) = b := ⟨_, rfl⟩
    have HS1 : Hid (decide ((1 : Int) < 0) = s1g) := hs1g
    unfold bv
    rw [HN4e.out, hs1g]
    clear hs1g
    have pb := Row.new w4 47 #[.bool s1g, .slice a4 n4 c4, .int .i64 0]
    have b7 : Below w4.heap.size w4 (w4.alloc (.cells #[.bool s1g, .slice a4 n4 c4, .int .i64 0] 47)) := (Below.refl _ w4).alloc (Nat.le_refl _) _
    have hBw : Below wc.heap.size wc (w4.alloc (.cells #[.bool s1g, .slice a4 n4 c4, .int .i64 0] 47)) := b6.trans (b7.mono b6.size)
    have hD5 := hD4.below b7
    have hne0 : NeS w4.heap.size (.slice a4 n4 c4) := hD4.ne (Nat.le_refl _)
    have hPB : wc.heap.size ≤ w4.heap.size := b6.size
    go_upto_region 14 with fail
    generalize w4.alloc (.cells #[.bool s1g, .slice a4 n4 c4, .int .i64 0] 47) = w5 at *
    generalize w4.heap.size = PB at *
    clear b6 b7 hD4 hN4
    go_wp2_with fail
    go_loopw [14] (fun v14 wx => ∃ (i : Nat) (a : Option Addr) (n cc : Nat) (sg : Bool), i ≤ k ∧ v14 = .int .i64 (i : Int) ∧ Row wx PB 47 #[.bool sg, .slice a n cc, .int .i64 (e * (i : Int))] ∧ Hid (BigV wx (c ^ i) (.agg #[.bool sg, .slice a n cc])) ∧ Hid (NeS PB (.slice a n cc)) ∧ Hid (Below wc.heap.size wc wx)) (fun v14 _ => k - (intOf v14).toNat)
    case atStart =>
      exact ⟨0, a4, n4, c4, s1g, Nat.zero_le _, rfl, by simpa using pb, ⟨_, by rw [Int.pow_zero, HS1.out]; rfl, by rw [Int.pow_zero]; exact hD5⟩, hne0, hBw⟩
    case round =>
      obtain ⟨i, a, n, cc, sg, hi, rfl, hrow, HBV, HNE, HBE⟩ := hrel
      clear pb hD5 hne0 hBw
      by_cases hik : i < k
      · have gk : decide ((i : Int) < (k : Int)) = true := decide_eq_true (by omega)
        have px3 := px2.below HBE.out px2.lt
        have eb := eX2.below HBE.out
        obtain ⟨et1, et2⟩ := e_times e i he1 he2 (by omega)
        have HT : ∀ V, Below wr.heap.size wr V → Hid (Calls Tryd.prog 54 #[.agg #[.bool sg, .slice a n cc], .agg #[.bool nc, .slice a1 lc c1]] V fun r w' => ∃ sg' a' n' cc', r = .returned (.agg #[.bool sg', .slice a' n' cc']) ∧ BigV w' (c ^ i * c) (.agg #[.bool sg', .slice a' n' cc']) ∧ NewS V.heap.size (.slice a' n' cc') ∧ Below V.heap.size V w') := fun V hV => by
          obtain ⟨sv, hsv, hDg⟩ := HBV.out
          have hx : BigV V (c ^ i) (.agg #[.bool sg, .slice a n cc]) := ⟨sv, hsv, hDg.below hV⟩
          have hy : BigV V c (.agg #[.bool nc, .slice a1 lc c1]) := ⟨.slice a1 lc c1, by rw [HNC.out]; rfl, eb.below hV⟩
          refine (rtimes_new (c ^ i) c _ _ V hx hy (pow_len c hc i (by omega)) (by omega)).mono ?_
          rintro r w' ⟨v, rfl, h1, h2, h3⟩
          obtain ⟨s, rfl, hs⟩ := h1
          obtain ⟨_, a', c', rfl, _, _⟩ := id hs
          exact ⟨_, a', _, c', rfl, ⟨_, rfl, hs⟩, h2.get, h3⟩
        have fw : IntKind.i64.wrap (e * (i : Int) + e) = e * (i : Int) + e := IntWalk.i64_in _ ⟨by omega, by omega⟩
        have trb : ∀ wx, Below wr.heap.size wr wx → wx.cell? ⟨PB, 0, none⟩ = some (.bool sg) ∧ wx.cell? ⟨PB, 1, none⟩ = some (.slice a n cc) ∧ wx.cell? ⟨PB, 2, none⟩ = some (.int .i64 (e * (i : Int))) := fun wx hx => (hrow.below hx hrow.lt).tri
        have trx : ∀ wx, Below wr.heap.size wr wx → wx.cell? ⟨X, 0, none⟩ = some (.bool nc) ∧ wx.cell? ⟨X, 1, none⟩ = some (.slice a1 lc c1) ∧ wx.cell? ⟨X, 2, none⟩ = some (.int .i64 e) := fun wx hx => (px3.below hx px3.lt).tri
        obtain ⟨ei, hei⟩ : ∃ ei, e * (i : Int) = ei := ⟨_, rfl⟩
        have HEI : Hid (e * (i : Int) = ei) := hei
        rw [hei] at fw trb hrow et1 et2
        clear hei
        go_upto_region 17 with fail
        have hS : Below wr.heap.size wr wr.drew := (Below.refl _ wr).drew
        refine wp_region_M (fun wx : World => Below wr.heap.size wr wx) (fun j => decide (j < 11)) 12 rfl (by kernel_rfl) ?_
        refine wpM_held 0 (v := ?_) rfl (by kernel_rfl) (by kernel_rfl) rfl (fun _ _ _ h => h) rfl (by intro wx hx; go_simp <;> rfl) hS ?_
        refine wpM_held 1 (v := .agg #[.bool sg, .slice a n cc]) rfl (by kernel_rfl) (by kernel_rfl) rfl (fun _ _ _ h => h) rfl (by intro wx hx; obtain ⟨x0, x1, x2⟩ := trb wx hx; go_simp <;> rfl) hS ?_
        refine wpM_held 2 (v := ?_) rfl (by kernel_rfl) (by kernel_rfl) rfl (fun _ _ _ h => h) rfl (by intro wx hx; go_simp <;> rfl) hS ?_
        refine wpM_held 3 (v := .agg #[.bool nc, .slice a1 lc c1]) rfl (by kernel_rfl) (by kernel_rfl) rfl (fun _ _ _ h => h) rfl (by intro wx hx; obtain ⟨x0, x1, x2⟩ := trx wx hx; go_simp <;> rfl) hS ?_
        refine wpM_held 5 (v := ?_) rfl (by kernel_rfl) (by kernel_rfl) rfl (fun _ _ _ h => h) rfl (by intro wx hx; go_simp <;> rfl) hS ?_
        refine wpM_held 6 (v := .int .i64 ei) rfl (by kernel_rfl) (by kernel_rfl) rfl (fun _ _ _ h => h) rfl (by intro wx hx; obtain ⟨x0, x1, x2⟩ := trb wx hx; go_simp <;> rfl) hS ?_
        refine wpM_held 7 (v := ?_) rfl (by kernel_rfl) (by kernel_rfl) rfl (fun _ _ _ h => h) rfl (by intro wx hx; go_simp <;> rfl) hS ?_
        refine wpM_held 8 (v := .int .i64 e) rfl (by kernel_rfl) (by kernel_rfl) rfl (fun _ _ _ h => h) rfl (by intro wx hx; obtain ⟨x0, x1, x2⟩ := trx wx hx; go_simp <;> rfl) hS ?_
        refine wpM_held 9 (v := .int .i64 (ei + e)) rfl (by kernel_rfl) (by kernel_rfl) rfl (fun _ _ _ h => h) rfl (by intro wx hx; go_simp <;> first | rfl | exact fw) hS ?_
        refine wpM_one 4 rfl (by kernel_rfl) rfl ?_
        go_wp2_with fail
        refine Calls.mono (HT _ hS).out ?_
        rintro _ wb ⟨sg', a', n', cc', rfl, hV', hN', b4⟩
        have hWb : Below wr.heap.size wr wb := hS.trans (b4.mono hS.size)
        have hNP : NeS PB (.slice a' n' cc') := hN'.ne (Nat.lt_of_lt_of_le hrow.lt hS.size)
        clear b4 HT hN'
        have HBV' : Hid (BigV wb (c ^ i * c) (.agg #[.bool sg', .slice a' n' cc'])) := hV'
        clear hV'
        go_wp2_with fail
        refine ⟨fun _ => hWb, ?_⟩
        refine wpM_one 10 rfl (by kernel_rfl) rfl ?_
        go_wp2_with fail
        refine ⟨fun _ => hWb, ?_⟩
        have pr := hrow.below hWb hrow.lt
        obtain ⟨y0, y1, y2⟩ := pr.tri
        have zf := pr.frozen
        have hlt := pr.lt
        have hZe := Row.set3N pr (.bool sg') (.slice a' n' cc') (.int .i64 (ei + e))
        have hBx := HBE.out.trans (hWb.mono HBE.out.size)
        have hBg := below_set (below_set (below_set hBx (B := PB) 0 (.bool sg') hPB) (B := PB) 1 (.slice a' n' cc') hPB) (B := PB) 2 (.int .i64 (ei + e)) hPB
        have HBW : Hid (BigV (((wb.setCell ⟨PB, 0, none⟩ (.bool sg')).setCell ⟨PB, 1, none⟩ (.slice a' n' cc')).setCell ⟨PB, 2, none⟩ (.int .i64 (ei + e))) (c ^ (i + 1)) (.agg #[.bool sg', .slice a' n' cc'])) := by
          obtain ⟨s, hs, hD⟩ := HBV'.out
          have hsl : s = .slice a' n' cc' := by
            unfold bv at hs
            simp only [Value.agg.injEq, Array.mk.injEq, List.cons.injEq, and_true] at hs
            exact hs.2.symm
          subst hsl
          refine ⟨.slice a' n' cc', ?_, ?_⟩
          · rw [Int.pow_succ]; exact hs
          · rw [Int.pow_succ]
            exact ((hD.offN hNP 0 _).offN hNP 1 _).offN hNP 2 _
        have HZ : Hid _ := hZe
        have HG : Hid _ := hBg
        clear HBV HBV' hZe hBg hBx eb px3 trb trx hS
        refine wpM_one 11 rfl (by kernel_rfl) rfl ?_
        go_wp2_with fail
        refine ⟨fun h => by simp at h, ?_⟩
        refine wpM_done (by kernel_rfl) ?_
        go_wp2_with fail
        go_roundw
        case rel => exact ⟨i + 1, a', n', cc', sg', by omega, rfl, by rw [show e * ((i + 1 : Nat) : Int) = ei + e by rw [← HEI.out, Int.natCast_succ, Int.mul_add, Int.mul_one]]; exact HZ.out, HBW, hNP, HG⟩
        case measure => simp [intOf]; omega
      · have gk : decide ((i : Int) < (k : Int)) = false := decide_eq_false (by omega)
        have hike : i = k := by omega
        subst hike
        obtain ⟨et1, et2⟩ := e_times e i he1 he2 hk
        have HDS : Hid (decide (c ^ i < 0) = sg) ∧ Hid (DgAt wr (.slice a n cc) (digs (c ^ i).natAbs)) := by
          obtain ⟨s, hs, hD⟩ := HBV.out
          unfold bv at hs
          simp only [Value.agg.injEq, Array.mk.injEq, List.cons.injEq, and_true, Value.bool.injEq] at hs
          exact ⟨hs.1.symm, by rw [hs.2]; exact hD⟩
        obtain ⟨HSG, HDC⟩ := HDS
        have hcl2 := pow_len c hc i hk
        have hn0 := dg_len HDC.out
        have hci : c ^ i ≠ 0 := Int.pow_ne_zero hc0'
        obtain ⟨ek, hek⟩ : ∃ ek, e * (i : Int) = ek := ⟨_, rfl⟩
        have HEK : Hid (e * (i : Int) = ek) := hek
        rw [hek] at hrow et1 et2
        clear hek HBV
        have g4 := HG4.out
        clear g1 g2 g3 fwk
        go_wp2_with fail
        go_loopw [] (fun wx => ∃ (j : Nat) (y : Int) (a : Option Addr) (n cc : Nat), Row wx PB 47 #[.bool sg, .slice a n cc, .int .i64 (ek + (j : Int))] ∧ Hid (DgAt wx (.slice a n cc) (digs y.natAbs)) ∧ Hid (NeS PB (.slice a n cc)) ∧ Hid (Below wc.heap.size wc wx) ∧ Hid (y ≠ 0 ∧ decide (y < 0) = sg ∧ (digs y.natAbs).length = n ∧ y * 10 ^ j = c ^ i) ∧ n + j ≤ 1400) (fun wx => (4000 - intOf ((wx.cell? ⟨PB, 2, none⟩).getD undef)).toNat)
        case atStart => exact ⟨0, c ^ i, a, n, cc, by simpa using hrow, HDC, HNE, HBE, ⟨hci, HSG.out, hn0, by simp⟩, by omega⟩
        case round =>
          clear hrow HDC HNE HBE hn0 hcl2 hci
          obtain ⟨j, y, a, n, cc, hrow, HDG, HNE, HBE, HY, hnj⟩ := hrel
          obtain ⟨d0, d1, d2⟩ := hrow.tri
          have hy0 := HY.out.1
          have hdg := HDG.out
          have hds := digs_pos y.natAbs (show y.natAbs ≠ 0 by omega)
          rw [hds] at hdg
          obtain ⟨a2, hsl, hn, htl⟩ := hdg.tail
          obtain ⟨bb, off, hab, _, hc0⟩ := hdg.1.at 0 (by simp)
          subst hab
          obtain ⟨d9, hd⟩ : ∃ d9, y.natAbs % 10 = d9 := ⟨_, rfl⟩
          simp only [List.getElem?_cons_zero, Option.getD_some, Nat.add_zero] at hc0
          rw [hd] at hc0 hds
          have gn : (0 : Int) < (n : Int) := by omega
          have HN : Hid (n = (digs (y.natAbs / 10)).length + 1) := hn
          have HTL : Hid (∀ V, Below wr.heap.size wr V → DgAt V (.slice a2 (n - 1) (cc - 1)) (digs (y.natAbs / 10))) := htl
          have HD9 : Hid (y.natAbs % 10 = d9) := hd
          clear hn htl hd hdg hds
          by_cases h0 : d9 = 0
          · subst h0
            have HT1 : Hid _ := hrow
            obtain ⟨y', hy'⟩ : ∃ y', bval sg (digs (y.natAbs / 10)) = y' := ⟨_, rfl⟩
            have hyq : y = y' * 10 := by
              rw [← hy']
              unfold bval
              rw [dval_digs]
              have h9 := HD9.out
              have hs9 := HY.out.2.1
              by_cases hs : y < 0
              · rw [decide_eq_true hs] at hs9
                rw [← hs9, if_pos rfl]; omega
              · rw [decide_eq_false hs] at hs9
                rw [← hs9, if_neg (by simp)]; omega
            have hln : (digs y'.natAbs).length = n - 1 := by rw [show y'.natAbs = y.natAbs / 10 by omega, HN.out]; omega
            have hn1 := digs_pos_len (show y'.natAbs ≠ 0 by omega)
            have HY2 : Hid (y' ≠ 0 ∧ decide (y' < 0) = sg ∧ (digs y'.natAbs).length = n - 1 ∧ y' * 10 ^ (j + 1) = c ^ i) := by
              obtain ⟨i1, i2, i3, i4⟩ := HY.out
              refine ⟨by omega, ?_, hln, ?_⟩
              · rw [← i2]
                by_cases hs : y < 0
                · rw [decide_eq_true hs, decide_eq_true (by omega)]
                · rw [decide_eq_false hs, decide_eq_false (by omega)]
              · rw [← i4, hyq, Int.pow_succ, Int.mul_comm (10 ^ j) 10, Int.mul_assoc]
            have HTR : ∀ V, Below wr.heap.size wr V → Hid (Calls Tryd.prog 59 #[.agg #[.bool sg, .slice a2 (n - 1) (cc - 1)]] V fun r w' => ∃ v', r = .returned v' ∧ BigV w' y' v' ∧ NewV V.heap.size v' ∧ Below V.heap.size V w') := fun V h => by
              have := trim_newB sg _ _ V (HTL.out V h) (digs_dg _) (by have := HN.out; omega)
              rw [hy'] at this
              exact this
            have hg0 : (1 : Int) ≤ (n : Int) := by omega
            have hsum : n - 1 + (j + 1) ≤ 1400 := by omega
            clear hyq hy' hy0
            go_upto_region 21 with fail
            have hS : Below wr.heap.size wr wr.drew := (Below.refl _ wr).drew
            have tr3 : ∀ wx, Below wr.heap.size wr wx → wx.cell? ⟨PB, 0, none⟩ = some (.bool sg) ∧ wx.cell? ⟨PB, 1, none⟩ = some (.slice (some ⟨bb, off, none⟩) n cc) ∧ wx.cell? ⟨PB, 2, none⟩ = some (.int .i64 (ek + (j : Int))) := fun wx hx => (hrow.below hx hrow.lt).tri
            have keyS : ∀ wx x, x = Value.slice (some ⟨bb, off, none⟩) n cc → (((Instr.sliceAt 43 x (some (.int .i64 1)) none none).run Tryd.prog wx).andThen fun a w' => Result.ok (Next.value a) w') = Result.ok (Next.value (.slice a2 (n - 1) (cc - 1))) wx := by
              rintro wx _ rfl; rw [hsl wx]; rfl
            have fw : IntKind.i64.wrap (ek + (j : Int) + 1) = ek + (j : Int) + 1 := IntWalk.i64_in _ ⟨by omega, by omega⟩
            refine wp_region_M (fun wx : World => Below wr.heap.size wr wx) (fun j => decide (j < 13)) 14 rfl (by kernel_rfl) ?_
            refine wpM_held 0 (v := ?_) rfl (by kernel_rfl) (by kernel_rfl) rfl (fun _ _ _ h => h) rfl (by intro wx hx; go_simp <;> rfl) hS ?_
            refine wpM_held 1 (v := ?_) rfl (by kernel_rfl) (by kernel_rfl) rfl (fun _ _ _ h => h) rfl (by intro wx hx; go_simp <;> rfl) hS ?_
            refine wpM_held 2 (v := .bool sg) rfl (by kernel_rfl) (by kernel_rfl) rfl (fun _ _ _ h => h) rfl (by intro wx hx; obtain ⟨x0, x1, x2⟩ := tr3 wx hx; go_simp <;> rfl) hS ?_
            refine wpM_held 3 (v := ?_) rfl (by kernel_rfl) (by kernel_rfl) rfl (fun _ _ _ h => h) rfl (by intro wx hx; go_simp <;> rfl) hS ?_
            refine wpM_held 4 (v := ?_) rfl (by kernel_rfl) (by kernel_rfl) rfl (fun _ _ _ h => h) rfl (by intro wx hx; go_simp <;> rfl) hS ?_
            refine wpM_held 5 (v := .slice (some ⟨bb, off, none⟩) n cc) rfl (by kernel_rfl) (by kernel_rfl) rfl (fun _ _ _ h => h) rfl (by intro wx hx; obtain ⟨x0, x1, x2⟩ := tr3 wx hx; go_simp <;> rfl) hS ?_
            refine wpM_held 6 (v := .slice a2 (n - 1) (cc - 1)) rfl (by kernel_rfl) (by kernel_rfl) rfl (fun _ _ _ h => h) rfl (by intro wx hx; simp [execOp, Act.eval]; exact keyS wx _ rfl) hS ?_
            refine wpM_held 9 (v := ?_) rfl (by kernel_rfl) (by kernel_rfl) rfl (fun _ _ _ h => h) rfl (by intro wx hx; go_simp <;> rfl) hS ?_
            refine wpM_held 10 (v := .int .i64 (ek + (j : Int))) rfl (by kernel_rfl) (by kernel_rfl) rfl (fun _ _ _ h => h) rfl (by intro wx hx; obtain ⟨x0, x1, x2⟩ := tr3 wx hx; go_simp <;> rfl) hS ?_
            refine wpM_held 11 (v := .int .i64 (ek + (j : Int) + 1)) rfl (by kernel_rfl) (by kernel_rfl) rfl (fun _ _ _ h => h) rfl (by intro wx hx; go_simp <;> first | rfl | exact fw) hS ?_
            refine wpM_one 7 rfl (by kernel_rfl) rfl ?_
            go_wp2_with fail
            refine ⟨fun _ => hS, ?_⟩
            refine wpM_one 8 rfl (by kernel_rfl) rfl ?_
            go_wp2_with fail
            refine Calls.mono (HTR _ hS).out ?_
            rintro _ wb ⟨v2, rfl, hV2, hN2, b2⟩
            obtain ⟨s2, rfl, hD2⟩ := hV2
            have hN2 := hN2.get
            obtain ⟨_, a6, c6, rfl, _, _⟩ := id hD2
            have hW3 : Below wr.heap.size wr wb := hS.trans (b2.mono hS.size)
            have hNP : NeS PB (.slice a6 (digs y'.natAbs).length c6) := hN2.ne (Nat.lt_of_lt_of_le hrow.lt hS.size)
            clear b2 HTR hS hN2
            unfold bv
            rw [HY2.out.2.1]
            rw [HY2.out.2.2.1] at hD2 hNP
            rw [HY2.out.2.2.1]
            go_wp2_with fail
            refine ⟨fun _ => hW3, ?_⟩
            refine wpM_one 12 rfl (by kernel_rfl) rfl ?_
            go_wp2_with fail
            refine ⟨fun _ => hW3, ?_⟩
            have pr := hrow.below hW3 hrow.lt
            obtain ⟨y0, y1, y2⟩ := pr.tri
            have zf := pr.frozen
            have hlt := pr.lt
            have hZe := Row.set3N pr (.bool sg) (.slice a6 (n - 1) c6) (.int .i64 (ek + (j : Int) + 1))
            have hBx := HBE.out.trans (hW3.mono HBE.out.size)
            have hBg := below_set (below_set (below_set hBx (B := PB) 0 (.bool sg) hPB) (B := PB) 1 (.slice a6 (n - 1) c6) hPB) (B := PB) 2 (.int .i64 (ek + (j : Int) + 1)) hPB
            have HDW : Hid (DgAt (((wb.setCell ⟨PB, 0, none⟩ (.bool sg)).setCell ⟨PB, 1, none⟩ (.slice a6 (n - 1) c6)).setCell ⟨PB, 2, none⟩ (.int .i64 (ek + (j : Int) + 1))) (.slice a6 (n - 1) c6) (digs y'.natAbs)) := ((hD2.offN hNP 0 _).offN hNP 1 _).offN hNP 2 _
            have HZ : Hid _ := hZe
            have HG : Hid _ := hBg
            have cn := hZe.tri.2.2
            have co := hrow.tri.2.2
            clear hD2 hZe hBg hBx tr3 HDG
            refine wpM_one 13 rfl (by kernel_rfl) rfl ?_
            go_wp2_with fail
            refine ⟨fun h => by simp at h, ?_⟩
            refine wpM_done (by kernel_rfl) ?_
            go_wp2
            go_roundw
            case rel => exact ⟨j + 1, y', a6, n - 1, c6, by rw [show ek + ((j + 1 : Nat) : Int) = ek + (j : Int) + 1 by omega]; exact HZ.out, HDW, hNP, HG, HY2, hsum⟩
            case measure => rw [cn, co]; simp [intOf]; omega
          · have gdd : ((d9 : Int) == 0) = false := by simp only [beq_eq_false_iff_ne]; omega
            have huz : y.natAbs = u ∧ j = z := by
              have e1 := congrArg Int.natAbs HY.out.2.2.2
              rw [Int.natAbs_mul, Int.natAbs_pow, Int.natAbs_pow, HUZ.out] at e1
              exact strip_uni j z y.natAbs u (by simpa using e1) (by rw [HD9.out]; exact h0) hu10
            obtain ⟨huy, rfl⟩ := huz
            have HSGY : Hid (decide (c ^ i < 0) = sg) := HSG
            have HDU : Hid (DgAt wr (.slice (some ⟨bb, off, none⟩) n cc) (digs u)) := by rw [← huy]; exact HDG.out
            have hnu : (digs u).length = n := by rw [← huy]; exact HY.out.2.2.1
            have hu0 : 0 < u := Nat.pos_of_ne_zero (fun h => hu10 (by rw [h]))
            obtain ⟨ej, hej⟩ : ∃ ej, ek + (j : Int) = ej := ⟨_, rfl⟩
            have he3 : -1152 ≤ ej ∧ ej ≤ 2552 := by omega
            have HRE : Hid (decV (downD sg u ej) = rv) := by show _ = _; rw [← HRV.out, HSG.out, HEK.out, hej]
            rw [hej] at hrow d2
            clear hej HDG HTL HY hsl hy0 huy HN HD9
            have rz := hr2.below HBE.out hZ6
            have hB8 := hB2.trans (HBE.out.mono hB2.size)
            by_cases h60 : 10 ^ 60 ≤ u
            · have gn2 : decide ((60 : Int) < (n : Int)) = true := decide_eq_true (by have := (digs_60 u).2 h60; omega)
              have HRES : Hid (rv = .tuple #[.agg #[.int .i64 0, .int .i64 0], .int .i64 30]) := by
                show _ = _
                rw [← HRE.out]
                unfold downD
                rw [if_pos h60]; rfl
              clear h60
              obtain ⟨y0, y1⟩ := rz.duo
              have zf := rz.frozen
              have hlt := rz.lt
              have hZe := Row.set2 rz (.int .i64 0) (.int .i64 0)
              have hBg := below_set (below_set hB8 (B := w.heap.size + 1 + 1) 0 (.int .i64 0) (by omega)) (B := w.heap.size + 1 + 1) 1 (.int .i64 0) (by omega)
              go_wp2
              exact bodyPost_ret (ret_two rfl (g := w.heap.size + 1 + 1) rfl rfl (load23 hZe rfl)) rfl ⟨by rw [HRES.out]; rfl, hBg⟩
            · have gn2 : decide ((60 : Int) < (n : Int)) = false := decide_eq_false (by
                intro h
                exact h60 ((digs_60 u).1 (by omega)))
              have HL60 : Hid ((digs u).length ≤ 60) := by
                have : ¬ 60 < (digs u).length := fun h => h60 ((digs_60 u).1 h)
                show _ ≤ _
                omega
              have HRE2 : Hid (decV (if 10 ^ 200 % u = 0 then tellW sg (10 ^ 200 / u) (-ej - 200) else none) = rv) := by
                show _ = _
                rw [← HRE.out]
                unfold downD
                rw [if_neg h60]
              clear h60
              go_upto_region 24 with fail
              clear gn2 d0 d1 d2 hc0
              generalize hadr : (some ⟨bb, off, none⟩ : Option Addr) = a at *
              clear hadr
              have H1 : ∀ V, Hid (Calls Tryd.prog 64 #[.int .i64 1] V fun r w' => ∃ a n c', r = .returned (.agg #[.bool false, .slice a n c']) ∧ DgAt w' (.slice a n c') (digs 1) ∧ Below V.heap.size V w') := fun V => by
                refine (of_any 1 ⟨by decide, by decide⟩ V).mono ?_
                rintro r w' ⟨v, rfl, ⟨s, rfl, hs⟩, hb⟩
                obtain ⟨_, a, c', rfl, _, _⟩ := id hs
                exact ⟨a, _, c', rfl, hs, hb⟩
              have H2 : ∀ V a n c', DgAt V (.slice a n c') (digs 1) → Hid (Calls Tryd.prog 58 #[.agg #[.bool false, .slice a n c'], .int .i64 200] V fun r w' => ∃ a n c', r = .returned (.agg #[.bool false, .slice a n c']) ∧ DgAt w' (.slice a n c') (digs (10 ^ 200)) ∧ Below V.heap.size V w') := fun V a n c' h => by
                refine (shift_any 1 (bv false (.slice a n c')) 200 V ⟨_, rfl, h⟩ (by omega) (Nat.le_trans (digs_len _ 1 (by decide)) (by decide))).mono ?_
                rintro r w' ⟨v, rfl, ⟨s, rfl, hs⟩, hb⟩
                have e1 : ((1 : Int) * 10 ^ 200).natAbs = 10 ^ 200 := by rw [Int.one_mul, Int.natAbs_pow]; rfl
                have e2 : decide ((1 : Int) * 10 ^ 200 < 0) = false := decide_eq_false (by rw [Int.one_mul]; exact Int.not_lt.2 (Int.le_of_lt (Int.pow_pos (by decide))))
                rw [e1] at hs
                rw [e2]
                obtain ⟨_, a, c', rfl, _, _⟩ := id hs
                exact ⟨a, _, c', rfl, hs, hb⟩
              have H3 : ∀ V a' n' c', Below wr.heap.size wr V → DgAt V (.slice a' n' c') (digs (10 ^ 200)) → Hid (Calls Tryd.prog 57 #[.agg #[.bool false, .slice a' n' c'], .agg #[.bool sg, .slice a n cc]] V fun r w' => ∃ aq nq cq ar nr cr, r = .returned (.tuple #[.agg #[.bool false, .slice aq nq cq], .agg #[.bool false, .slice ar nr cr]]) ∧ DgAt w' (.slice aq nq cq) (digs (10 ^ 200 / u)) ∧ DgAt w' (.slice ar nr cr) (digs (10 ^ 200 % u)) ∧ Below V.heap.size V w') := fun V a' n' c' hV h => by
                have l1 : (digs (10 ^ 200)).length ≤ 300 := Nat.le_trans (digs_len _ 201 (Nat.pow_lt_pow_right (by decide) (by decide))) (by decide)
                refine (quo_digs false sg _ _ _ _ V h (HDU.out.below hV) (digs_dg _) (digs_dg _) l1 (Nat.le_trans HL60.out (by decide)) (by rw [dval_digs]; omega)).mono ?_
                rintro r w' ⟨v1, v2, rfl, ⟨s1, rfl, h1⟩, ⟨s2, rfl, h2⟩, hb⟩
                rw [dval_digs, dval_digs] at h1 h2 ⊢
                have e1 : (((10 ^ 200 : Nat) : Int) / ((u : Nat) : Int)) = ((10 ^ 200 / u : Nat) : Int) := (Int.natCast_ediv _ _).symm
                have e2 : (((10 ^ 200 : Nat) : Int) % ((u : Nat) : Int)) = ((10 ^ 200 % u : Nat) : Int) := (Int.natCast_emod _ _).symm
                rw [e1, Int.natAbs_natCast] at h1
                rw [e2, Int.natAbs_natCast] at h2
                rw [e1, e2, decide_eq_false (Int.not_lt.2 (Int.natCast_nonneg _)), decide_eq_false (Int.not_lt.2 (Int.natCast_nonneg _))]
                obtain ⟨_, a1, c1, rfl, _, _⟩ := id h1
                obtain ⟨_, a2, c2, rfl, _, _⟩ := id h2
                exact ⟨a1, _, c1, a2, _, c2, rfl, h1, h2, hb⟩
              go_cut [15, 16] (fun v6 v7 wx => ∃ (K6 K7 : Nat) (aq : Option Addr) (nq cq : Nat) (ar : Option Addr) (nr cr : Nat), v6 = .pointer (some ⟨K6, 0, none⟩) ∧ v7 = .pointer (some ⟨K7, 0, none⟩) ∧ K6 ≠ K7 ∧ wr.heap.size ≤ K6 ∧ wr.heap.size ≤ K7 ∧ Row wx K6 45 #[.bool false, .slice aq nq cq] ∧ Row wx K7 45 #[.bool false, .slice ar nr cr] ∧ Hid (DgAt wx (.slice aq nq cq) (digs (10 ^ 200 / u))) ∧ Hid (DgAt wx (.slice ar nr cr) (digs (10 ^ 200 % u))) ∧ Hid (Below wr.heap.size wr wx))
              case first =>
                as_aux_lemma =>
                  have hS : Below wr.heap.size wr wr.drew := (Below.refl _ wr).drew
                  have trb : ∀ wx, Below wr.heap.size wr wx → wx.cell? ⟨PB, 0, none⟩ = some (.bool sg) ∧ wx.cell? ⟨PB, 1, none⟩ = some (.slice a n cc) ∧ wx.cell? ⟨PB, 2, none⟩ = some (.int .i64 ej) := fun wx hx => (hrow.below hx hrow.lt).tri
                  refine wp_region_M (fun wx : World => Below wr.heap.size wr wx) (fun j => decide (j < 12)) 12 rfl (by kernel_rfl) ?_
                  refine wpM_held 2 (v := ?_) rfl (by kernel_rfl) (by kernel_rfl) rfl (fun _ _ _ h => h) rfl (by intro wx hx; go_simp <;> rfl) hS ?_
                  refine wpM_held 3 (v := .agg #[.bool sg, .slice a n cc]) rfl (by kernel_rfl) (by kernel_rfl) rfl (fun _ _ _ h => h) rfl (by intro wx hx; obtain ⟨x0, x1, x2⟩ := trb wx hx; go_simp <;> rfl) hS ?_
                  refine wpM_three 0 8 9 rfl rfl rfl (by kernel_rfl) rfl rfl rfl ?_ ?_ ?_
                  · go_wp2_with fail
                    refine Calls.mono (H1 _).out ?_
                    rintro _ v1 ⟨a1, n1, c1, rfl, D1, b1⟩
                    have S1 : Below wr.heap.size wr v1 := hS.trans (b1.mono hS.size)
                    clear b1
                    go_wp2_with fail
                    refine ⟨fun _ => S1, ?_⟩
                    refine wpM_three 1 8 9 rfl rfl rfl (by kernel_rfl) rfl rfl rfl ?_ ?_ ?_
                    · go_wp2_with fail
                      refine Calls.mono (H2 _ _ _ _ D1).out ?_
                      rintro _ v2 ⟨a2, n2, c2, rfl, D2, b2⟩
                      have S2 : Below wr.heap.size wr v2 := S1.trans (b2.mono S1.size)
                      clear b2
                      go_wp2_with fail
                      refine ⟨fun _ => S2, ?_⟩
                      refine wpM_three 4 8 9 rfl rfl rfl (by kernel_rfl) rfl rfl rfl ?_ ?_ ?_
                      · go_wp2_with fail
                        refine Calls.mono (H3 _ _ _ _ S2 D2).out ?_
                        rintro _ v3 ⟨a3, n3, c3, e3, f3, g3, rfl, D3, E3, b3⟩
                        have S3 : Below wr.heap.size wr v3 := S2.trans (b3.mono S2.size)
                        clear b3
                        go_wp2_with fail
                        refine ⟨fun _ => S3, ?_⟩
                        refine wpM_held 5 (v := .tuple #[.agg #[.bool false, .slice a3 n3 c3], .agg #[.bool false, .slice e3 f3 g3]]) rfl (by kernel_rfl) (by kernel_rfl) rfl (fun _ _ _ h => h) rfl (by intro wx hx; go_simp <;> rfl) S3 ?_
                        refine wpM_held 6 (v := .agg #[.bool false, .slice a3 n3 c3]) rfl (by kernel_rfl) (by kernel_rfl) rfl (fun _ _ _ h => h) rfl (by intro wx hx; go_simp <;> rfl) S3 ?_
                        refine wpM_held 7 (v := .agg #[.bool false, .slice e3 f3 g3]) rfl (by kernel_rfl) (by kernel_rfl) rfl (fun _ _ _ h => h) rfl (by intro wx hx; go_simp <;> rfl) S3 ?_
                        refine wpM_two 8 9 rfl rfl (by kernel_rfl) rfl rfl ?_ ?_
                        · go_wp2_with fail
                          have R64 := Row.new v3 45 #[.bool false, .slice none 0 0]
                          have S4 : Below wr.heap.size wr (v3.alloc (.cells #[.bool false, .slice none 0 0] 45)) := S3.alloc S3.size _
                          have L4 : wr.heap.size ≤ v3.heap.size := S3.size
                          have D4 := D3.below ((Below.refl _ v3).alloc (Nat.le_refl _) (.cells #[.bool false, .slice none 0 0] 45))
                          have E4 := E3.below ((Below.refl _ v3).alloc (Nat.le_refl _) (.cells #[.bool false, .slice none 0 0] 45))
                          refine ⟨fun _ => S4, ?_⟩
                          clear S3 D3 E3 
                          generalize v3.alloc (.cells #[.bool false, .slice none 0 0] 45) = v4 at *
                          generalize v3.heap.size = K4 at *
                          refine wpM_one 9 rfl (by kernel_rfl) rfl ?_
                          go_wp2_with fail
                          have R75 := Row.new v4 45 #[.bool false, .slice none 0 0]
                          have S5 : Below wr.heap.size wr (v4.alloc (.cells #[.bool false, .slice none 0 0] 45)) := S4.alloc S4.size _
                          have L5 : wr.heap.size ≤ v4.heap.size := S4.size
                          have N5 := R64.lt
                          have R65 := R64.alloc (.cells #[.bool false, .slice none 0 0] 45)
                          have D5 := D4.below ((Below.refl _ v4).alloc (Nat.le_refl _) (.cells #[.bool false, .slice none 0 0] 45))
                          have E5 := E4.below ((Below.refl _ v4).alloc (Nat.le_refl _) (.cells #[.bool false, .slice none 0 0] 45))
                          refine ⟨fun _ => S5, ?_⟩
                          clear S4 D4 E4 R64
                          generalize v4.alloc (.cells #[.bool false, .slice none 0 0] 45) = v5 at *
                          generalize v4.heap.size = K5 at *
                          have hne6 : K4 ≠ K5 := by omega
                          have P6 := Row.set2 R65 (.bool false) (.slice a3 n3 c3)
                          have P7 := (Row.other R75 (K := K4) (by omega) 0 (.bool false)).other (K := K4) (by omega) 1 (.slice a3 n3 c3)
                          have Dq := D5.store R65 (.bool false) (.slice a3 n3 c3)
                          have Dr := E5.store R65 (.bool false) (.slice a3 n3 c3)
                          have Sb := below_set (below_set S5 (B := K4) 0 (.bool false) (by omega)) (B := K4) 1 (.slice a3 n3 c3) (by omega)
                          obtain ⟨x0, x1'⟩ := Row.duo R65
                          have zf := Row.frozen R65
                          refine wpM_one 10 rfl (by kernel_rfl) rfl ?_
                          go_wp2_with fail
                          refine ⟨fun _ => Sb, ?_⟩
                          clear x0 x1' zf R65 R75 D5 E5 S5
                          generalize (v5.setCell ⟨K4, 0, none⟩ (.bool false)).setCell ⟨K4, 1, none⟩ (.slice a3 n3 c3) = V9 at *
                          have O7 := Row.set2 P7 (.bool false) (.slice e3 f3 g3)
                          have O6 := (Row.other P6 (K := K5) (by omega) 0 (.bool false)).other (K := K5) (by omega) 1 (.slice e3 f3 g3)
                          have Eq := Dq.store P7 (.bool false) (.slice e3 f3 g3)
                          have Er := Dr.store P7 (.bool false) (.slice e3 f3 g3)
                          have Sc := below_set (below_set Sb (B := K5) 0 (.bool false) (by omega)) (B := K5) 1 (.slice e3 f3 g3) (by omega)
                          obtain ⟨x0, x1'⟩ := Row.duo P7
                          have zf := Row.frozen P7
                          refine wpM_one 11 rfl (by kernel_rfl) rfl ?_
                          go_wp2_with fail
                          refine ⟨fun _ => Sc, ?_⟩
                          refine wpM_done (by kernel_rfl) ?_
                          go_wp2_with fail
                          go_meet
                          exact ⟨K4, K5, a3, n3, c3, e3, f3, g3, rfl, rfl, hne6, by omega, by omega, O6, O7, Eq, Er, Sc⟩
                        · go_wp2_with fail
                          have R77 := Row.new v3 45 #[.bool false, .slice none 0 0]
                          have S7 : Below wr.heap.size wr (v3.alloc (.cells #[.bool false, .slice none 0 0] 45)) := S3.alloc S3.size _
                          have L7 : wr.heap.size ≤ v3.heap.size := S3.size
                          have D7 := D3.below ((Below.refl _ v3).alloc (Nat.le_refl _) (.cells #[.bool false, .slice none 0 0] 45))
                          have E7 := E3.below ((Below.refl _ v3).alloc (Nat.le_refl _) (.cells #[.bool false, .slice none 0 0] 45))
                          refine ⟨fun _ => S7, ?_⟩
                          clear S3 D3 E3 
                          generalize v3.alloc (.cells #[.bool false, .slice none 0 0] 45) = v7 at *
                          generalize v3.heap.size = K7 at *
                          refine wpM_one 8 rfl (by kernel_rfl) rfl ?_
                          go_wp2_with fail
                          have R68 := Row.new v7 45 #[.bool false, .slice none 0 0]
                          have S8 : Below wr.heap.size wr (v7.alloc (.cells #[.bool false, .slice none 0 0] 45)) := S7.alloc S7.size _
                          have L8 : wr.heap.size ≤ v7.heap.size := S7.size
                          have N8 := R77.lt
                          have R78 := R77.alloc (.cells #[.bool false, .slice none 0 0] 45)
                          have D8 := D7.below ((Below.refl _ v7).alloc (Nat.le_refl _) (.cells #[.bool false, .slice none 0 0] 45))
                          have E8 := E7.below ((Below.refl _ v7).alloc (Nat.le_refl _) (.cells #[.bool false, .slice none 0 0] 45))
                          refine ⟨fun _ => S8, ?_⟩
                          clear S7 D7 E7 R77
                          generalize v7.alloc (.cells #[.bool false, .slice none 0 0] 45) = v8 at *
                          generalize v7.heap.size = K8 at *
                          have hne9 : K8 ≠ K7 := by omega
                          have P6 := Row.set2 R68 (.bool false) (.slice a3 n3 c3)
                          have P7 := (Row.other R78 (K := K8) (by omega) 0 (.bool false)).other (K := K8) (by omega) 1 (.slice a3 n3 c3)
                          have Dq := D8.store R68 (.bool false) (.slice a3 n3 c3)
                          have Dr := E8.store R68 (.bool false) (.slice a3 n3 c3)
                          have Sb := below_set (below_set S8 (B := K8) 0 (.bool false) (by omega)) (B := K8) 1 (.slice a3 n3 c3) (by omega)
                          obtain ⟨x0, x1'⟩ := Row.duo R68
                          have zf := Row.frozen R68
                          refine wpM_one 10 rfl (by kernel_rfl) rfl ?_
                          go_wp2_with fail
                          refine ⟨fun _ => Sb, ?_⟩
                          clear x0 x1' zf R68 R78 D8 E8 S8
                          generalize (v8.setCell ⟨K8, 0, none⟩ (.bool false)).setCell ⟨K8, 1, none⟩ (.slice a3 n3 c3) = V9 at *
                          have O7 := Row.set2 P7 (.bool false) (.slice e3 f3 g3)
                          have O6 := (Row.other P6 (K := K7) (by omega) 0 (.bool false)).other (K := K7) (by omega) 1 (.slice e3 f3 g3)
                          have Eq := Dq.store P7 (.bool false) (.slice e3 f3 g3)
                          have Er := Dr.store P7 (.bool false) (.slice e3 f3 g3)
                          have Sc := below_set (below_set Sb (B := K7) 0 (.bool false) (by omega)) (B := K7) 1 (.slice e3 f3 g3) (by omega)
                          obtain ⟨x0, x1'⟩ := Row.duo P7
                          have zf := Row.frozen P7
                          refine wpM_one 11 rfl (by kernel_rfl) rfl ?_
                          go_wp2_with fail
                          refine ⟨fun _ => Sc, ?_⟩
                          refine wpM_done (by kernel_rfl) ?_
                          go_wp2_with fail
                          go_meet
                          exact ⟨K8, K7, a3, n3, c3, e3, f3, g3, rfl, rfl, hne9, by omega, by omega, O6, O7, Eq, Er, Sc⟩
                      · go_wp2_with fail
                        have R610 := Row.new v2 45 #[.bool false, .slice none 0 0]
                        have S10 : Below wr.heap.size wr (v2.alloc (.cells #[.bool false, .slice none 0 0] 45)) := S2.alloc S2.size _
                        have L10 : wr.heap.size ≤ v2.heap.size := S2.size
                        have D10 := D2.below ((Below.refl _ v2).alloc (Nat.le_refl _) (.cells #[.bool false, .slice none 0 0] 45))
                        refine ⟨fun _ => S10, ?_⟩
                        clear S2 D2 
                        generalize v2.alloc (.cells #[.bool false, .slice none 0 0] 45) = v10 at *
                        generalize v2.heap.size = K10 at *
                        refine wpM_two 4 9 rfl rfl (by kernel_rfl) rfl rfl ?_ ?_
                        · go_wp2_with fail
                          refine Calls.mono (H3 _ _ _ _ S10 D10).out ?_
                          rintro _ v11 ⟨a11, n11, c11, e11, f11, g11, rfl, D11, E11, b11⟩
                          have S11 : Below wr.heap.size wr v11 := S10.trans (b11.mono S10.size)
                          have R611 := R610.below b11 R610.lt
                          clear b11
                          go_wp2_with fail
                          refine ⟨fun _ => S11, ?_⟩
                          refine wpM_held 5 (v := .tuple #[.agg #[.bool false, .slice a11 n11 c11], .agg #[.bool false, .slice e11 f11 g11]]) rfl (by kernel_rfl) (by kernel_rfl) rfl (fun _ _ _ h => h) rfl (by intro wx hx; go_simp <;> rfl) S11 ?_
                          refine wpM_held 6 (v := .agg #[.bool false, .slice a11 n11 c11]) rfl (by kernel_rfl) (by kernel_rfl) rfl (fun _ _ _ h => h) rfl (by intro wx hx; go_simp <;> rfl) S11 ?_
                          refine wpM_held 7 (v := .agg #[.bool false, .slice e11 f11 g11]) rfl (by kernel_rfl) (by kernel_rfl) rfl (fun _ _ _ h => h) rfl (by intro wx hx; go_simp <;> rfl) S11 ?_
                          refine wpM_one 9 rfl (by kernel_rfl) rfl ?_
                          go_wp2_with fail
                          have R712 := Row.new v11 45 #[.bool false, .slice none 0 0]
                          have S12 : Below wr.heap.size wr (v11.alloc (.cells #[.bool false, .slice none 0 0] 45)) := S11.alloc S11.size _
                          have L12 : wr.heap.size ≤ v11.heap.size := S11.size
                          have N12 := R611.lt
                          have R612 := R611.alloc (.cells #[.bool false, .slice none 0 0] 45)
                          have D12 := D11.below ((Below.refl _ v11).alloc (Nat.le_refl _) (.cells #[.bool false, .slice none 0 0] 45))
                          have E12 := E11.below ((Below.refl _ v11).alloc (Nat.le_refl _) (.cells #[.bool false, .slice none 0 0] 45))
                          refine ⟨fun _ => S12, ?_⟩
                          clear S11 D11 E11 R611
                          generalize v11.alloc (.cells #[.bool false, .slice none 0 0] 45) = v12 at *
                          generalize v11.heap.size = K12 at *
                          have hne13 : K10 ≠ K12 := by omega
                          have P6 := Row.set2 R612 (.bool false) (.slice a11 n11 c11)
                          have P7 := (Row.other R712 (K := K10) (by omega) 0 (.bool false)).other (K := K10) (by omega) 1 (.slice a11 n11 c11)
                          have Dq := D12.store R612 (.bool false) (.slice a11 n11 c11)
                          have Dr := E12.store R612 (.bool false) (.slice a11 n11 c11)
                          have Sb := below_set (below_set S12 (B := K10) 0 (.bool false) (by omega)) (B := K10) 1 (.slice a11 n11 c11) (by omega)
                          obtain ⟨x0, x1'⟩ := Row.duo R612
                          have zf := Row.frozen R612
                          refine wpM_one 10 rfl (by kernel_rfl) rfl ?_
                          go_wp2_with fail
                          refine ⟨fun _ => Sb, ?_⟩
                          clear x0 x1' zf R612 R712 D12 E12 S12
                          generalize (v12.setCell ⟨K10, 0, none⟩ (.bool false)).setCell ⟨K10, 1, none⟩ (.slice a11 n11 c11) = V9 at *
                          have O7 := Row.set2 P7 (.bool false) (.slice e11 f11 g11)
                          have O6 := (Row.other P6 (K := K12) (by omega) 0 (.bool false)).other (K := K12) (by omega) 1 (.slice e11 f11 g11)
                          have Eq := Dq.store P7 (.bool false) (.slice e11 f11 g11)
                          have Er := Dr.store P7 (.bool false) (.slice e11 f11 g11)
                          have Sc := below_set (below_set Sb (B := K12) 0 (.bool false) (by omega)) (B := K12) 1 (.slice e11 f11 g11) (by omega)
                          obtain ⟨x0, x1'⟩ := Row.duo P7
                          have zf := Row.frozen P7
                          refine wpM_one 11 rfl (by kernel_rfl) rfl ?_
                          go_wp2_with fail
                          refine ⟨fun _ => Sc, ?_⟩
                          refine wpM_done (by kernel_rfl) ?_
                          go_wp2_with fail
                          go_meet
                          exact ⟨K10, K12, a11, n11, c11, e11, f11, g11, rfl, rfl, hne13, by omega, by omega, O6, O7, Eq, Er, Sc⟩
                        · go_wp2_with fail
                          have R714 := Row.new v10 45 #[.bool false, .slice none 0 0]
                          have S14 : Below wr.heap.size wr (v10.alloc (.cells #[.bool false, .slice none 0 0] 45)) := S10.alloc S10.size _
                          have L14 : wr.heap.size ≤ v10.heap.size := S10.size
                          have N14 := R610.lt
                          have R614 := R610.alloc (.cells #[.bool false, .slice none 0 0] 45)
                          have D14 := D10.below ((Below.refl _ v10).alloc (Nat.le_refl _) (.cells #[.bool false, .slice none 0 0] 45))
                          refine ⟨fun _ => S14, ?_⟩
                          clear S10 D10 R610
                          generalize v10.alloc (.cells #[.bool false, .slice none 0 0] 45) = v14 at *
                          generalize v10.heap.size = K14 at *
                          refine wpM_one 4 rfl (by kernel_rfl) rfl ?_
                          go_wp2_with fail
                          refine Calls.mono (H3 _ _ _ _ S14 D14).out ?_
                          rintro _ v15 ⟨a15, n15, c15, e15, f15, g15, rfl, D15, E15, b15⟩
                          have S15 : Below wr.heap.size wr v15 := S14.trans (b15.mono S14.size)
                          have R615 := R614.below b15 R614.lt
                          have R715 := R714.below b15 R714.lt
                          clear b15
                          go_wp2_with fail
                          refine ⟨fun _ => S15, ?_⟩
                          refine wpM_held 5 (v := .tuple #[.agg #[.bool false, .slice a15 n15 c15], .agg #[.bool false, .slice e15 f15 g15]]) rfl (by kernel_rfl) (by kernel_rfl) rfl (fun _ _ _ h => h) rfl (by intro wx hx; go_simp <;> rfl) S15 ?_
                          refine wpM_held 6 (v := .agg #[.bool false, .slice a15 n15 c15]) rfl (by kernel_rfl) (by kernel_rfl) rfl (fun _ _ _ h => h) rfl (by intro wx hx; go_simp <;> rfl) S15 ?_
                          refine wpM_held 7 (v := .agg #[.bool false, .slice e15 f15 g15]) rfl (by kernel_rfl) (by kernel_rfl) rfl (fun _ _ _ h => h) rfl (by intro wx hx; go_simp <;> rfl) S15 ?_
                          have hne16 : K10 ≠ K14 := by omega
                          have P6 := Row.set2 R615 (.bool false) (.slice a15 n15 c15)
                          have P7 := (Row.other R715 (K := K10) (by omega) 0 (.bool false)).other (K := K10) (by omega) 1 (.slice a15 n15 c15)
                          have Dq := D15.store R615 (.bool false) (.slice a15 n15 c15)
                          have Dr := E15.store R615 (.bool false) (.slice a15 n15 c15)
                          have Sb := below_set (below_set S15 (B := K10) 0 (.bool false) (by omega)) (B := K10) 1 (.slice a15 n15 c15) (by omega)
                          obtain ⟨x0, x1'⟩ := Row.duo R615
                          have zf := Row.frozen R615
                          refine wpM_one 10 rfl (by kernel_rfl) rfl ?_
                          go_wp2_with fail
                          refine ⟨fun _ => Sb, ?_⟩
                          clear x0 x1' zf R615 R715 D15 E15 S15
                          generalize (v15.setCell ⟨K10, 0, none⟩ (.bool false)).setCell ⟨K10, 1, none⟩ (.slice a15 n15 c15) = V9 at *
                          have O7 := Row.set2 P7 (.bool false) (.slice e15 f15 g15)
                          have O6 := (Row.other P6 (K := K14) (by omega) 0 (.bool false)).other (K := K14) (by omega) 1 (.slice e15 f15 g15)
                          have Eq := Dq.store P7 (.bool false) (.slice e15 f15 g15)
                          have Er := Dr.store P7 (.bool false) (.slice e15 f15 g15)
                          have Sc := below_set (below_set Sb (B := K14) 0 (.bool false) (by omega)) (B := K14) 1 (.slice e15 f15 g15) (by omega)
                          obtain ⟨x0, x1'⟩ := Row.duo P7
                          have zf := Row.frozen P7
                          refine wpM_one 11 rfl (by kernel_rfl) rfl ?_
                          go_wp2_with fail
                          refine ⟨fun _ => Sc, ?_⟩
                          refine wpM_done (by kernel_rfl) ?_
                          go_wp2_with fail
                          go_meet
                          exact ⟨K10, K14, a15, n15, c15, e15, f15, g15, rfl, rfl, hne16, by omega, by omega, O6, O7, Eq, Er, Sc⟩
                      · go_wp2_with fail
                        have R717 := Row.new v2 45 #[.bool false, .slice none 0 0]
                        have S17 : Below wr.heap.size wr (v2.alloc (.cells #[.bool false, .slice none 0 0] 45)) := S2.alloc S2.size _
                        have L17 : wr.heap.size ≤ v2.heap.size := S2.size
                        have D17 := D2.below ((Below.refl _ v2).alloc (Nat.le_refl _) (.cells #[.bool false, .slice none 0 0] 45))
                        refine ⟨fun _ => S17, ?_⟩
                        clear S2 D2 
                        generalize v2.alloc (.cells #[.bool false, .slice none 0 0] 45) = v17 at *
                        generalize v2.heap.size = K17 at *
                        refine wpM_two 4 8 rfl rfl (by kernel_rfl) rfl rfl ?_ ?_
                        · go_wp2_with fail
                          refine Calls.mono (H3 _ _ _ _ S17 D17).out ?_
                          rintro _ v18 ⟨a18, n18, c18, e18, f18, g18, rfl, D18, E18, b18⟩
                          have S18 : Below wr.heap.size wr v18 := S17.trans (b18.mono S17.size)
                          have R718 := R717.below b18 R717.lt
                          clear b18
                          go_wp2_with fail
                          refine ⟨fun _ => S18, ?_⟩
                          refine wpM_held 5 (v := .tuple #[.agg #[.bool false, .slice a18 n18 c18], .agg #[.bool false, .slice e18 f18 g18]]) rfl (by kernel_rfl) (by kernel_rfl) rfl (fun _ _ _ h => h) rfl (by intro wx hx; go_simp <;> rfl) S18 ?_
                          refine wpM_held 6 (v := .agg #[.bool false, .slice a18 n18 c18]) rfl (by kernel_rfl) (by kernel_rfl) rfl (fun _ _ _ h => h) rfl (by intro wx hx; go_simp <;> rfl) S18 ?_
                          refine wpM_held 7 (v := .agg #[.bool false, .slice e18 f18 g18]) rfl (by kernel_rfl) (by kernel_rfl) rfl (fun _ _ _ h => h) rfl (by intro wx hx; go_simp <;> rfl) S18 ?_
                          refine wpM_one 8 rfl (by kernel_rfl) rfl ?_
                          go_wp2_with fail
                          have R619 := Row.new v18 45 #[.bool false, .slice none 0 0]
                          have S19 : Below wr.heap.size wr (v18.alloc (.cells #[.bool false, .slice none 0 0] 45)) := S18.alloc S18.size _
                          have L19 : wr.heap.size ≤ v18.heap.size := S18.size
                          have N19 := R718.lt
                          have R719 := R718.alloc (.cells #[.bool false, .slice none 0 0] 45)
                          have D19 := D18.below ((Below.refl _ v18).alloc (Nat.le_refl _) (.cells #[.bool false, .slice none 0 0] 45))
                          have E19 := E18.below ((Below.refl _ v18).alloc (Nat.le_refl _) (.cells #[.bool false, .slice none 0 0] 45))
                          refine ⟨fun _ => S19, ?_⟩
                          clear S18 D18 E18 R718
                          generalize v18.alloc (.cells #[.bool false, .slice none 0 0] 45) = v19 at *
                          generalize v18.heap.size = K19 at *
                          have hne20 : K19 ≠ K17 := by omega
                          have P6 := Row.set2 R619 (.bool false) (.slice a18 n18 c18)
                          have P7 := (Row.other R719 (K := K19) (by omega) 0 (.bool false)).other (K := K19) (by omega) 1 (.slice a18 n18 c18)
                          have Dq := D19.store R619 (.bool false) (.slice a18 n18 c18)
                          have Dr := E19.store R619 (.bool false) (.slice a18 n18 c18)
                          have Sb := below_set (below_set S19 (B := K19) 0 (.bool false) (by omega)) (B := K19) 1 (.slice a18 n18 c18) (by omega)
                          obtain ⟨x0, x1'⟩ := Row.duo R619
                          have zf := Row.frozen R619
                          refine wpM_one 10 rfl (by kernel_rfl) rfl ?_
                          go_wp2_with fail
                          refine ⟨fun _ => Sb, ?_⟩
                          clear x0 x1' zf R619 R719 D19 E19 S19
                          generalize (v19.setCell ⟨K19, 0, none⟩ (.bool false)).setCell ⟨K19, 1, none⟩ (.slice a18 n18 c18) = V9 at *
                          have O7 := Row.set2 P7 (.bool false) (.slice e18 f18 g18)
                          have O6 := (Row.other P6 (K := K17) (by omega) 0 (.bool false)).other (K := K17) (by omega) 1 (.slice e18 f18 g18)
                          have Eq := Dq.store P7 (.bool false) (.slice e18 f18 g18)
                          have Er := Dr.store P7 (.bool false) (.slice e18 f18 g18)
                          have Sc := below_set (below_set Sb (B := K17) 0 (.bool false) (by omega)) (B := K17) 1 (.slice e18 f18 g18) (by omega)
                          obtain ⟨x0, x1'⟩ := Row.duo P7
                          have zf := Row.frozen P7
                          refine wpM_one 11 rfl (by kernel_rfl) rfl ?_
                          go_wp2_with fail
                          refine ⟨fun _ => Sc, ?_⟩
                          refine wpM_done (by kernel_rfl) ?_
                          go_wp2_with fail
                          go_meet
                          exact ⟨K19, K17, a18, n18, c18, e18, f18, g18, rfl, rfl, hne20, by omega, by omega, O6, O7, Eq, Er, Sc⟩
                        · go_wp2_with fail
                          have R621 := Row.new v17 45 #[.bool false, .slice none 0 0]
                          have S21 : Below wr.heap.size wr (v17.alloc (.cells #[.bool false, .slice none 0 0] 45)) := S17.alloc S17.size _
                          have L21 : wr.heap.size ≤ v17.heap.size := S17.size
                          have N21 := R717.lt
                          have R721 := R717.alloc (.cells #[.bool false, .slice none 0 0] 45)
                          have D21 := D17.below ((Below.refl _ v17).alloc (Nat.le_refl _) (.cells #[.bool false, .slice none 0 0] 45))
                          refine ⟨fun _ => S21, ?_⟩
                          clear S17 D17 R717
                          generalize v17.alloc (.cells #[.bool false, .slice none 0 0] 45) = v21 at *
                          generalize v17.heap.size = K21 at *
                          refine wpM_one 4 rfl (by kernel_rfl) rfl ?_
                          go_wp2_with fail
                          refine Calls.mono (H3 _ _ _ _ S21 D21).out ?_
                          rintro _ v22 ⟨a22, n22, c22, e22, f22, g22, rfl, D22, E22, b22⟩
                          have S22 : Below wr.heap.size wr v22 := S21.trans (b22.mono S21.size)
                          have R722 := R721.below b22 R721.lt
                          have R622 := R621.below b22 R621.lt
                          clear b22
                          go_wp2_with fail
                          refine ⟨fun _ => S22, ?_⟩
                          refine wpM_held 5 (v := .tuple #[.agg #[.bool false, .slice a22 n22 c22], .agg #[.bool false, .slice e22 f22 g22]]) rfl (by kernel_rfl) (by kernel_rfl) rfl (fun _ _ _ h => h) rfl (by intro wx hx; go_simp <;> rfl) S22 ?_
                          refine wpM_held 6 (v := .agg #[.bool false, .slice a22 n22 c22]) rfl (by kernel_rfl) (by kernel_rfl) rfl (fun _ _ _ h => h) rfl (by intro wx hx; go_simp <;> rfl) S22 ?_
                          refine wpM_held 7 (v := .agg #[.bool false, .slice e22 f22 g22]) rfl (by kernel_rfl) (by kernel_rfl) rfl (fun _ _ _ h => h) rfl (by intro wx hx; go_simp <;> rfl) S22 ?_
                          have hne23 : K21 ≠ K17 := by omega
                          have P6 := Row.set2 R622 (.bool false) (.slice a22 n22 c22)
                          have P7 := (Row.other R722 (K := K21) (by omega) 0 (.bool false)).other (K := K21) (by omega) 1 (.slice a22 n22 c22)
                          have Dq := D22.store R622 (.bool false) (.slice a22 n22 c22)
                          have Dr := E22.store R622 (.bool false) (.slice a22 n22 c22)
                          have Sb := below_set (below_set S22 (B := K21) 0 (.bool false) (by omega)) (B := K21) 1 (.slice a22 n22 c22) (by omega)
                          obtain ⟨x0, x1'⟩ := Row.duo R622
                          have zf := Row.frozen R622
                          refine wpM_one 10 rfl (by kernel_rfl) rfl ?_
                          go_wp2_with fail
                          refine ⟨fun _ => Sb, ?_⟩
                          clear x0 x1' zf R622 R722 D22 E22 S22
                          generalize (v22.setCell ⟨K21, 0, none⟩ (.bool false)).setCell ⟨K21, 1, none⟩ (.slice a22 n22 c22) = V9 at *
                          have O7 := Row.set2 P7 (.bool false) (.slice e22 f22 g22)
                          have O6 := (Row.other P6 (K := K17) (by omega) 0 (.bool false)).other (K := K17) (by omega) 1 (.slice e22 f22 g22)
                          have Eq := Dq.store P7 (.bool false) (.slice e22 f22 g22)
                          have Er := Dr.store P7 (.bool false) (.slice e22 f22 g22)
                          have Sc := below_set (below_set Sb (B := K17) 0 (.bool false) (by omega)) (B := K17) 1 (.slice e22 f22 g22) (by omega)
                          obtain ⟨x0, x1'⟩ := Row.duo P7
                          have zf := Row.frozen P7
                          refine wpM_one 11 rfl (by kernel_rfl) rfl ?_
                          go_wp2_with fail
                          refine ⟨fun _ => Sc, ?_⟩
                          refine wpM_done (by kernel_rfl) ?_
                          go_wp2_with fail
                          go_meet
                          exact ⟨K21, K17, a22, n22, c22, e22, f22, g22, rfl, rfl, hne23, by omega, by omega, O6, O7, Eq, Er, Sc⟩
                    · go_wp2_with fail
                      have R624 := Row.new v1 45 #[.bool false, .slice none 0 0]
                      have S24 : Below wr.heap.size wr (v1.alloc (.cells #[.bool false, .slice none 0 0] 45)) := S1.alloc S1.size _
                      have L24 : wr.heap.size ≤ v1.heap.size := S1.size
                      have D24 := D1.below ((Below.refl _ v1).alloc (Nat.le_refl _) (.cells #[.bool false, .slice none 0 0] 45))
                      refine ⟨fun _ => S24, ?_⟩
                      clear S1 D1 
                      generalize v1.alloc (.cells #[.bool false, .slice none 0 0] 45) = v24 at *
                      generalize v1.heap.size = K24 at *
                      refine wpM_two 1 9 rfl rfl (by kernel_rfl) rfl rfl ?_ ?_
                      · go_wp2_with fail
                        refine Calls.mono (H2 _ _ _ _ D24).out ?_
                        rintro _ v25 ⟨a25, n25, c25, rfl, D25, b25⟩
                        have S25 : Below wr.heap.size wr v25 := S24.trans (b25.mono S24.size)
                        have R625 := R624.below b25 R624.lt
                        clear b25
                        go_wp2_with fail
                        refine ⟨fun _ => S25, ?_⟩
                        refine wpM_two 4 9 rfl rfl (by kernel_rfl) rfl rfl ?_ ?_
                        · go_wp2_with fail
                          refine Calls.mono (H3 _ _ _ _ S25 D25).out ?_
                          rintro _ v26 ⟨a26, n26, c26, e26, f26, g26, rfl, D26, E26, b26⟩
                          have S26 : Below wr.heap.size wr v26 := S25.trans (b26.mono S25.size)
                          have R626 := R625.below b26 R625.lt
                          clear b26
                          go_wp2_with fail
                          refine ⟨fun _ => S26, ?_⟩
                          refine wpM_held 5 (v := .tuple #[.agg #[.bool false, .slice a26 n26 c26], .agg #[.bool false, .slice e26 f26 g26]]) rfl (by kernel_rfl) (by kernel_rfl) rfl (fun _ _ _ h => h) rfl (by intro wx hx; go_simp <;> rfl) S26 ?_
                          refine wpM_held 6 (v := .agg #[.bool false, .slice a26 n26 c26]) rfl (by kernel_rfl) (by kernel_rfl) rfl (fun _ _ _ h => h) rfl (by intro wx hx; go_simp <;> rfl) S26 ?_
                          refine wpM_held 7 (v := .agg #[.bool false, .slice e26 f26 g26]) rfl (by kernel_rfl) (by kernel_rfl) rfl (fun _ _ _ h => h) rfl (by intro wx hx; go_simp <;> rfl) S26 ?_
                          refine wpM_one 9 rfl (by kernel_rfl) rfl ?_
                          go_wp2_with fail
                          have R727 := Row.new v26 45 #[.bool false, .slice none 0 0]
                          have S27 : Below wr.heap.size wr (v26.alloc (.cells #[.bool false, .slice none 0 0] 45)) := S26.alloc S26.size _
                          have L27 : wr.heap.size ≤ v26.heap.size := S26.size
                          have N27 := R626.lt
                          have R627 := R626.alloc (.cells #[.bool false, .slice none 0 0] 45)
                          have D27 := D26.below ((Below.refl _ v26).alloc (Nat.le_refl _) (.cells #[.bool false, .slice none 0 0] 45))
                          have E27 := E26.below ((Below.refl _ v26).alloc (Nat.le_refl _) (.cells #[.bool false, .slice none 0 0] 45))
                          refine ⟨fun _ => S27, ?_⟩
                          clear S26 D26 E26 R626
                          generalize v26.alloc (.cells #[.bool false, .slice none 0 0] 45) = v27 at *
                          generalize v26.heap.size = K27 at *
                          have hne28 : K24 ≠ K27 := by omega
                          have P6 := Row.set2 R627 (.bool false) (.slice a26 n26 c26)
                          have P7 := (Row.other R727 (K := K24) (by omega) 0 (.bool false)).other (K := K24) (by omega) 1 (.slice a26 n26 c26)
                          have Dq := D27.store R627 (.bool false) (.slice a26 n26 c26)
                          have Dr := E27.store R627 (.bool false) (.slice a26 n26 c26)
                          have Sb := below_set (below_set S27 (B := K24) 0 (.bool false) (by omega)) (B := K24) 1 (.slice a26 n26 c26) (by omega)
                          obtain ⟨x0, x1'⟩ := Row.duo R627
                          have zf := Row.frozen R627
                          refine wpM_one 10 rfl (by kernel_rfl) rfl ?_
                          go_wp2_with fail
                          refine ⟨fun _ => Sb, ?_⟩
                          clear x0 x1' zf R627 R727 D27 E27 S27
                          generalize (v27.setCell ⟨K24, 0, none⟩ (.bool false)).setCell ⟨K24, 1, none⟩ (.slice a26 n26 c26) = V9 at *
                          have O7 := Row.set2 P7 (.bool false) (.slice e26 f26 g26)
                          have O6 := (Row.other P6 (K := K27) (by omega) 0 (.bool false)).other (K := K27) (by omega) 1 (.slice e26 f26 g26)
                          have Eq := Dq.store P7 (.bool false) (.slice e26 f26 g26)
                          have Er := Dr.store P7 (.bool false) (.slice e26 f26 g26)
                          have Sc := below_set (below_set Sb (B := K27) 0 (.bool false) (by omega)) (B := K27) 1 (.slice e26 f26 g26) (by omega)
                          obtain ⟨x0, x1'⟩ := Row.duo P7
                          have zf := Row.frozen P7
                          refine wpM_one 11 rfl (by kernel_rfl) rfl ?_
                          go_wp2_with fail
                          refine ⟨fun _ => Sc, ?_⟩
                          refine wpM_done (by kernel_rfl) ?_
                          go_wp2_with fail
                          go_meet
                          exact ⟨K24, K27, a26, n26, c26, e26, f26, g26, rfl, rfl, hne28, by omega, by omega, O6, O7, Eq, Er, Sc⟩
                        · go_wp2_with fail
                          have R729 := Row.new v25 45 #[.bool false, .slice none 0 0]
                          have S29 : Below wr.heap.size wr (v25.alloc (.cells #[.bool false, .slice none 0 0] 45)) := S25.alloc S25.size _
                          have L29 : wr.heap.size ≤ v25.heap.size := S25.size
                          have N29 := R625.lt
                          have R629 := R625.alloc (.cells #[.bool false, .slice none 0 0] 45)
                          have D29 := D25.below ((Below.refl _ v25).alloc (Nat.le_refl _) (.cells #[.bool false, .slice none 0 0] 45))
                          refine ⟨fun _ => S29, ?_⟩
                          clear S25 D25 R625
                          generalize v25.alloc (.cells #[.bool false, .slice none 0 0] 45) = v29 at *
                          generalize v25.heap.size = K29 at *
                          refine wpM_one 4 rfl (by kernel_rfl) rfl ?_
                          go_wp2_with fail
                          refine Calls.mono (H3 _ _ _ _ S29 D29).out ?_
                          rintro _ v30 ⟨a30, n30, c30, e30, f30, g30, rfl, D30, E30, b30⟩
                          have S30 : Below wr.heap.size wr v30 := S29.trans (b30.mono S29.size)
                          have R630 := R629.below b30 R629.lt
                          have R730 := R729.below b30 R729.lt
                          clear b30
                          go_wp2_with fail
                          refine ⟨fun _ => S30, ?_⟩
                          refine wpM_held 5 (v := .tuple #[.agg #[.bool false, .slice a30 n30 c30], .agg #[.bool false, .slice e30 f30 g30]]) rfl (by kernel_rfl) (by kernel_rfl) rfl (fun _ _ _ h => h) rfl (by intro wx hx; go_simp <;> rfl) S30 ?_
                          refine wpM_held 6 (v := .agg #[.bool false, .slice a30 n30 c30]) rfl (by kernel_rfl) (by kernel_rfl) rfl (fun _ _ _ h => h) rfl (by intro wx hx; go_simp <;> rfl) S30 ?_
                          refine wpM_held 7 (v := .agg #[.bool false, .slice e30 f30 g30]) rfl (by kernel_rfl) (by kernel_rfl) rfl (fun _ _ _ h => h) rfl (by intro wx hx; go_simp <;> rfl) S30 ?_
                          have hne31 : K24 ≠ K29 := by omega
                          have P6 := Row.set2 R630 (.bool false) (.slice a30 n30 c30)
                          have P7 := (Row.other R730 (K := K24) (by omega) 0 (.bool false)).other (K := K24) (by omega) 1 (.slice a30 n30 c30)
                          have Dq := D30.store R630 (.bool false) (.slice a30 n30 c30)
                          have Dr := E30.store R630 (.bool false) (.slice a30 n30 c30)
                          have Sb := below_set (below_set S30 (B := K24) 0 (.bool false) (by omega)) (B := K24) 1 (.slice a30 n30 c30) (by omega)
                          obtain ⟨x0, x1'⟩ := Row.duo R630
                          have zf := Row.frozen R630
                          refine wpM_one 10 rfl (by kernel_rfl) rfl ?_
                          go_wp2_with fail
                          refine ⟨fun _ => Sb, ?_⟩
                          clear x0 x1' zf R630 R730 D30 E30 S30
                          generalize (v30.setCell ⟨K24, 0, none⟩ (.bool false)).setCell ⟨K24, 1, none⟩ (.slice a30 n30 c30) = V9 at *
                          have O7 := Row.set2 P7 (.bool false) (.slice e30 f30 g30)
                          have O6 := (Row.other P6 (K := K29) (by omega) 0 (.bool false)).other (K := K29) (by omega) 1 (.slice e30 f30 g30)
                          have Eq := Dq.store P7 (.bool false) (.slice e30 f30 g30)
                          have Er := Dr.store P7 (.bool false) (.slice e30 f30 g30)
                          have Sc := below_set (below_set Sb (B := K29) 0 (.bool false) (by omega)) (B := K29) 1 (.slice e30 f30 g30) (by omega)
                          obtain ⟨x0, x1'⟩ := Row.duo P7
                          have zf := Row.frozen P7
                          refine wpM_one 11 rfl (by kernel_rfl) rfl ?_
                          go_wp2_with fail
                          refine ⟨fun _ => Sc, ?_⟩
                          refine wpM_done (by kernel_rfl) ?_
                          go_wp2_with fail
                          go_meet
                          exact ⟨K24, K29, a30, n30, c30, e30, f30, g30, rfl, rfl, hne31, by omega, by omega, O6, O7, Eq, Er, Sc⟩
                      · go_wp2_with fail
                        have R732 := Row.new v24 45 #[.bool false, .slice none 0 0]
                        have S32 : Below wr.heap.size wr (v24.alloc (.cells #[.bool false, .slice none 0 0] 45)) := S24.alloc S24.size _
                        have L32 : wr.heap.size ≤ v24.heap.size := S24.size
                        have N32 := R624.lt
                        have R632 := R624.alloc (.cells #[.bool false, .slice none 0 0] 45)
                        have D32 := D24.below ((Below.refl _ v24).alloc (Nat.le_refl _) (.cells #[.bool false, .slice none 0 0] 45))
                        refine ⟨fun _ => S32, ?_⟩
                        clear S24 D24 R624
                        generalize v24.alloc (.cells #[.bool false, .slice none 0 0] 45) = v32 at *
                        generalize v24.heap.size = K32 at *
                        refine wpM_one 1 rfl (by kernel_rfl) rfl ?_
                        go_wp2_with fail
                        refine Calls.mono (H2 _ _ _ _ D32).out ?_
                        rintro _ v33 ⟨a33, n33, c33, rfl, D33, b33⟩
                        have S33 : Below wr.heap.size wr v33 := S32.trans (b33.mono S32.size)
                        have R633 := R632.below b33 R632.lt
                        have R733 := R732.below b33 R732.lt
                        clear b33
                        go_wp2_with fail
                        refine ⟨fun _ => S33, ?_⟩
                        refine wpM_one 4 rfl (by kernel_rfl) rfl ?_
                        go_wp2_with fail
                        refine Calls.mono (H3 _ _ _ _ S33 D33).out ?_
                        rintro _ v34 ⟨a34, n34, c34, e34, f34, g34, rfl, D34, E34, b34⟩
                        have S34 : Below wr.heap.size wr v34 := S33.trans (b34.mono S33.size)
                        have R634 := R633.below b34 R633.lt
                        have R734 := R733.below b34 R733.lt
                        clear b34
                        go_wp2_with fail
                        refine ⟨fun _ => S34, ?_⟩
                        refine wpM_held 5 (v := .tuple #[.agg #[.bool false, .slice a34 n34 c34], .agg #[.bool false, .slice e34 f34 g34]]) rfl (by kernel_rfl) (by kernel_rfl) rfl (fun _ _ _ h => h) rfl (by intro wx hx; go_simp <;> rfl) S34 ?_
                        refine wpM_held 6 (v := .agg #[.bool false, .slice a34 n34 c34]) rfl (by kernel_rfl) (by kernel_rfl) rfl (fun _ _ _ h => h) rfl (by intro wx hx; go_simp <;> rfl) S34 ?_
                        refine wpM_held 7 (v := .agg #[.bool false, .slice e34 f34 g34]) rfl (by kernel_rfl) (by kernel_rfl) rfl (fun _ _ _ h => h) rfl (by intro wx hx; go_simp <;> rfl) S34 ?_
                        have hne35 : K24 ≠ K32 := by omega
                        have P6 := Row.set2 R634 (.bool false) (.slice a34 n34 c34)
                        have P7 := (Row.other R734 (K := K24) (by omega) 0 (.bool false)).other (K := K24) (by omega) 1 (.slice a34 n34 c34)
                        have Dq := D34.store R634 (.bool false) (.slice a34 n34 c34)
                        have Dr := E34.store R634 (.bool false) (.slice a34 n34 c34)
                        have Sb := below_set (below_set S34 (B := K24) 0 (.bool false) (by omega)) (B := K24) 1 (.slice a34 n34 c34) (by omega)
                        obtain ⟨x0, x1'⟩ := Row.duo R634
                        have zf := Row.frozen R634
                        refine wpM_one 10 rfl (by kernel_rfl) rfl ?_
                        go_wp2_with fail
                        refine ⟨fun _ => Sb, ?_⟩
                        clear x0 x1' zf R634 R734 D34 E34 S34
                        generalize (v34.setCell ⟨K24, 0, none⟩ (.bool false)).setCell ⟨K24, 1, none⟩ (.slice a34 n34 c34) = V9 at *
                        have O7 := Row.set2 P7 (.bool false) (.slice e34 f34 g34)
                        have O6 := (Row.other P6 (K := K32) (by omega) 0 (.bool false)).other (K := K32) (by omega) 1 (.slice e34 f34 g34)
                        have Eq := Dq.store P7 (.bool false) (.slice e34 f34 g34)
                        have Er := Dr.store P7 (.bool false) (.slice e34 f34 g34)
                        have Sc := below_set (below_set Sb (B := K32) 0 (.bool false) (by omega)) (B := K32) 1 (.slice e34 f34 g34) (by omega)
                        obtain ⟨x0, x1'⟩ := Row.duo P7
                        have zf := Row.frozen P7
                        refine wpM_one 11 rfl (by kernel_rfl) rfl ?_
                        go_wp2_with fail
                        refine ⟨fun _ => Sc, ?_⟩
                        refine wpM_done (by kernel_rfl) ?_
                        go_wp2_with fail
                        go_meet
                        exact ⟨K24, K32, a34, n34, c34, e34, f34, g34, rfl, rfl, hne35, by omega, by omega, O6, O7, Eq, Er, Sc⟩
                    · go_wp2_with fail
                      have R736 := Row.new v1 45 #[.bool false, .slice none 0 0]
                      have S36 : Below wr.heap.size wr (v1.alloc (.cells #[.bool false, .slice none 0 0] 45)) := S1.alloc S1.size _
                      have L36 : wr.heap.size ≤ v1.heap.size := S1.size
                      have D36 := D1.below ((Below.refl _ v1).alloc (Nat.le_refl _) (.cells #[.bool false, .slice none 0 0] 45))
                      refine ⟨fun _ => S36, ?_⟩
                      clear S1 D1 
                      generalize v1.alloc (.cells #[.bool false, .slice none 0 0] 45) = v36 at *
                      generalize v1.heap.size = K36 at *
                      refine wpM_two 1 8 rfl rfl (by kernel_rfl) rfl rfl ?_ ?_
                      · go_wp2_with fail
                        refine Calls.mono (H2 _ _ _ _ D36).out ?_
                        rintro _ v37 ⟨a37, n37, c37, rfl, D37, b37⟩
                        have S37 : Below wr.heap.size wr v37 := S36.trans (b37.mono S36.size)
                        have R737 := R736.below b37 R736.lt
                        clear b37
                        go_wp2_with fail
                        refine ⟨fun _ => S37, ?_⟩
                        refine wpM_two 4 8 rfl rfl (by kernel_rfl) rfl rfl ?_ ?_
                        · go_wp2_with fail
                          refine Calls.mono (H3 _ _ _ _ S37 D37).out ?_
                          rintro _ v38 ⟨a38, n38, c38, e38, f38, g38, rfl, D38, E38, b38⟩
                          have S38 : Below wr.heap.size wr v38 := S37.trans (b38.mono S37.size)
                          have R738 := R737.below b38 R737.lt
                          clear b38
                          go_wp2_with fail
                          refine ⟨fun _ => S38, ?_⟩
                          refine wpM_held 5 (v := .tuple #[.agg #[.bool false, .slice a38 n38 c38], .agg #[.bool false, .slice e38 f38 g38]]) rfl (by kernel_rfl) (by kernel_rfl) rfl (fun _ _ _ h => h) rfl (by intro wx hx; go_simp <;> rfl) S38 ?_
                          refine wpM_held 6 (v := .agg #[.bool false, .slice a38 n38 c38]) rfl (by kernel_rfl) (by kernel_rfl) rfl (fun _ _ _ h => h) rfl (by intro wx hx; go_simp <;> rfl) S38 ?_
                          refine wpM_held 7 (v := .agg #[.bool false, .slice e38 f38 g38]) rfl (by kernel_rfl) (by kernel_rfl) rfl (fun _ _ _ h => h) rfl (by intro wx hx; go_simp <;> rfl) S38 ?_
                          refine wpM_one 8 rfl (by kernel_rfl) rfl ?_
                          go_wp2_with fail
                          have R639 := Row.new v38 45 #[.bool false, .slice none 0 0]
                          have S39 : Below wr.heap.size wr (v38.alloc (.cells #[.bool false, .slice none 0 0] 45)) := S38.alloc S38.size _
                          have L39 : wr.heap.size ≤ v38.heap.size := S38.size
                          have N39 := R738.lt
                          have R739 := R738.alloc (.cells #[.bool false, .slice none 0 0] 45)
                          have D39 := D38.below ((Below.refl _ v38).alloc (Nat.le_refl _) (.cells #[.bool false, .slice none 0 0] 45))
                          have E39 := E38.below ((Below.refl _ v38).alloc (Nat.le_refl _) (.cells #[.bool false, .slice none 0 0] 45))
                          refine ⟨fun _ => S39, ?_⟩
                          clear S38 D38 E38 R738
                          generalize v38.alloc (.cells #[.bool false, .slice none 0 0] 45) = v39 at *
                          generalize v38.heap.size = K39 at *
                          have hne40 : K39 ≠ K36 := by omega
                          have P6 := Row.set2 R639 (.bool false) (.slice a38 n38 c38)
                          have P7 := (Row.other R739 (K := K39) (by omega) 0 (.bool false)).other (K := K39) (by omega) 1 (.slice a38 n38 c38)
                          have Dq := D39.store R639 (.bool false) (.slice a38 n38 c38)
                          have Dr := E39.store R639 (.bool false) (.slice a38 n38 c38)
                          have Sb := below_set (below_set S39 (B := K39) 0 (.bool false) (by omega)) (B := K39) 1 (.slice a38 n38 c38) (by omega)
                          obtain ⟨x0, x1'⟩ := Row.duo R639
                          have zf := Row.frozen R639
                          refine wpM_one 10 rfl (by kernel_rfl) rfl ?_
                          go_wp2_with fail
                          refine ⟨fun _ => Sb, ?_⟩
                          clear x0 x1' zf R639 R739 D39 E39 S39
                          generalize (v39.setCell ⟨K39, 0, none⟩ (.bool false)).setCell ⟨K39, 1, none⟩ (.slice a38 n38 c38) = V9 at *
                          have O7 := Row.set2 P7 (.bool false) (.slice e38 f38 g38)
                          have O6 := (Row.other P6 (K := K36) (by omega) 0 (.bool false)).other (K := K36) (by omega) 1 (.slice e38 f38 g38)
                          have Eq := Dq.store P7 (.bool false) (.slice e38 f38 g38)
                          have Er := Dr.store P7 (.bool false) (.slice e38 f38 g38)
                          have Sc := below_set (below_set Sb (B := K36) 0 (.bool false) (by omega)) (B := K36) 1 (.slice e38 f38 g38) (by omega)
                          obtain ⟨x0, x1'⟩ := Row.duo P7
                          have zf := Row.frozen P7
                          refine wpM_one 11 rfl (by kernel_rfl) rfl ?_
                          go_wp2_with fail
                          refine ⟨fun _ => Sc, ?_⟩
                          refine wpM_done (by kernel_rfl) ?_
                          go_wp2_with fail
                          go_meet
                          exact ⟨K39, K36, a38, n38, c38, e38, f38, g38, rfl, rfl, hne40, by omega, by omega, O6, O7, Eq, Er, Sc⟩
                        · go_wp2_with fail
                          have R641 := Row.new v37 45 #[.bool false, .slice none 0 0]
                          have S41 : Below wr.heap.size wr (v37.alloc (.cells #[.bool false, .slice none 0 0] 45)) := S37.alloc S37.size _
                          have L41 : wr.heap.size ≤ v37.heap.size := S37.size
                          have N41 := R737.lt
                          have R741 := R737.alloc (.cells #[.bool false, .slice none 0 0] 45)
                          have D41 := D37.below ((Below.refl _ v37).alloc (Nat.le_refl _) (.cells #[.bool false, .slice none 0 0] 45))
                          refine ⟨fun _ => S41, ?_⟩
                          clear S37 D37 R737
                          generalize v37.alloc (.cells #[.bool false, .slice none 0 0] 45) = v41 at *
                          generalize v37.heap.size = K41 at *
                          refine wpM_one 4 rfl (by kernel_rfl) rfl ?_
                          go_wp2_with fail
                          refine Calls.mono (H3 _ _ _ _ S41 D41).out ?_
                          rintro _ v42 ⟨a42, n42, c42, e42, f42, g42, rfl, D42, E42, b42⟩
                          have S42 : Below wr.heap.size wr v42 := S41.trans (b42.mono S41.size)
                          have R742 := R741.below b42 R741.lt
                          have R642 := R641.below b42 R641.lt
                          clear b42
                          go_wp2_with fail
                          refine ⟨fun _ => S42, ?_⟩
                          refine wpM_held 5 (v := .tuple #[.agg #[.bool false, .slice a42 n42 c42], .agg #[.bool false, .slice e42 f42 g42]]) rfl (by kernel_rfl) (by kernel_rfl) rfl (fun _ _ _ h => h) rfl (by intro wx hx; go_simp <;> rfl) S42 ?_
                          refine wpM_held 6 (v := .agg #[.bool false, .slice a42 n42 c42]) rfl (by kernel_rfl) (by kernel_rfl) rfl (fun _ _ _ h => h) rfl (by intro wx hx; go_simp <;> rfl) S42 ?_
                          refine wpM_held 7 (v := .agg #[.bool false, .slice e42 f42 g42]) rfl (by kernel_rfl) (by kernel_rfl) rfl (fun _ _ _ h => h) rfl (by intro wx hx; go_simp <;> rfl) S42 ?_
                          have hne43 : K41 ≠ K36 := by omega
                          have P6 := Row.set2 R642 (.bool false) (.slice a42 n42 c42)
                          have P7 := (Row.other R742 (K := K41) (by omega) 0 (.bool false)).other (K := K41) (by omega) 1 (.slice a42 n42 c42)
                          have Dq := D42.store R642 (.bool false) (.slice a42 n42 c42)
                          have Dr := E42.store R642 (.bool false) (.slice a42 n42 c42)
                          have Sb := below_set (below_set S42 (B := K41) 0 (.bool false) (by omega)) (B := K41) 1 (.slice a42 n42 c42) (by omega)
                          obtain ⟨x0, x1'⟩ := Row.duo R642
                          have zf := Row.frozen R642
                          refine wpM_one 10 rfl (by kernel_rfl) rfl ?_
                          go_wp2_with fail
                          refine ⟨fun _ => Sb, ?_⟩
                          clear x0 x1' zf R642 R742 D42 E42 S42
                          generalize (v42.setCell ⟨K41, 0, none⟩ (.bool false)).setCell ⟨K41, 1, none⟩ (.slice a42 n42 c42) = V9 at *
                          have O7 := Row.set2 P7 (.bool false) (.slice e42 f42 g42)
                          have O6 := (Row.other P6 (K := K36) (by omega) 0 (.bool false)).other (K := K36) (by omega) 1 (.slice e42 f42 g42)
                          have Eq := Dq.store P7 (.bool false) (.slice e42 f42 g42)
                          have Er := Dr.store P7 (.bool false) (.slice e42 f42 g42)
                          have Sc := below_set (below_set Sb (B := K36) 0 (.bool false) (by omega)) (B := K36) 1 (.slice e42 f42 g42) (by omega)
                          obtain ⟨x0, x1'⟩ := Row.duo P7
                          have zf := Row.frozen P7
                          refine wpM_one 11 rfl (by kernel_rfl) rfl ?_
                          go_wp2_with fail
                          refine ⟨fun _ => Sc, ?_⟩
                          refine wpM_done (by kernel_rfl) ?_
                          go_wp2_with fail
                          go_meet
                          exact ⟨K41, K36, a42, n42, c42, e42, f42, g42, rfl, rfl, hne43, by omega, by omega, O6, O7, Eq, Er, Sc⟩
                      · go_wp2_with fail
                        have R644 := Row.new v36 45 #[.bool false, .slice none 0 0]
                        have S44 : Below wr.heap.size wr (v36.alloc (.cells #[.bool false, .slice none 0 0] 45)) := S36.alloc S36.size _
                        have L44 : wr.heap.size ≤ v36.heap.size := S36.size
                        have N44 := R736.lt
                        have R744 := R736.alloc (.cells #[.bool false, .slice none 0 0] 45)
                        have D44 := D36.below ((Below.refl _ v36).alloc (Nat.le_refl _) (.cells #[.bool false, .slice none 0 0] 45))
                        refine ⟨fun _ => S44, ?_⟩
                        clear S36 D36 R736
                        generalize v36.alloc (.cells #[.bool false, .slice none 0 0] 45) = v44 at *
                        generalize v36.heap.size = K44 at *
                        refine wpM_one 1 rfl (by kernel_rfl) rfl ?_
                        go_wp2_with fail
                        refine Calls.mono (H2 _ _ _ _ D44).out ?_
                        rintro _ v45 ⟨a45, n45, c45, rfl, D45, b45⟩
                        have S45 : Below wr.heap.size wr v45 := S44.trans (b45.mono S44.size)
                        have R745 := R744.below b45 R744.lt
                        have R645 := R644.below b45 R644.lt
                        clear b45
                        go_wp2_with fail
                        refine ⟨fun _ => S45, ?_⟩
                        refine wpM_one 4 rfl (by kernel_rfl) rfl ?_
                        go_wp2_with fail
                        refine Calls.mono (H3 _ _ _ _ S45 D45).out ?_
                        rintro _ v46 ⟨a46, n46, c46, e46, f46, g46, rfl, D46, E46, b46⟩
                        have S46 : Below wr.heap.size wr v46 := S45.trans (b46.mono S45.size)
                        have R746 := R745.below b46 R745.lt
                        have R646 := R645.below b46 R645.lt
                        clear b46
                        go_wp2_with fail
                        refine ⟨fun _ => S46, ?_⟩
                        refine wpM_held 5 (v := .tuple #[.agg #[.bool false, .slice a46 n46 c46], .agg #[.bool false, .slice e46 f46 g46]]) rfl (by kernel_rfl) (by kernel_rfl) rfl (fun _ _ _ h => h) rfl (by intro wx hx; go_simp <;> rfl) S46 ?_
                        refine wpM_held 6 (v := .agg #[.bool false, .slice a46 n46 c46]) rfl (by kernel_rfl) (by kernel_rfl) rfl (fun _ _ _ h => h) rfl (by intro wx hx; go_simp <;> rfl) S46 ?_
                        refine wpM_held 7 (v := .agg #[.bool false, .slice e46 f46 g46]) rfl (by kernel_rfl) (by kernel_rfl) rfl (fun _ _ _ h => h) rfl (by intro wx hx; go_simp <;> rfl) S46 ?_
                        have hne47 : K44 ≠ K36 := by omega
                        have P6 := Row.set2 R646 (.bool false) (.slice a46 n46 c46)
                        have P7 := (Row.other R746 (K := K44) (by omega) 0 (.bool false)).other (K := K44) (by omega) 1 (.slice a46 n46 c46)
                        have Dq := D46.store R646 (.bool false) (.slice a46 n46 c46)
                        have Dr := E46.store R646 (.bool false) (.slice a46 n46 c46)
                        have Sb := below_set (below_set S46 (B := K44) 0 (.bool false) (by omega)) (B := K44) 1 (.slice a46 n46 c46) (by omega)
                        obtain ⟨x0, x1'⟩ := Row.duo R646
                        have zf := Row.frozen R646
                        refine wpM_one 10 rfl (by kernel_rfl) rfl ?_
                        go_wp2_with fail
                        refine ⟨fun _ => Sb, ?_⟩
                        clear x0 x1' zf R646 R746 D46 E46 S46
                        generalize (v46.setCell ⟨K44, 0, none⟩ (.bool false)).setCell ⟨K44, 1, none⟩ (.slice a46 n46 c46) = V9 at *
                        have O7 := Row.set2 P7 (.bool false) (.slice e46 f46 g46)
                        have O6 := (Row.other P6 (K := K36) (by omega) 0 (.bool false)).other (K := K36) (by omega) 1 (.slice e46 f46 g46)
                        have Eq := Dq.store P7 (.bool false) (.slice e46 f46 g46)
                        have Er := Dr.store P7 (.bool false) (.slice e46 f46 g46)
                        have Sc := below_set (below_set Sb (B := K36) 0 (.bool false) (by omega)) (B := K36) 1 (.slice e46 f46 g46) (by omega)
                        obtain ⟨x0, x1'⟩ := Row.duo P7
                        have zf := Row.frozen P7
                        refine wpM_one 11 rfl (by kernel_rfl) rfl ?_
                        go_wp2_with fail
                        refine ⟨fun _ => Sc, ?_⟩
                        refine wpM_done (by kernel_rfl) ?_
                        go_wp2_with fail
                        go_meet
                        exact ⟨K44, K36, a46, n46, c46, e46, f46, g46, rfl, rfl, hne47, by omega, by omega, O6, O7, Eq, Er, Sc⟩
                  · go_wp2_with fail
                    have R648 : Row (wr.alloc (.cells #[.bool false, .slice none 0 0] 45)).drew wr.heap.size 45 #[.bool false, .slice none 0 0] := Row.new wr 45 #[.bool false, .slice none 0 0]
                    have S48 : Below wr.heap.size wr (wr.alloc (.cells #[.bool false, .slice none 0 0] 45)).drew := ((Below.refl _ wr).alloc (Nat.le_refl _) _).drew
                    refine ⟨fun _ => S48, ?_⟩
                    generalize (wr.alloc (.cells #[.bool false, .slice none 0 0] 45)).drew = v48 at *
                    have L48 : wr.heap.size ≤ wr.heap.size := Nat.le_refl _
                    refine wpM_two 0 9 rfl rfl (by kernel_rfl) rfl rfl ?_ ?_
                    · go_wp2_with fail
                      refine Calls.mono (H1 _).out ?_
                      rintro _ v49 ⟨a49, n49, c49, rfl, D49, b49⟩
                      have S49 : Below wr.heap.size wr v49 := S48.trans (b49.mono S48.size)
                      have R649 := R648.below b49 R648.lt
                      clear b49
                      go_wp2_with fail
                      refine ⟨fun _ => S49, ?_⟩
                      refine wpM_two 1 9 rfl rfl (by kernel_rfl) rfl rfl ?_ ?_
                      · go_wp2_with fail
                        refine Calls.mono (H2 _ _ _ _ D49).out ?_
                        rintro _ v50 ⟨a50, n50, c50, rfl, D50, b50⟩
                        have S50 : Below wr.heap.size wr v50 := S49.trans (b50.mono S49.size)
                        have R650 := R649.below b50 R649.lt
                        clear b50
                        go_wp2_with fail
                        refine ⟨fun _ => S50, ?_⟩
                        refine wpM_two 4 9 rfl rfl (by kernel_rfl) rfl rfl ?_ ?_
                        · go_wp2_with fail
                          refine Calls.mono (H3 _ _ _ _ S50 D50).out ?_
                          rintro _ v51 ⟨a51, n51, c51, e51, f51, g51, rfl, D51, E51, b51⟩
                          have S51 : Below wr.heap.size wr v51 := S50.trans (b51.mono S50.size)
                          have R651 := R650.below b51 R650.lt
                          clear b51
                          go_wp2_with fail
                          refine ⟨fun _ => S51, ?_⟩
                          refine wpM_held 5 (v := .tuple #[.agg #[.bool false, .slice a51 n51 c51], .agg #[.bool false, .slice e51 f51 g51]]) rfl (by kernel_rfl) (by kernel_rfl) rfl (fun _ _ _ h => h) rfl (by intro wx hx; go_simp <;> rfl) S51 ?_
                          refine wpM_held 6 (v := .agg #[.bool false, .slice a51 n51 c51]) rfl (by kernel_rfl) (by kernel_rfl) rfl (fun _ _ _ h => h) rfl (by intro wx hx; go_simp <;> rfl) S51 ?_
                          refine wpM_held 7 (v := .agg #[.bool false, .slice e51 f51 g51]) rfl (by kernel_rfl) (by kernel_rfl) rfl (fun _ _ _ h => h) rfl (by intro wx hx; go_simp <;> rfl) S51 ?_
                          refine wpM_one 9 rfl (by kernel_rfl) rfl ?_
                          go_wp2_with fail
                          have R752 := Row.new v51 45 #[.bool false, .slice none 0 0]
                          have S52 : Below wr.heap.size wr (v51.alloc (.cells #[.bool false, .slice none 0 0] 45)) := S51.alloc S51.size _
                          have L52 : wr.heap.size ≤ v51.heap.size := S51.size
                          have N52 := R651.lt
                          have R652 := R651.alloc (.cells #[.bool false, .slice none 0 0] 45)
                          have D52 := D51.below ((Below.refl _ v51).alloc (Nat.le_refl _) (.cells #[.bool false, .slice none 0 0] 45))
                          have E52 := E51.below ((Below.refl _ v51).alloc (Nat.le_refl _) (.cells #[.bool false, .slice none 0 0] 45))
                          refine ⟨fun _ => S52, ?_⟩
                          clear S51 D51 E51 R651
                          generalize v51.alloc (.cells #[.bool false, .slice none 0 0] 45) = v52 at *
                          generalize v51.heap.size = K52 at *
                          have hne53 : wr.heap.size ≠ K52 := by omega
                          have P6 := Row.set2 R652 (.bool false) (.slice a51 n51 c51)
                          have P7 := (Row.other R752 (K := wr.heap.size) (by omega) 0 (.bool false)).other (K := wr.heap.size) (by omega) 1 (.slice a51 n51 c51)
                          have Dq := D52.store R652 (.bool false) (.slice a51 n51 c51)
                          have Dr := E52.store R652 (.bool false) (.slice a51 n51 c51)
                          have Sb := below_set (below_set S52 (B := wr.heap.size) 0 (.bool false) (by omega)) (B := wr.heap.size) 1 (.slice a51 n51 c51) (by omega)
                          obtain ⟨x0, x1'⟩ := Row.duo R652
                          have zf := Row.frozen R652
                          refine wpM_one 10 rfl (by kernel_rfl) rfl ?_
                          go_wp2_with fail
                          refine ⟨fun _ => Sb, ?_⟩
                          clear x0 x1' zf R652 R752 D52 E52 S52
                          generalize (v52.setCell ⟨wr.heap.size, 0, none⟩ (.bool false)).setCell ⟨wr.heap.size, 1, none⟩ (.slice a51 n51 c51) = V9 at *
                          have O7 := Row.set2 P7 (.bool false) (.slice e51 f51 g51)
                          have O6 := (Row.other P6 (K := K52) (by omega) 0 (.bool false)).other (K := K52) (by omega) 1 (.slice e51 f51 g51)
                          have Eq := Dq.store P7 (.bool false) (.slice e51 f51 g51)
                          have Er := Dr.store P7 (.bool false) (.slice e51 f51 g51)
                          have Sc := below_set (below_set Sb (B := K52) 0 (.bool false) (by omega)) (B := K52) 1 (.slice e51 f51 g51) (by omega)
                          obtain ⟨x0, x1'⟩ := Row.duo P7
                          have zf := Row.frozen P7
                          refine wpM_one 11 rfl (by kernel_rfl) rfl ?_
                          go_wp2_with fail
                          refine ⟨fun _ => Sc, ?_⟩
                          refine wpM_done (by kernel_rfl) ?_
                          go_wp2_with fail
                          go_meet
                          exact ⟨wr.heap.size, K52, a51, n51, c51, e51, f51, g51, rfl, rfl, hne53, by omega, by omega, O6, O7, Eq, Er, Sc⟩
                        · go_wp2_with fail
                          have R754 := Row.new v50 45 #[.bool false, .slice none 0 0]
                          have S54 : Below wr.heap.size wr (v50.alloc (.cells #[.bool false, .slice none 0 0] 45)) := S50.alloc S50.size _
                          have L54 : wr.heap.size ≤ v50.heap.size := S50.size
                          have N54 := R650.lt
                          have R654 := R650.alloc (.cells #[.bool false, .slice none 0 0] 45)
                          have D54 := D50.below ((Below.refl _ v50).alloc (Nat.le_refl _) (.cells #[.bool false, .slice none 0 0] 45))
                          refine ⟨fun _ => S54, ?_⟩
                          clear S50 D50 R650
                          generalize v50.alloc (.cells #[.bool false, .slice none 0 0] 45) = v54 at *
                          generalize v50.heap.size = K54 at *
                          refine wpM_one 4 rfl (by kernel_rfl) rfl ?_
                          go_wp2_with fail
                          refine Calls.mono (H3 _ _ _ _ S54 D54).out ?_
                          rintro _ v55 ⟨a55, n55, c55, e55, f55, g55, rfl, D55, E55, b55⟩
                          have S55 : Below wr.heap.size wr v55 := S54.trans (b55.mono S54.size)
                          have R655 := R654.below b55 R654.lt
                          have R755 := R754.below b55 R754.lt
                          clear b55
                          go_wp2_with fail
                          refine ⟨fun _ => S55, ?_⟩
                          refine wpM_held 5 (v := .tuple #[.agg #[.bool false, .slice a55 n55 c55], .agg #[.bool false, .slice e55 f55 g55]]) rfl (by kernel_rfl) (by kernel_rfl) rfl (fun _ _ _ h => h) rfl (by intro wx hx; go_simp <;> rfl) S55 ?_
                          refine wpM_held 6 (v := .agg #[.bool false, .slice a55 n55 c55]) rfl (by kernel_rfl) (by kernel_rfl) rfl (fun _ _ _ h => h) rfl (by intro wx hx; go_simp <;> rfl) S55 ?_
                          refine wpM_held 7 (v := .agg #[.bool false, .slice e55 f55 g55]) rfl (by kernel_rfl) (by kernel_rfl) rfl (fun _ _ _ h => h) rfl (by intro wx hx; go_simp <;> rfl) S55 ?_
                          have hne56 : wr.heap.size ≠ K54 := by omega
                          have P6 := Row.set2 R655 (.bool false) (.slice a55 n55 c55)
                          have P7 := (Row.other R755 (K := wr.heap.size) (by omega) 0 (.bool false)).other (K := wr.heap.size) (by omega) 1 (.slice a55 n55 c55)
                          have Dq := D55.store R655 (.bool false) (.slice a55 n55 c55)
                          have Dr := E55.store R655 (.bool false) (.slice a55 n55 c55)
                          have Sb := below_set (below_set S55 (B := wr.heap.size) 0 (.bool false) (by omega)) (B := wr.heap.size) 1 (.slice a55 n55 c55) (by omega)
                          obtain ⟨x0, x1'⟩ := Row.duo R655
                          have zf := Row.frozen R655
                          refine wpM_one 10 rfl (by kernel_rfl) rfl ?_
                          go_wp2_with fail
                          refine ⟨fun _ => Sb, ?_⟩
                          clear x0 x1' zf R655 R755 D55 E55 S55
                          generalize (v55.setCell ⟨wr.heap.size, 0, none⟩ (.bool false)).setCell ⟨wr.heap.size, 1, none⟩ (.slice a55 n55 c55) = V9 at *
                          have O7 := Row.set2 P7 (.bool false) (.slice e55 f55 g55)
                          have O6 := (Row.other P6 (K := K54) (by omega) 0 (.bool false)).other (K := K54) (by omega) 1 (.slice e55 f55 g55)
                          have Eq := Dq.store P7 (.bool false) (.slice e55 f55 g55)
                          have Er := Dr.store P7 (.bool false) (.slice e55 f55 g55)
                          have Sc := below_set (below_set Sb (B := K54) 0 (.bool false) (by omega)) (B := K54) 1 (.slice e55 f55 g55) (by omega)
                          obtain ⟨x0, x1'⟩ := Row.duo P7
                          have zf := Row.frozen P7
                          refine wpM_one 11 rfl (by kernel_rfl) rfl ?_
                          go_wp2_with fail
                          refine ⟨fun _ => Sc, ?_⟩
                          refine wpM_done (by kernel_rfl) ?_
                          go_wp2_with fail
                          go_meet
                          exact ⟨wr.heap.size, K54, a55, n55, c55, e55, f55, g55, rfl, rfl, hne56, by omega, by omega, O6, O7, Eq, Er, Sc⟩
                      · go_wp2_with fail
                        have R757 := Row.new v49 45 #[.bool false, .slice none 0 0]
                        have S57 : Below wr.heap.size wr (v49.alloc (.cells #[.bool false, .slice none 0 0] 45)) := S49.alloc S49.size _
                        have L57 : wr.heap.size ≤ v49.heap.size := S49.size
                        have N57 := R649.lt
                        have R657 := R649.alloc (.cells #[.bool false, .slice none 0 0] 45)
                        have D57 := D49.below ((Below.refl _ v49).alloc (Nat.le_refl _) (.cells #[.bool false, .slice none 0 0] 45))
                        refine ⟨fun _ => S57, ?_⟩
                        clear S49 D49 R649
                        generalize v49.alloc (.cells #[.bool false, .slice none 0 0] 45) = v57 at *
                        generalize v49.heap.size = K57 at *
                        refine wpM_one 1 rfl (by kernel_rfl) rfl ?_
                        go_wp2_with fail
                        refine Calls.mono (H2 _ _ _ _ D57).out ?_
                        rintro _ v58 ⟨a58, n58, c58, rfl, D58, b58⟩
                        have S58 : Below wr.heap.size wr v58 := S57.trans (b58.mono S57.size)
                        have R658 := R657.below b58 R657.lt
                        have R758 := R757.below b58 R757.lt
                        clear b58
                        go_wp2_with fail
                        refine ⟨fun _ => S58, ?_⟩
                        refine wpM_one 4 rfl (by kernel_rfl) rfl ?_
                        go_wp2_with fail
                        refine Calls.mono (H3 _ _ _ _ S58 D58).out ?_
                        rintro _ v59 ⟨a59, n59, c59, e59, f59, g59, rfl, D59, E59, b59⟩
                        have S59 : Below wr.heap.size wr v59 := S58.trans (b59.mono S58.size)
                        have R659 := R658.below b59 R658.lt
                        have R759 := R758.below b59 R758.lt
                        clear b59
                        go_wp2_with fail
                        refine ⟨fun _ => S59, ?_⟩
                        refine wpM_held 5 (v := .tuple #[.agg #[.bool false, .slice a59 n59 c59], .agg #[.bool false, .slice e59 f59 g59]]) rfl (by kernel_rfl) (by kernel_rfl) rfl (fun _ _ _ h => h) rfl (by intro wx hx; go_simp <;> rfl) S59 ?_
                        refine wpM_held 6 (v := .agg #[.bool false, .slice a59 n59 c59]) rfl (by kernel_rfl) (by kernel_rfl) rfl (fun _ _ _ h => h) rfl (by intro wx hx; go_simp <;> rfl) S59 ?_
                        refine wpM_held 7 (v := .agg #[.bool false, .slice e59 f59 g59]) rfl (by kernel_rfl) (by kernel_rfl) rfl (fun _ _ _ h => h) rfl (by intro wx hx; go_simp <;> rfl) S59 ?_
                        have hne60 : wr.heap.size ≠ K57 := by omega
                        have P6 := Row.set2 R659 (.bool false) (.slice a59 n59 c59)
                        have P7 := (Row.other R759 (K := wr.heap.size) (by omega) 0 (.bool false)).other (K := wr.heap.size) (by omega) 1 (.slice a59 n59 c59)
                        have Dq := D59.store R659 (.bool false) (.slice a59 n59 c59)
                        have Dr := E59.store R659 (.bool false) (.slice a59 n59 c59)
                        have Sb := below_set (below_set S59 (B := wr.heap.size) 0 (.bool false) (by omega)) (B := wr.heap.size) 1 (.slice a59 n59 c59) (by omega)
                        obtain ⟨x0, x1'⟩ := Row.duo R659
                        have zf := Row.frozen R659
                        refine wpM_one 10 rfl (by kernel_rfl) rfl ?_
                        go_wp2_with fail
                        refine ⟨fun _ => Sb, ?_⟩
                        clear x0 x1' zf R659 R759 D59 E59 S59
                        generalize (v59.setCell ⟨wr.heap.size, 0, none⟩ (.bool false)).setCell ⟨wr.heap.size, 1, none⟩ (.slice a59 n59 c59) = V9 at *
                        have O7 := Row.set2 P7 (.bool false) (.slice e59 f59 g59)
                        have O6 := (Row.other P6 (K := K57) (by omega) 0 (.bool false)).other (K := K57) (by omega) 1 (.slice e59 f59 g59)
                        have Eq := Dq.store P7 (.bool false) (.slice e59 f59 g59)
                        have Er := Dr.store P7 (.bool false) (.slice e59 f59 g59)
                        have Sc := below_set (below_set Sb (B := K57) 0 (.bool false) (by omega)) (B := K57) 1 (.slice e59 f59 g59) (by omega)
                        obtain ⟨x0, x1'⟩ := Row.duo P7
                        have zf := Row.frozen P7
                        refine wpM_one 11 rfl (by kernel_rfl) rfl ?_
                        go_wp2_with fail
                        refine ⟨fun _ => Sc, ?_⟩
                        refine wpM_done (by kernel_rfl) ?_
                        go_wp2_with fail
                        go_meet
                        exact ⟨wr.heap.size, K57, a59, n59, c59, e59, f59, g59, rfl, rfl, hne60, by omega, by omega, O6, O7, Eq, Er, Sc⟩
                    · go_wp2_with fail
                      have R761 := Row.new v48 45 #[.bool false, .slice none 0 0]
                      have S61 : Below wr.heap.size wr (v48.alloc (.cells #[.bool false, .slice none 0 0] 45)) := S48.alloc S48.size _
                      have L61 : wr.heap.size ≤ v48.heap.size := S48.size
                      have N61 := R648.lt
                      have R661 := R648.alloc (.cells #[.bool false, .slice none 0 0] 45)
                      refine ⟨fun _ => S61, ?_⟩
                      clear S48  R648
                      generalize v48.alloc (.cells #[.bool false, .slice none 0 0] 45) = v61 at *
                      generalize v48.heap.size = K61 at *
                      refine wpM_one 0 rfl (by kernel_rfl) rfl ?_
                      go_wp2_with fail
                      refine Calls.mono (H1 _).out ?_
                      rintro _ v62 ⟨a62, n62, c62, rfl, D62, b62⟩
                      have S62 : Below wr.heap.size wr v62 := S61.trans (b62.mono S61.size)
                      have R662 := R661.below b62 R661.lt
                      have R762 := R761.below b62 R761.lt
                      clear b62
                      go_wp2_with fail
                      refine ⟨fun _ => S62, ?_⟩
                      refine wpM_one 1 rfl (by kernel_rfl) rfl ?_
                      go_wp2_with fail
                      refine Calls.mono (H2 _ _ _ _ D62).out ?_
                      rintro _ v63 ⟨a63, n63, c63, rfl, D63, b63⟩
                      have S63 : Below wr.heap.size wr v63 := S62.trans (b63.mono S62.size)
                      have R663 := R662.below b63 R662.lt
                      have R763 := R762.below b63 R762.lt
                      clear b63
                      go_wp2_with fail
                      refine ⟨fun _ => S63, ?_⟩
                      refine wpM_one 4 rfl (by kernel_rfl) rfl ?_
                      go_wp2_with fail
                      refine Calls.mono (H3 _ _ _ _ S63 D63).out ?_
                      rintro _ v64 ⟨a64, n64, c64, e64, f64, g64, rfl, D64, E64, b64⟩
                      have S64 : Below wr.heap.size wr v64 := S63.trans (b64.mono S63.size)
                      have R664 := R663.below b64 R663.lt
                      have R764 := R763.below b64 R763.lt
                      clear b64
                      go_wp2_with fail
                      refine ⟨fun _ => S64, ?_⟩
                      refine wpM_held 5 (v := .tuple #[.agg #[.bool false, .slice a64 n64 c64], .agg #[.bool false, .slice e64 f64 g64]]) rfl (by kernel_rfl) (by kernel_rfl) rfl (fun _ _ _ h => h) rfl (by intro wx hx; go_simp <;> rfl) S64 ?_
                      refine wpM_held 6 (v := .agg #[.bool false, .slice a64 n64 c64]) rfl (by kernel_rfl) (by kernel_rfl) rfl (fun _ _ _ h => h) rfl (by intro wx hx; go_simp <;> rfl) S64 ?_
                      refine wpM_held 7 (v := .agg #[.bool false, .slice e64 f64 g64]) rfl (by kernel_rfl) (by kernel_rfl) rfl (fun _ _ _ h => h) rfl (by intro wx hx; go_simp <;> rfl) S64 ?_
                      have hne65 : wr.heap.size ≠ K61 := by omega
                      have P6 := Row.set2 R664 (.bool false) (.slice a64 n64 c64)
                      have P7 := (Row.other R764 (K := wr.heap.size) (by omega) 0 (.bool false)).other (K := wr.heap.size) (by omega) 1 (.slice a64 n64 c64)
                      have Dq := D64.store R664 (.bool false) (.slice a64 n64 c64)
                      have Dr := E64.store R664 (.bool false) (.slice a64 n64 c64)
                      have Sb := below_set (below_set S64 (B := wr.heap.size) 0 (.bool false) (by omega)) (B := wr.heap.size) 1 (.slice a64 n64 c64) (by omega)
                      obtain ⟨x0, x1'⟩ := Row.duo R664
                      have zf := Row.frozen R664
                      refine wpM_one 10 rfl (by kernel_rfl) rfl ?_
                      go_wp2_with fail
                      refine ⟨fun _ => Sb, ?_⟩
                      clear x0 x1' zf R664 R764 D64 E64 S64
                      generalize (v64.setCell ⟨wr.heap.size, 0, none⟩ (.bool false)).setCell ⟨wr.heap.size, 1, none⟩ (.slice a64 n64 c64) = V9 at *
                      have O7 := Row.set2 P7 (.bool false) (.slice e64 f64 g64)
                      have O6 := (Row.other P6 (K := K61) (by omega) 0 (.bool false)).other (K := K61) (by omega) 1 (.slice e64 f64 g64)
                      have Eq := Dq.store P7 (.bool false) (.slice e64 f64 g64)
                      have Er := Dr.store P7 (.bool false) (.slice e64 f64 g64)
                      have Sc := below_set (below_set Sb (B := K61) 0 (.bool false) (by omega)) (B := K61) 1 (.slice e64 f64 g64) (by omega)
                      obtain ⟨x0, x1'⟩ := Row.duo P7
                      have zf := Row.frozen P7
                      refine wpM_one 11 rfl (by kernel_rfl) rfl ?_
                      go_wp2_with fail
                      refine ⟨fun _ => Sc, ?_⟩
                      refine wpM_done (by kernel_rfl) ?_
                      go_wp2_with fail
                      go_meet
                      exact ⟨wr.heap.size, K61, a64, n64, c64, e64, f64, g64, rfl, rfl, hne65, by omega, by omega, O6, O7, Eq, Er, Sc⟩
                  · go_wp2_with fail
                    have R766 : Row (wr.alloc (.cells #[.bool false, .slice none 0 0] 45)).drew wr.heap.size 45 #[.bool false, .slice none 0 0] := Row.new wr 45 #[.bool false, .slice none 0 0]
                    have S66 : Below wr.heap.size wr (wr.alloc (.cells #[.bool false, .slice none 0 0] 45)).drew := ((Below.refl _ wr).alloc (Nat.le_refl _) _).drew
                    refine ⟨fun _ => S66, ?_⟩
                    generalize (wr.alloc (.cells #[.bool false, .slice none 0 0] 45)).drew = v66 at *
                    have L66 : wr.heap.size ≤ wr.heap.size := Nat.le_refl _
                    refine wpM_two 0 8 rfl rfl (by kernel_rfl) rfl rfl ?_ ?_
                    · go_wp2_with fail
                      refine Calls.mono (H1 _).out ?_
                      rintro _ v67 ⟨a67, n67, c67, rfl, D67, b67⟩
                      have S67 : Below wr.heap.size wr v67 := S66.trans (b67.mono S66.size)
                      have R767 := R766.below b67 R766.lt
                      clear b67
                      go_wp2_with fail
                      refine ⟨fun _ => S67, ?_⟩
                      refine wpM_two 1 8 rfl rfl (by kernel_rfl) rfl rfl ?_ ?_
                      · go_wp2_with fail
                        refine Calls.mono (H2 _ _ _ _ D67).out ?_
                        rintro _ v68 ⟨a68, n68, c68, rfl, D68, b68⟩
                        have S68 : Below wr.heap.size wr v68 := S67.trans (b68.mono S67.size)
                        have R768 := R767.below b68 R767.lt
                        clear b68
                        go_wp2_with fail
                        refine ⟨fun _ => S68, ?_⟩
                        refine wpM_two 4 8 rfl rfl (by kernel_rfl) rfl rfl ?_ ?_
                        · go_wp2_with fail
                          refine Calls.mono (H3 _ _ _ _ S68 D68).out ?_
                          rintro _ v69 ⟨a69, n69, c69, e69, f69, g69, rfl, D69, E69, b69⟩
                          have S69 : Below wr.heap.size wr v69 := S68.trans (b69.mono S68.size)
                          have R769 := R768.below b69 R768.lt
                          clear b69
                          go_wp2_with fail
                          refine ⟨fun _ => S69, ?_⟩
                          refine wpM_held 5 (v := .tuple #[.agg #[.bool false, .slice a69 n69 c69], .agg #[.bool false, .slice e69 f69 g69]]) rfl (by kernel_rfl) (by kernel_rfl) rfl (fun _ _ _ h => h) rfl (by intro wx hx; go_simp <;> rfl) S69 ?_
                          refine wpM_held 6 (v := .agg #[.bool false, .slice a69 n69 c69]) rfl (by kernel_rfl) (by kernel_rfl) rfl (fun _ _ _ h => h) rfl (by intro wx hx; go_simp <;> rfl) S69 ?_
                          refine wpM_held 7 (v := .agg #[.bool false, .slice e69 f69 g69]) rfl (by kernel_rfl) (by kernel_rfl) rfl (fun _ _ _ h => h) rfl (by intro wx hx; go_simp <;> rfl) S69 ?_
                          refine wpM_one 8 rfl (by kernel_rfl) rfl ?_
                          go_wp2_with fail
                          have R670 := Row.new v69 45 #[.bool false, .slice none 0 0]
                          have S70 : Below wr.heap.size wr (v69.alloc (.cells #[.bool false, .slice none 0 0] 45)) := S69.alloc S69.size _
                          have L70 : wr.heap.size ≤ v69.heap.size := S69.size
                          have N70 := R769.lt
                          have R770 := R769.alloc (.cells #[.bool false, .slice none 0 0] 45)
                          have D70 := D69.below ((Below.refl _ v69).alloc (Nat.le_refl _) (.cells #[.bool false, .slice none 0 0] 45))
                          have E70 := E69.below ((Below.refl _ v69).alloc (Nat.le_refl _) (.cells #[.bool false, .slice none 0 0] 45))
                          refine ⟨fun _ => S70, ?_⟩
                          clear S69 D69 E69 R769
                          generalize v69.alloc (.cells #[.bool false, .slice none 0 0] 45) = v70 at *
                          generalize v69.heap.size = K70 at *
                          have hne71 : K70 ≠ wr.heap.size := by omega
                          have P6 := Row.set2 R670 (.bool false) (.slice a69 n69 c69)
                          have P7 := (Row.other R770 (K := K70) (by omega) 0 (.bool false)).other (K := K70) (by omega) 1 (.slice a69 n69 c69)
                          have Dq := D70.store R670 (.bool false) (.slice a69 n69 c69)
                          have Dr := E70.store R670 (.bool false) (.slice a69 n69 c69)
                          have Sb := below_set (below_set S70 (B := K70) 0 (.bool false) (by omega)) (B := K70) 1 (.slice a69 n69 c69) (by omega)
                          obtain ⟨x0, x1'⟩ := Row.duo R670
                          have zf := Row.frozen R670
                          refine wpM_one 10 rfl (by kernel_rfl) rfl ?_
                          go_wp2_with fail
                          refine ⟨fun _ => Sb, ?_⟩
                          clear x0 x1' zf R670 R770 D70 E70 S70
                          generalize (v70.setCell ⟨K70, 0, none⟩ (.bool false)).setCell ⟨K70, 1, none⟩ (.slice a69 n69 c69) = V9 at *
                          have O7 := Row.set2 P7 (.bool false) (.slice e69 f69 g69)
                          have O6 := (Row.other P6 (K := wr.heap.size) (by omega) 0 (.bool false)).other (K := wr.heap.size) (by omega) 1 (.slice e69 f69 g69)
                          have Eq := Dq.store P7 (.bool false) (.slice e69 f69 g69)
                          have Er := Dr.store P7 (.bool false) (.slice e69 f69 g69)
                          have Sc := below_set (below_set Sb (B := wr.heap.size) 0 (.bool false) (by omega)) (B := wr.heap.size) 1 (.slice e69 f69 g69) (by omega)
                          obtain ⟨x0, x1'⟩ := Row.duo P7
                          have zf := Row.frozen P7
                          refine wpM_one 11 rfl (by kernel_rfl) rfl ?_
                          go_wp2_with fail
                          refine ⟨fun _ => Sc, ?_⟩
                          refine wpM_done (by kernel_rfl) ?_
                          go_wp2_with fail
                          go_meet
                          exact ⟨K70, wr.heap.size, a69, n69, c69, e69, f69, g69, rfl, rfl, hne71, by omega, by omega, O6, O7, Eq, Er, Sc⟩
                        · go_wp2_with fail
                          have R672 := Row.new v68 45 #[.bool false, .slice none 0 0]
                          have S72 : Below wr.heap.size wr (v68.alloc (.cells #[.bool false, .slice none 0 0] 45)) := S68.alloc S68.size _
                          have L72 : wr.heap.size ≤ v68.heap.size := S68.size
                          have N72 := R768.lt
                          have R772 := R768.alloc (.cells #[.bool false, .slice none 0 0] 45)
                          have D72 := D68.below ((Below.refl _ v68).alloc (Nat.le_refl _) (.cells #[.bool false, .slice none 0 0] 45))
                          refine ⟨fun _ => S72, ?_⟩
                          clear S68 D68 R768
                          generalize v68.alloc (.cells #[.bool false, .slice none 0 0] 45) = v72 at *
                          generalize v68.heap.size = K72 at *
                          refine wpM_one 4 rfl (by kernel_rfl) rfl ?_
                          go_wp2_with fail
                          refine Calls.mono (H3 _ _ _ _ S72 D72).out ?_
                          rintro _ v73 ⟨a73, n73, c73, e73, f73, g73, rfl, D73, E73, b73⟩
                          have S73 : Below wr.heap.size wr v73 := S72.trans (b73.mono S72.size)
                          have R773 := R772.below b73 R772.lt
                          have R673 := R672.below b73 R672.lt
                          clear b73
                          go_wp2_with fail
                          refine ⟨fun _ => S73, ?_⟩
                          refine wpM_held 5 (v := .tuple #[.agg #[.bool false, .slice a73 n73 c73], .agg #[.bool false, .slice e73 f73 g73]]) rfl (by kernel_rfl) (by kernel_rfl) rfl (fun _ _ _ h => h) rfl (by intro wx hx; go_simp <;> rfl) S73 ?_
                          refine wpM_held 6 (v := .agg #[.bool false, .slice a73 n73 c73]) rfl (by kernel_rfl) (by kernel_rfl) rfl (fun _ _ _ h => h) rfl (by intro wx hx; go_simp <;> rfl) S73 ?_
                          refine wpM_held 7 (v := .agg #[.bool false, .slice e73 f73 g73]) rfl (by kernel_rfl) (by kernel_rfl) rfl (fun _ _ _ h => h) rfl (by intro wx hx; go_simp <;> rfl) S73 ?_
                          have hne74 : K72 ≠ wr.heap.size := by omega
                          have P6 := Row.set2 R673 (.bool false) (.slice a73 n73 c73)
                          have P7 := (Row.other R773 (K := K72) (by omega) 0 (.bool false)).other (K := K72) (by omega) 1 (.slice a73 n73 c73)
                          have Dq := D73.store R673 (.bool false) (.slice a73 n73 c73)
                          have Dr := E73.store R673 (.bool false) (.slice a73 n73 c73)
                          have Sb := below_set (below_set S73 (B := K72) 0 (.bool false) (by omega)) (B := K72) 1 (.slice a73 n73 c73) (by omega)
                          obtain ⟨x0, x1'⟩ := Row.duo R673
                          have zf := Row.frozen R673
                          refine wpM_one 10 rfl (by kernel_rfl) rfl ?_
                          go_wp2_with fail
                          refine ⟨fun _ => Sb, ?_⟩
                          clear x0 x1' zf R673 R773 D73 E73 S73
                          generalize (v73.setCell ⟨K72, 0, none⟩ (.bool false)).setCell ⟨K72, 1, none⟩ (.slice a73 n73 c73) = V9 at *
                          have O7 := Row.set2 P7 (.bool false) (.slice e73 f73 g73)
                          have O6 := (Row.other P6 (K := wr.heap.size) (by omega) 0 (.bool false)).other (K := wr.heap.size) (by omega) 1 (.slice e73 f73 g73)
                          have Eq := Dq.store P7 (.bool false) (.slice e73 f73 g73)
                          have Er := Dr.store P7 (.bool false) (.slice e73 f73 g73)
                          have Sc := below_set (below_set Sb (B := wr.heap.size) 0 (.bool false) (by omega)) (B := wr.heap.size) 1 (.slice e73 f73 g73) (by omega)
                          obtain ⟨x0, x1'⟩ := Row.duo P7
                          have zf := Row.frozen P7
                          refine wpM_one 11 rfl (by kernel_rfl) rfl ?_
                          go_wp2_with fail
                          refine ⟨fun _ => Sc, ?_⟩
                          refine wpM_done (by kernel_rfl) ?_
                          go_wp2_with fail
                          go_meet
                          exact ⟨K72, wr.heap.size, a73, n73, c73, e73, f73, g73, rfl, rfl, hne74, by omega, by omega, O6, O7, Eq, Er, Sc⟩
                      · go_wp2_with fail
                        have R675 := Row.new v67 45 #[.bool false, .slice none 0 0]
                        have S75 : Below wr.heap.size wr (v67.alloc (.cells #[.bool false, .slice none 0 0] 45)) := S67.alloc S67.size _
                        have L75 : wr.heap.size ≤ v67.heap.size := S67.size
                        have N75 := R767.lt
                        have R775 := R767.alloc (.cells #[.bool false, .slice none 0 0] 45)
                        have D75 := D67.below ((Below.refl _ v67).alloc (Nat.le_refl _) (.cells #[.bool false, .slice none 0 0] 45))
                        refine ⟨fun _ => S75, ?_⟩
                        clear S67 D67 R767
                        generalize v67.alloc (.cells #[.bool false, .slice none 0 0] 45) = v75 at *
                        generalize v67.heap.size = K75 at *
                        refine wpM_one 1 rfl (by kernel_rfl) rfl ?_
                        go_wp2_with fail
                        refine Calls.mono (H2 _ _ _ _ D75).out ?_
                        rintro _ v76 ⟨a76, n76, c76, rfl, D76, b76⟩
                        have S76 : Below wr.heap.size wr v76 := S75.trans (b76.mono S75.size)
                        have R776 := R775.below b76 R775.lt
                        have R676 := R675.below b76 R675.lt
                        clear b76
                        go_wp2_with fail
                        refine ⟨fun _ => S76, ?_⟩
                        refine wpM_one 4 rfl (by kernel_rfl) rfl ?_
                        go_wp2_with fail
                        refine Calls.mono (H3 _ _ _ _ S76 D76).out ?_
                        rintro _ v77 ⟨a77, n77, c77, e77, f77, g77, rfl, D77, E77, b77⟩
                        have S77 : Below wr.heap.size wr v77 := S76.trans (b77.mono S76.size)
                        have R777 := R776.below b77 R776.lt
                        have R677 := R676.below b77 R676.lt
                        clear b77
                        go_wp2_with fail
                        refine ⟨fun _ => S77, ?_⟩
                        refine wpM_held 5 (v := .tuple #[.agg #[.bool false, .slice a77 n77 c77], .agg #[.bool false, .slice e77 f77 g77]]) rfl (by kernel_rfl) (by kernel_rfl) rfl (fun _ _ _ h => h) rfl (by intro wx hx; go_simp <;> rfl) S77 ?_
                        refine wpM_held 6 (v := .agg #[.bool false, .slice a77 n77 c77]) rfl (by kernel_rfl) (by kernel_rfl) rfl (fun _ _ _ h => h) rfl (by intro wx hx; go_simp <;> rfl) S77 ?_
                        refine wpM_held 7 (v := .agg #[.bool false, .slice e77 f77 g77]) rfl (by kernel_rfl) (by kernel_rfl) rfl (fun _ _ _ h => h) rfl (by intro wx hx; go_simp <;> rfl) S77 ?_
                        have hne78 : K75 ≠ wr.heap.size := by omega
                        have P6 := Row.set2 R677 (.bool false) (.slice a77 n77 c77)
                        have P7 := (Row.other R777 (K := K75) (by omega) 0 (.bool false)).other (K := K75) (by omega) 1 (.slice a77 n77 c77)
                        have Dq := D77.store R677 (.bool false) (.slice a77 n77 c77)
                        have Dr := E77.store R677 (.bool false) (.slice a77 n77 c77)
                        have Sb := below_set (below_set S77 (B := K75) 0 (.bool false) (by omega)) (B := K75) 1 (.slice a77 n77 c77) (by omega)
                        obtain ⟨x0, x1'⟩ := Row.duo R677
                        have zf := Row.frozen R677
                        refine wpM_one 10 rfl (by kernel_rfl) rfl ?_
                        go_wp2_with fail
                        refine ⟨fun _ => Sb, ?_⟩
                        clear x0 x1' zf R677 R777 D77 E77 S77
                        generalize (v77.setCell ⟨K75, 0, none⟩ (.bool false)).setCell ⟨K75, 1, none⟩ (.slice a77 n77 c77) = V9 at *
                        have O7 := Row.set2 P7 (.bool false) (.slice e77 f77 g77)
                        have O6 := (Row.other P6 (K := wr.heap.size) (by omega) 0 (.bool false)).other (K := wr.heap.size) (by omega) 1 (.slice e77 f77 g77)
                        have Eq := Dq.store P7 (.bool false) (.slice e77 f77 g77)
                        have Er := Dr.store P7 (.bool false) (.slice e77 f77 g77)
                        have Sc := below_set (below_set Sb (B := wr.heap.size) 0 (.bool false) (by omega)) (B := wr.heap.size) 1 (.slice e77 f77 g77) (by omega)
                        obtain ⟨x0, x1'⟩ := Row.duo P7
                        have zf := Row.frozen P7
                        refine wpM_one 11 rfl (by kernel_rfl) rfl ?_
                        go_wp2_with fail
                        refine ⟨fun _ => Sc, ?_⟩
                        refine wpM_done (by kernel_rfl) ?_
                        go_wp2_with fail
                        go_meet
                        exact ⟨K75, wr.heap.size, a77, n77, c77, e77, f77, g77, rfl, rfl, hne78, by omega, by omega, O6, O7, Eq, Er, Sc⟩
                    · go_wp2_with fail
                      have R679 := Row.new v66 45 #[.bool false, .slice none 0 0]
                      have S79 : Below wr.heap.size wr (v66.alloc (.cells #[.bool false, .slice none 0 0] 45)) := S66.alloc S66.size _
                      have L79 : wr.heap.size ≤ v66.heap.size := S66.size
                      have N79 := R766.lt
                      have R779 := R766.alloc (.cells #[.bool false, .slice none 0 0] 45)
                      refine ⟨fun _ => S79, ?_⟩
                      clear S66  R766
                      generalize v66.alloc (.cells #[.bool false, .slice none 0 0] 45) = v79 at *
                      generalize v66.heap.size = K79 at *
                      refine wpM_one 0 rfl (by kernel_rfl) rfl ?_
                      go_wp2_with fail
                      refine Calls.mono (H1 _).out ?_
                      rintro _ v80 ⟨a80, n80, c80, rfl, D80, b80⟩
                      have S80 : Below wr.heap.size wr v80 := S79.trans (b80.mono S79.size)
                      have R780 := R779.below b80 R779.lt
                      have R680 := R679.below b80 R679.lt
                      clear b80
                      go_wp2_with fail
                      refine ⟨fun _ => S80, ?_⟩
                      refine wpM_one 1 rfl (by kernel_rfl) rfl ?_
                      go_wp2_with fail
                      refine Calls.mono (H2 _ _ _ _ D80).out ?_
                      rintro _ v81 ⟨a81, n81, c81, rfl, D81, b81⟩
                      have S81 : Below wr.heap.size wr v81 := S80.trans (b81.mono S80.size)
                      have R781 := R780.below b81 R780.lt
                      have R681 := R680.below b81 R680.lt
                      clear b81
                      go_wp2_with fail
                      refine ⟨fun _ => S81, ?_⟩
                      refine wpM_one 4 rfl (by kernel_rfl) rfl ?_
                      go_wp2_with fail
                      refine Calls.mono (H3 _ _ _ _ S81 D81).out ?_
                      rintro _ v82 ⟨a82, n82, c82, e82, f82, g82, rfl, D82, E82, b82⟩
                      have S82 : Below wr.heap.size wr v82 := S81.trans (b82.mono S81.size)
                      have R782 := R781.below b82 R781.lt
                      have R682 := R681.below b82 R681.lt
                      clear b82
                      go_wp2_with fail
                      refine ⟨fun _ => S82, ?_⟩
                      refine wpM_held 5 (v := .tuple #[.agg #[.bool false, .slice a82 n82 c82], .agg #[.bool false, .slice e82 f82 g82]]) rfl (by kernel_rfl) (by kernel_rfl) rfl (fun _ _ _ h => h) rfl (by intro wx hx; go_simp <;> rfl) S82 ?_
                      refine wpM_held 6 (v := .agg #[.bool false, .slice a82 n82 c82]) rfl (by kernel_rfl) (by kernel_rfl) rfl (fun _ _ _ h => h) rfl (by intro wx hx; go_simp <;> rfl) S82 ?_
                      refine wpM_held 7 (v := .agg #[.bool false, .slice e82 f82 g82]) rfl (by kernel_rfl) (by kernel_rfl) rfl (fun _ _ _ h => h) rfl (by intro wx hx; go_simp <;> rfl) S82 ?_
                      have hne83 : K79 ≠ wr.heap.size := by omega
                      have P6 := Row.set2 R682 (.bool false) (.slice a82 n82 c82)
                      have P7 := (Row.other R782 (K := K79) (by omega) 0 (.bool false)).other (K := K79) (by omega) 1 (.slice a82 n82 c82)
                      have Dq := D82.store R682 (.bool false) (.slice a82 n82 c82)
                      have Dr := E82.store R682 (.bool false) (.slice a82 n82 c82)
                      have Sb := below_set (below_set S82 (B := K79) 0 (.bool false) (by omega)) (B := K79) 1 (.slice a82 n82 c82) (by omega)
                      obtain ⟨x0, x1'⟩ := Row.duo R682
                      have zf := Row.frozen R682
                      refine wpM_one 10 rfl (by kernel_rfl) rfl ?_
                      go_wp2_with fail
                      refine ⟨fun _ => Sb, ?_⟩
                      clear x0 x1' zf R682 R782 D82 E82 S82
                      generalize (v82.setCell ⟨K79, 0, none⟩ (.bool false)).setCell ⟨K79, 1, none⟩ (.slice a82 n82 c82) = V9 at *
                      have O7 := Row.set2 P7 (.bool false) (.slice e82 f82 g82)
                      have O6 := (Row.other P6 (K := wr.heap.size) (by omega) 0 (.bool false)).other (K := wr.heap.size) (by omega) 1 (.slice e82 f82 g82)
                      have Eq := Dq.store P7 (.bool false) (.slice e82 f82 g82)
                      have Er := Dr.store P7 (.bool false) (.slice e82 f82 g82)
                      have Sc := below_set (below_set Sb (B := wr.heap.size) 0 (.bool false) (by omega)) (B := wr.heap.size) 1 (.slice e82 f82 g82) (by omega)
                      obtain ⟨x0, x1'⟩ := Row.duo P7
                      have zf := Row.frozen P7
                      refine wpM_one 11 rfl (by kernel_rfl) rfl ?_
                      go_wp2_with fail
                      refine ⟨fun _ => Sc, ?_⟩
                      refine wpM_done (by kernel_rfl) ?_
                      go_wp2_with fail
                      go_meet
                      exact ⟨K79, wr.heap.size, a82, n82, c82, e82, f82, g82, rfl, rfl, hne83, by omega, by omega, O6, O7, Eq, Er, Sc⟩
              case rest =>
                obtain ⟨K6, K7, aq, nq, cq, ar, nr, cr, rfl, rfl, hne, h6, h7, P6, P7, HQ, HR, HS⟩ := hcut
                have hPl : PB < wr.heap.size := hrow.lt
                have hZl : w.heap.size + 1 + 1 < wr.heap.size := rz.lt
                obtain ⟨Q, hQe⟩ : ∃ Q, 10 ^ 200 / u = Q := ⟨_, rfl⟩
                have HQe : Hid (10 ^ 200 / u = Q) := hQe
                obtain ⟨Rr, hRe⟩ : ∃ Rr, 10 ^ 200 % u = Rr := ⟨_, rfl⟩
                have HRe : Hid (10 ^ 200 % u = Rr) := hRe
                clear hQe hRe
                rw [HQe.out] at HQ
                rw [HRe.out] at HR
                have HDV : Hid (rv = decV (if Rr = 0 then tellW sg Q (-ej - 200) else none)) := by show _ = _; rw [← HRE2.out, ← HQe.out, ← HRe.out]
                have HQB : Hid ((digs Q).length ≤ 201) := digs_len _ 201 (by rw [← HQe.out]; exact Nat.lt_of_le_of_lt (Nat.div_le_self _ _) (Nat.pow_lt_pow_right (by decide) (by decide)))
                have pw := hrow.below HS.out hPl
                have rw2 := rz.below HS.out hZl
                have hBw := hB8.trans (HS.out.mono hB8.size)
                have HNR : Hid ((digs Rr).length = nr) := dg_len HR.out
                clear H1 H2 H3 HS hrow rz hB8 HQe HRe
                obtain ⟨g0, g1⟩ := P7.duo
                by_cases hR : Rr = 0
                · have hnr : nr = 0 := by rw [← HNR.out, hR, digs_zero]; rfl
                  subst hnr
                  have HRES : Hid (rv = decV (tell (bval sg (digs Q)) (-ej - 200))) := by
                    show _ = _
                    rw [HDV.out, if_pos hR, tell_sg]
                  clear hR HDV HNR HR
                  obtain ⟨f0, f1, f2⟩ := pw.tri
                  obtain ⟨i0, i1⟩ := P6.duo
                  have zf := P6.frozen
                  have T6 : Row (wc.setCell ⟨K6, 0, none⟩ (.bool sg)) K6 45 #[.bool sg, .slice aq nq cq] := P6.set 0 _
                  have TX := pw.other (K := K6) (by omega) 0 (.bool sg)
                  have TZ := rw2.other (K := K6) (by omega) 0 (.bool sg)
                  have hB4 := below_set hBw (B := K6) 0 (.bool sg) (by omega)
                  have DT : DgAt (wc.setCell ⟨K6, 0, none⟩ (.bool sg)) (.slice aq nq cq) (digs Q) := DgAt.setd HQ.out P6 _
                  go_upto_region 28 with fail
                  clear f0 f1 f2 i0 i1 zf P6 P7 pw rw2 HQ hBw g0 g1
                  generalize wc.setCell ⟨K6, 0, none⟩ (.bool sg) = wj at *
                  have HTR : ∀ V, Below wj.heap.size wj V → Hid (Calls Tryd.prog 59 #[.agg #[.bool sg, .slice aq nq cq]] V _) := fun V hV => trim_any sg _ (digs Q) V (DT.below hV) (digs_dg _) (Nat.le_trans HQB.out (by decide))
                  obtain ⟨fin, HFI⟩ : ∃ fin, Hid (bval sg (digs Q) = fin) := ⟨_, rfl⟩
                  have HFL : Hid ((digs fin.natAbs).length ≤ 1400) := by
                    have e1 : fin.natAbs = Q := by
                      rw [← HFI.out]; unfold bval; rw [dval_digs]; cases sg <;> simp
                    rw [e1]
                    exact Nat.le_trans HQB.out (by decide)
                  rw [HFI.out] at HTR HRES
                  obtain ⟨p, q, er, hdv⟩ := decV_form (tell fin (-ej - 200))
                  rw [hdv] at HRES
                  have HTE : ∀ V s, DgAt V s (digs fin.natAbs) → Hid (Calls Tryd.prog 45 #[.agg #[.bool (decide (fin < 0)), s, .int .i64 (-ej - 200)]] V fun r w' => r = .returned (.tuple #[.agg #[.int .i64 p, .int .i64 q], .int .i64 er]) ∧ Below V.heap.size V w') := fun V s h => by
                    have := told_big fin (-ej - 200) _ V ⟨s, rfl, h⟩ (by omega) (by omega) HFL.out
                    rw [hdv] at this
                    exact this
                  clear hdv DT
                  have fw1 : IntKind.i64.wrap (-ej) = -ej := IntWalk.i64_in _ ⟨by omega, by omega⟩
                  have fw2 : IntKind.i64.wrap (-ej - 200) = -ej - 200 := IntWalk.i64_in _ ⟨by omega, by omega⟩
                  have hS : Below wj.heap.size wj wj.drew := (Below.refl _ wj).drew
                  have t6 : ∀ wx, Below wj.heap.size wj wx → wx.cell? ⟨K6, 0, none⟩ = some (.bool sg) ∧ wx.cell? ⟨K6, 1, none⟩ = some (.slice aq nq cq) := fun wx hx => (T6.below hx T6.lt).duo
                  have trx : ∀ wx, Below wj.heap.size wj wx → wx.cell? ⟨PB, 0, none⟩ = some (.bool sg) ∧ wx.cell? ⟨PB, 1, none⟩ = some (.slice a n cc) ∧ wx.cell? ⟨PB, 2, none⟩ = some (.int .i64 ej) := fun wx hx => (TX.below hx TX.lt).tri
                  refine wp_region_M (fun wx : World => Below wj.heap.size wj wx) (fun j => decide (j < 10)) 12 rfl (by kernel_rfl) ?_
                  refine wpM_held 0 (v := .agg #[.bool sg, .slice aq nq cq]) rfl (by kernel_rfl) (by kernel_rfl) rfl (fun _ _ _ h => h) rfl (by intro wx hx; obtain ⟨x0, x1⟩ := t6 wx hx; go_simp <;> rfl) hS ?_
                  refine wpM_held 2 (v := ?_) rfl (by kernel_rfl) (by kernel_rfl) rfl (fun _ _ _ h => h) rfl (by intro wx hx; go_simp <;> rfl) hS ?_
                  refine wpM_held 3 (v := .int .i64 ej) rfl (by kernel_rfl) (by kernel_rfl) rfl (fun _ _ _ h => h) rfl (by intro wx hx; obtain ⟨x0, x1, x2⟩ := trx wx hx; go_simp <;> rfl) hS ?_
                  refine wpM_held 4 (v := .int .i64 (-ej)) rfl (by kernel_rfl) (by kernel_rfl) rfl (fun _ _ _ h => h) rfl (by intro wx hx; go_simp <;> first | rfl | exact fw1) hS ?_
                  refine wpM_held 5 (v := .int .i64 (-ej - 200)) rfl (by kernel_rfl) (by kernel_rfl) rfl (fun _ _ _ h => h) rfl (by intro wx hx; go_simp <;> first | rfl | exact fw2) hS ?_
                  refine wpM_one 1 rfl (by kernel_rfl) rfl ?_
                  go_wp2_with fail
                  refine Calls.mono (HTR _ hS).out ?_
                  rintro _ wb ⟨v2, rfl, hV2, b4⟩
                  have hWb : Below wj.heap.size wj wb := hS.trans (b4.mono hS.size)
                  clear b4 HTR
                  obtain ⟨s2, rfl, hD2⟩ := hV2
                  have HTE := HTE wb s2 hD2
                  obtain ⟨_, a6, c6, rfl, _, _⟩ := id hD2
                  unfold bv
                  obtain ⟨nz, HNZ⟩ : ∃ nz, Hid (decide (fin < 0) = nz) := ⟨_, rfl⟩
                  obtain ⟨n6, HN6⟩ : ∃ n6 : Nat, Hid ((digs fin.natAbs).length = n6) := ⟨_, rfl⟩
                  rw [HNZ.out, HN6.out] at HTE
                  rw [HNZ.out, HN6.out]
                  clear hD2
                  go_wp2_with fail
                  refine ⟨fun _ => hWb, ?_⟩
                  refine wpM_one 6 rfl (by kernel_rfl) rfl ?_
                  go_wp2_with fail
                  refine ⟨fun _ => hWb, ?_⟩
                  refine wpM_one 7 rfl (by kernel_rfl) rfl ?_
                  go_wp2_with fail
                  refine Calls.mono HTE.out ?_
                  rintro _ wd ⟨rfl, b5⟩
                  have hWd : Below wj.heap.size wj wd := hWb.trans (b5.mono hWb.size)
                  clear b5 HTE
                  go_wp2_with fail
                  refine ⟨fun _ => hWd, ?_⟩
                  refine wpM_held 8 (v := .agg #[.int .i64 p, .int .i64 q]) rfl (by kernel_rfl) (by kernel_rfl) rfl (fun _ _ _ h => h) rfl (by intro wx hx; go_simp <;> rfl) hWd ?_
                  refine wpM_held 9 (v := .int .i64 er) rfl (by kernel_rfl) (by kernel_rfl) rfl (fun _ _ _ h => h) rfl (by intro wx hx; go_simp <;> rfl) hWd ?_
                  have pr := TZ.below hWd TZ.lt
                  obtain ⟨y0, y1⟩ := pr.duo
                  have zf := pr.frozen
                  have hZe := Row.set2 pr (.int .i64 p) (.int .i64 q)
                  have hBf := hB4.trans (hWd.mono hB4.size)
                  have hBg := below_set (below_set hBf (B := w.heap.size + 1 + 1) 0 (.int .i64 p) (by omega)) (B := w.heap.size + 1 + 1) 1 (.int .i64 q) (by omega)
                  refine wpM_one 10 rfl (by kernel_rfl) rfl ?_
                  go_wp2_with fail
                  refine ⟨fun h => by simp at h, ?_⟩
                  refine wpM_one 11 rfl (by kernel_rfl) rfl ?_
                  go_wp2_with fail
                  refine ⟨fun h => by simp at h, ?_⟩
                  refine wpM_done (by kernel_rfl) ?_
                  go_wp2
                  exact bodyPost_ret (ret_two rfl (g := w.heap.size + 1 + 1) rfl rfl (load23 hZe rfl)) rfl ⟨by rw [HRES.out]; rfl, hBg⟩
                · have hnr : (0 : Int) < (nr : Int) := by
                    have h1 : 0 < nr := by
                      rw [← HNR.out]
                      apply Nat.pos_of_ne_zero
                      intro h
                      have h2 := dval_digs Rr
                      rw [List.length_eq_zero_iff.1 h] at h2
                      simp [dval] at h2
                      omega
                    omega
                  have hnr2 : decide ((0 : Int) < (nr : Int)) = true := decide_eq_true hnr
                  have HRES : Hid (rv = .tuple #[.agg #[.int .i64 0, .int .i64 0], .int .i64 30]) := by
                    show _ = _
                    rw [HDV.out, if_neg hR]; rfl
                  clear HDV hR HNR
                  obtain ⟨y0, y1⟩ := rw2.duo
                  have zf := rw2.frozen
                  have hZe := Row.set2 rw2 (.int .i64 0) (.int .i64 0)
                  have hBg := below_set (below_set hBw (B := w.heap.size + 1 + 1) 0 (.int .i64 0) (by omega)) (B := w.heap.size + 1 + 1) 1 (.int .i64 0) (by omega)
                  go_wp2
                  exact bodyPost_ret (ret_two rfl (g := w.heap.size + 1 + 1) rfl rfl (load23 hZe rfl)) rfl ⟨by rw [HRES.out]; rfl, hBg⟩
end Go.Proofs.YtfbhonjndepjbaaDoor
