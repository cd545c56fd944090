import Derived.Test.YtfbhonjndepjbaaDoorRfiMM
import Derived.Test.YtfbhonjndepjbaaDoorWddM
import Derived.Test.YtfbhonjndepjbaaDoorWalM
import Derived.Test.YtfbhonjndepjbaaDoorWalM
import Derived.Test.YtfbhonjndepjbaaDoorRtmM
import Derived.BigRegion
/- two: two Decs with one exponent: the first loop. -/
namespace Go.Proofs.YtfbhonjndepjbaaDoor
open Go.RowKit

theorem ret_cct {fn : Func} {p q u : Tmp} {ty tz : TypeId} (h : fn.results = #[.cell p ty, .cell q tz, .tmp u]) {tmps : Array Value} {w : World} {g g' : Nat} {v v' x : Value}
    (hp : tmps.getD p undef = .pointer (some ⟨g, 0, none⟩)) (hq : tmps.getD q undef = .pointer (some ⟨g', 0, none⟩)) (hx : tmps.getD u undef = x) (hl : (loadVar ty ⟨g, 0, none⟩).run Tryd.prog w = .ok v w) (hl' : (loadVar tz ⟨g', 0, none⟩).run Tryd.prog w = .ok v' w) : (results fn tmps).run Tryd.prog w = .ok (.tuple #[v, v', x]) w := by
  have hp' : tmps[p]?.getD undef = .pointer (some ⟨g, 0, none⟩) := by simpa using hp
  have hq' : tmps[q]?.getD undef = .pointer (some ⟨g', 0, none⟩) := by simpa using hq
  have hx' : tmps[u]?.getD undef = x := by simpa using hx
  simp only [results, h]
  simp [Sem.run_bind, Result.andThen, hp', hq', hx', asAddr, hl, hl']
theorem Row.tri {W : World} {B : Nat} {t : TypeId} {a b c : Value} (h : Row W B t #[a, b, c]) : W.cell? ⟨B, 0, none⟩ = some a ∧ W.cell? ⟨B, 1, none⟩ = some b ∧ W.cell? ⟨B, 2, none⟩ = some c := ⟨h.cell rfl, h.cell rfl, h.cell rfl⟩
theorem wrap_sub1 (g : Int) (h1 : -1000 ≤ g) (h2 : g ≤ 1000) : IntKind.i64.wrap (g - 1) = g - 1 := IntWalk.i64_in _ ⟨by omega, by omega⟩
theorem shifted_len (c : Int) (hc : I64 c) (k : Nat) : (digs (c * 10 ^ k).natAbs).length ≤ 19 + k := by
  refine digs_len _ _ ?_
  rw [Int.natAbs_mul, Int.natAbs_pow, Nat.pow_add]
  refine Nat.mul_lt_mul_of_pos_right ?_ (Nat.pow_pos (by decide))
  unfold I64 at hc
  have : (10 : Nat) ^ 19 = 10000000000000000000 := by decide
  omega
set_option maxRecDepth 100000 in
set_option maxHeartbeats 2000000 in
theorem two_any (c e d f : Int) (hc : I64 c) (hd : I64 d) (w : World) (he1 : -18 ≤ e) (he2 : e ≤ 18) (hf1 : -18 ≤ f) (hf2 : f ≤ 18) : Calls Tryd.prog 44 #[.agg #[.int .i64 c, .int .i64 e], .agg #[.int .i64 d, .int .i64 f]] w fun r w' => ∃ (i j : Nat) (sx sy : Value), r = .returned (.tuple #[.agg (numC (c * 10 ^ i) (e - (i : Int)) sx), .agg (numC (d * 10 ^ j) (e - (i : Int)) sy), .bool true]) ∧ e - (i : Int) = f - (j : Int) ∧ -18 ≤ e - (i : Int) ∧ i ≤ 36 ∧ j ≤ 36 ∧ DgAt w' sx (digs (c * 10 ^ i).natAbs) ∧ DgAt w' sy (digs (d * 10 ^ j).natAbs) ∧ Below w.heap.size w w' := by
  have HC : ∀ W, Hid (Calls Tryd.prog 53 #[.agg #[.int .i64 c, .int .i64 e]] W _) := fun W => num_any c e hc W
  have HD : ∀ W, Hid (Calls Tryd.prog 53 #[.agg #[.int .i64 d, .int .i64 f]] W _) := fun W => num_any d f hd W
  rw [decide_eq_true (show -18 ≤ e ∧ e ≤ 18 from ⟨he1, he2⟩)] at HC
  rw [decide_eq_true (show -18 ≤ f ∧ f ≤ 18 from ⟨hf1, hf2⟩)] at HD
  go_enter Tryd.func44, Tryd.ntmps44
  go_wp2_with fail
  have r1 := ((Row.new1 w (.cells #[.int .i64 c, .int .i64 e] 23) 23 #[.int .i64 d, .int .i64 f]).alloc (.cells zeroC 47)).alloc (.cells zeroC 47)
  have r2 := (Row.new ((w.alloc (.cells #[.int .i64 c, .int .i64 e] 23)).alloc (.cells #[.int .i64 d, .int .i64 f] 23)) 47 zeroC).alloc (.cells zeroC 47)
  have r3 := Row.new (((w.alloc (.cells #[.int .i64 c, .int .i64 e] 23)).alloc (.cells #[.int .i64 d, .int .i64 f] 23)).alloc (.cells zeroC 47)) 47 zeroC
  have hB := ((((Below.refl _ w).alloc (Nat.le_refl _) (.cells #[.int .i64 c, .int .i64 e] 23)).alloc (by simp) (.cells #[.int .i64 d, .int .i64 f] 23)).alloc (by simp; omega) (.cells zeroC 47)).alloc (by simp; omega) (.cells zeroC 47)
  have hWs : w.heap.size + 4 ≤ ((((w.alloc (.cells #[.int .i64 c, .int .i64 e] 23)).alloc (.cells #[.int .i64 d, .int .i64 f] 23)).alloc (.cells zeroC 47)).alloc (.cells zeroC 47)).heap.size := by simp
  simp only [World.size_alloc] at r2 r3
  show Calls Tryd.prog 53 #[.agg #[.int .i64 c, .int .i64 e]] ((((w.alloc (.cells #[.int .i64 c, .int .i64 e] 23)).alloc (.cells #[.int .i64 d, .int .i64 f] 23)).alloc (.cells zeroC 47)).alloc (.cells zeroC 47)) _
  generalize (((w.alloc (.cells #[.int .i64 c, .int .i64 e] 23)).alloc (.cells #[.int .i64 d, .int .i64 f] 23)).alloc (.cells zeroC 47)).alloc (.cells zeroC 47) = W at *
  refine Calls.mono (HC W).out ?_
  rintro _ w1 ⟨s1, rfl, hD1, hN1, b1⟩
  obtain ⟨_, a1, c1, rfl, _, _⟩ := id hD1
  obtain ⟨nc, HNC⟩ : ∃ nc, Hid (decide (c < 0) = nc) := ⟨_, rfl⟩
  rw [HNC.out]
  obtain ⟨lc, HLC⟩ : ∃ lc, Hid ((digs c.natAbs).length = lc) := ⟨_, rfl⟩
  rw [HLC.out] at hD1 hN1
  rw [HLC.out]
  clear HC
  have q1 := (r1.below b1 r1.lt).alloc (.cells #[.bool nc, .slice a1 lc c1, .int .i64 e] 47)
  obtain ⟨x0, x1⟩ := q1.duo
  go_wp2_with fail
  have r4 := Row.new w1 47 #[.bool nc, .slice a1 lc c1, .int .i64 e]
  have b2 : Below W.heap.size W (w1.alloc (.cells #[.bool nc, .slice a1 lc c1, .int .i64 e] 47)) := b1.alloc b1.size _
  have hX : W.heap.size ≤ w1.heap.size := b1.size
  have b21 : Below w1.heap.size w1 (w1.alloc (.cells #[.bool nc, .slice a1 lc c1, .int .i64 e] 47)) := (Below.refl _ w1).alloc (Nat.le_refl _) _
  have hD2 := hD1.below b21
  have hM1 : ∀ K, W.heap.size ≤ K → w1.heap.size ≤ K → NeS K (.slice a1 lc c1) := fun K _ h => hD1.ne h
  have hM2 : ∀ K, K < W.heap.size → NeS K (.slice a1 lc c1) := fun K h => hN1.ne h
  have hsz : (w1.alloc (.cells #[.bool nc, .slice a1 lc c1, .int .i64 e] 47)).heap.size = w1.heap.size + 1 := by simp
  generalize w1.alloc (.cells #[.bool nc, .slice a1 lc c1, .int .i64 e] 47) = W2 at *
  generalize w1.heap.size = X at *
  clear q1 x0 x1 hD1 hN1 b1 b21
  refine Calls.mono (HD W2).out ?_
  rintro _ w2 ⟨s2, rfl, hD3, hN3, b3⟩
  obtain ⟨_, a2, c2, rfl, _, _⟩ := id hD3
  obtain ⟨nd, HND⟩ : ∃ nd, Hid (decide (d < 0) = nd) := ⟨_, rfl⟩
  rw [HND.out]
  obtain ⟨ld, HLD⟩ : ∃ ld, Hid ((digs d.natAbs).length = ld) := ⟨_, rfl⟩
  rw [HLD.out] at hD3 hN3
  rw [HLD.out]
  clear HD
  have r5 := Row.new w2 47 #[.bool nd, .slice a2 ld c2, .int .i64 f]
  have b4 : Below W2.heap.size W2 (w2.alloc (.cells #[.bool nd, .slice a2 ld c2, .int .i64 f] 47)) := b3.alloc b3.size _
  have b5 : Below w2.heap.size w2 (w2.alloc (.cells #[.bool nd, .slice a2 ld c2, .int .i64 f] 47)) := (Below.refl _ w2).alloc (Nat.le_refl _) _
  have hT : TwAt w X w2.heap.size c e d f (.slice a1 lc c1) (.slice a2 ld c2) (w2.alloc (.cells #[.bool nd, .slice a2 ld c2, .int .i64 f] 47)) := by
    have s4 := b3.size
    refine ⟨(r2.below b2 r2.lt).below b4 (r2.below b2 r2.lt).lt, (r3.below b2 r3.lt).below b4 (r3.below b2 r3.lt).lt, ?_, ?_, hD2.below b4, hD3.below b5, ?_, ?_, (hB.trans (b2.mono (by omega))).trans (b4.mono (by omega))⟩
    · unfold numC; rw [HNC.out]; exact r4.below b4 r4.lt
    · unfold numC; rw [HND.out]; exact r5
    · intro K hK
      by_cases h : K < W.heap.size
      · exact hM2 K h
      · exact hM1 K (by omega) (by omega)
    · intro K hK
      by_cases h : K < W2.heap.size
      · exact hN3.ne h
      · exact hD3.ne (by omega)
  have hXY : X < w2.heap.size := by have := b3.size; omega
  have hX3 : w.heap.size + 3 < X := by omega
  have hY3 : w.heap.size + 3 < w2.heap.size := by omega
  clear r1 r2 r3 hB hWs r4 b2 hX hD2 hM1 hM2 hsz hD3 hN3 b3 r5 b4 b5
  generalize hW5 : w2.alloc (.cells #[.bool nd, .slice a2 ld c2, .int .i64 f] 47) = W5 at *
  generalize hYg : w2.heap.size = Y at *
  go_wp2_with fail
  clear HNC HND
  go_loopw [] (fun wr => ∃ (k : Nat) (a : Option Addr) (n cc : Nat), TwAt w X Y (c * 10 ^ k) (e - (k : Int)) d f (.slice a n cc) (.slice a2 ld c2) wr ∧ Hid ((digs (c * 10 ^ k).natAbs).length = n) ∧ (k = 0 ∨ f ≤ e - (k : Int)) ∧ k ≤ 36) (fun wr => (intOf ((wr.cell? ⟨X, 2, none⟩).getD undef) + 100).toNat)
  case atStart => exact ⟨0, a1, lc, c1, by simpa using hT, by show _ = _; simpa using HLC.out, .inl rfl, by omega⟩
  case round =>
    obtain ⟨k, a, n, cc, hT1, HN, hk, hk36⟩ := hrel
    have hlen := shifted_len c hc k
    rw [HN.out] at hlen
    obtain ⟨x, HX⟩ : ∃ x, Hid (c * 10 ^ k = x) := ⟨_, rfl⟩
    obtain ⟨g, HG⟩ : ∃ g, Hid (e - (k : Int) = g) := ⟨_, rfl⟩
    rw [HX.out, HG.out] at hT1
    rw [HX.out] at HN
    obtain ⟨nx, HNX⟩ : ∃ nx, Hid (decide (x < 0) = nx) := ⟨_, rfl⟩
    obtain ⟨ny, HNY⟩ : ∃ ny, Hid (decide (d < 0) = ny) := ⟨_, rfl⟩
    have hbx := hT1.bx
    have hby := hT1.byy
    unfold numC at hbx hby
    rw [HNX.out] at hbx
    rw [HNY.out] at hby
    obtain ⟨d0, d1, d2⟩ := hbx.tri
    obtain ⟨f0, f1, f2⟩ := hby.tri
    have hTd := hT1.dx
    clear hT HLC
    have hgr : -18 ≤ g + 36 ∧ g ≤ 18 := by have := HG.out; omega
    by_cases hgf : f < g
    · have ggf : decide (f < g) = true := decide_eq_true hgf
      have HSH : ∀ V, Below wr.heap.size wr V → Hid (Calls Tryd.prog 58 #[.agg #[.bool nx, .slice a n cc], .int .i64 ((1 : Nat) : Int)] V fun r w' => ∃ v', r = .returned v' ∧ BigV w' (x * 10 ^ 1) v' ∧ NewV V.heap.size v' ∧ Below V.heap.size V w') := fun V h => by
        have := shift_new x (bv nx (.slice a n cc)) 1 V ⟨_, by rw [← HNX.out], hTd.below h⟩ (by decide) (by rw [HN.out]; omega)
        exact this
      have HT1 : Hid (TwAt w X Y x g d f (.slice a n cc) (.slice a2 ld c2) wr) := hT1
      clear hT1
      have fw1 : IntKind.i64.wrap (g - 1) = g - 1 := wrap_sub1 g (by omega) (by omega)
      go_wp2_with fail
      have hS : Below wr.heap.size wr wr.drew := (Below.refl _ wr).drew
      have tri : ∀ wx, Below wr.heap.size wr wx → wx.cell? ⟨X, 0, none⟩ = some (.bool nx) ∧ wx.cell? ⟨X, 1, none⟩ = some (.slice a n cc) ∧ wx.cell? ⟨X, 2, none⟩ = some (.int .i64 g) := fun wx hx => (hbx.below hx hbx.lt).tri
      refine wp_region_M (fun wx : World => Below wr.heap.size wr wx) (fun j => decide (j < 7)) 8 rfl (by kernel_rfl) ?_
      refine wpM_held 0 (v := ?_) rfl (by kernel_rfl) (by kernel_rfl) rfl (fun _ _ _ h => h) rfl (by intro wx hx; go_simp <;> rfl) hS ?_
      refine wpM_held 1 (v := .agg #[.bool nx, .slice a n cc]) rfl (by kernel_rfl) (by kernel_rfl) rfl (fun _ _ _ h => h) rfl (by intro wx hx; obtain ⟨x0, x1, x2⟩ := tri wx hx; go_simp <;> rfl) hS ?_
      refine wpM_held 3 (v := ?_) rfl (by kernel_rfl) (by kernel_rfl) rfl (fun _ _ _ h => h) rfl (by intro wx hx; go_simp <;> rfl) hS ?_
      refine wpM_held 4 (v := .int .i64 g) rfl (by kernel_rfl) (by kernel_rfl) rfl (fun _ _ _ h => h) rfl (by intro wx hx; obtain ⟨x0, x1, x2⟩ := tri wx hx; go_simp <;> rfl) hS ?_
      refine wpM_held 5 (v := .int .i64 (g - 1)) rfl (by kernel_rfl) (by kernel_rfl) rfl (fun _ _ _ h => h) rfl (by intro wx hx; go_simp <;> first | rfl | exact fw1) hS ?_
      refine wpM_one 2 rfl (by kernel_rfl) rfl ?_
      go_wp2_with fail
      refine Calls.mono (HSH _ hS).out ?_
      rintro _ wb ⟨v2, rfl, hV2, hN2, b2⟩
      obtain ⟨s2, rfl, hD2⟩ := hV2
      have hN2 := hN2.get
      obtain ⟨_, a6, c6, rfl, _, _⟩ := id hD2
      have hW3 : Below wr.heap.size wr wb := hS.trans (b2.mono hS.size)
      have hN3 := hN2.mono (show wr.heap.size ≤ wr.drew.heap.size from Nat.le_refl _)
      clear b2 HSH hS hN2
      unfold bv
      have HNX2 : Hid (decide (x * 10 ^ 1 < 0) = nx) := by
        show _ = _
        rw [← HNX.out, Int.pow_succ, Int.pow_zero, Int.one_mul]
        by_cases hs : x < 0
        · rw [decide_eq_true hs, decide_eq_true (by omega)]
        · rw [decide_eq_false hs, decide_eq_false (by omega)]
      rw [HNX2.out]
      have HT2 : Hid (TwAt w X Y (x * 10 ^ 1) (g - 1) d f (.slice a6 (digs (x * 10 ^ 1).natAbs).length c6) (.slice a2 ld c2) (set3 wb X (.bool nx) (.slice a6 (digs (x * 10 ^ 1).natAbs).length c6) (.int .i64 (g - 1)))) := HT1.out.putX (by omega) (by omega) hW3 hD2 hN3 nx HNX2.out
      obtain ⟨n2, HN2⟩ : ∃ n2 : Nat, Hid ((digs (x * 10 ^ 1 : Int).natAbs).length = n2) := by exact ⟨(digs (x * 10 ^ 1 : Int).natAbs).length, (rfl : (digs (x * 10 ^ 1 : Int).natAbs).length = (digs (x * 10 ^ 1 : Int).natAbs).length)⟩
      rw [HN2.out] at HT2 hD2 hN3
      rw [HN2.out]
      go_wp2_with fail
      refine ⟨fun _ => hW3, ?_⟩
      refine wpM_one 6 rfl (by kernel_rfl) rfl ?_
      go_wp2_with fail
      refine ⟨fun _ => hW3, ?_⟩
      have p2 := hbx.below hW3 hbx.lt
      obtain ⟨y0, y1, y2⟩ := p2.tri
      have zf := p2.frozen
      refine wpM_one 7 rfl (by kernel_rfl) rfl ?_
      go_wp2_with fail
      refine ⟨fun h => by simp at h, ?_⟩
      refine wpM_done (by kernel_rfl) ?_
      go_wp2
      go_roundw
      case rel => 
                have h2 := HT2.out
                refine ⟨k + 1, a6, n2, c6, ?_, ?_, ?_, ?_⟩
                · rw [show c * 10 ^ (k + 1) = x * 10 ^ 1 by rw [← HX.out, Int.pow_succ, Int.pow_succ, Int.pow_zero, Int.one_mul, Int.mul_assoc], show e - ((k + 1 : Nat) : Int) = g - 1 by have := HG.out; omega]
                  exact h2
                · show _ = _
                  rw [show c * 10 ^ (k + 1) = x * 10 ^ 1 by rw [← HX.out, Int.pow_succ, Int.pow_succ, Int.pow_zero, Int.one_mul, Int.mul_assoc]]
                  exact HN2.out
                · right; have := HG.out; omega
                · have := HG.out; omega
      case measure => 
                have h2 := HT2.out.bx
                unfold numC at h2
                have h3 := h2.tri.2.2
                unfold set3 at h3
                rw [h3, d2]
                simp only [Option.getD_some, intOf]
                omega
    · have ggf : decide (f < g) = false := decide_eq_false hgf
      clear hTd
      go_wp2_with fail
      clear d0 d1 d2 f0 f1 f2 hbx hby ggf HNX HNY hgr
      have hT3 := hT1.swap
      clear hT1
      have HC3 : Hid (c * 10 ^ k = x ∧ e - (k : Int) = g) := ⟨HX.out, HG.out⟩
      clear HX
      have HL3 : Hid ((digs x.natAbs).length = n) := HN
      clear HN hlen
      go_loopw [] (fun wr => ∃ (j : Nat) (a3 : Option Addr) (n3 c3 : Nat), TwAt w Y X (d * 10 ^ j) (f - (j : Int)) x g (.slice a3 n3 c3) (.slice a n cc) wr ∧ Hid ((digs (d * 10 ^ j).natAbs).length = n3) ∧ (j = 0 ∨ g ≤ f - (j : Int)) ∧ j ≤ 36) (fun wr => (intOf ((wr.cell? ⟨Y, 2, none⟩).getD undef) + 100).toNat)
      case atStart => exact ⟨0, a2, ld, c2, by simpa using hT3, by show _ = _; simpa using HLD.out, .inl rfl, by omega⟩
      case round =>
        obtain ⟨j, a3, n3, c3, hT1, HM, hj, hj36⟩ := hrel
        have hlen := shifted_len d hd j
        rw [HM.out] at hlen
        obtain ⟨z, HZ⟩ : ∃ z, Hid (d * 10 ^ j = z) := ⟨_, rfl⟩
        obtain ⟨t, HT⟩ : ∃ t, Hid (f - (j : Int) = t) := ⟨_, rfl⟩
        rw [HZ.out, HT.out] at hT1
        rw [HZ.out] at HM
        obtain ⟨nz, HNZ⟩ : ∃ nz, Hid (decide (z < 0) = nz) := ⟨_, rfl⟩
        obtain ⟨nx, HNX⟩ : ∃ nx, Hid (decide (x < 0) = nx) := ⟨_, rfl⟩
        have hbz := hT1.bx
        have hbx := hT1.byy
        unfold numC at hbz hbx
        rw [HNZ.out] at hbz
        rw [HNX.out] at hbx
        obtain ⟨d0, d1, d2⟩ := hbz.tri
        obtain ⟨f0, f1, f2⟩ := hbx.tri
        have hTz := hT1.dx
        clear hT3 HLD
        have hgt : -18 ≤ t + 36 ∧ t ≤ 18 := by have := HT.out; omega
        have hgg : -18 ≤ g + 36 ∧ g ≤ 18 := by have := HG.out; omega
        by_cases hgf2 : g < t
        · have ggf : decide (g < t) = true := decide_eq_true hgf2
          have HSH : ∀ V, Below wr.heap.size wr V → Hid (Calls Tryd.prog 58 #[.agg #[.bool nz, .slice a3 n3 c3], .int .i64 ((1 : Nat) : Int)] V fun r w' => ∃ v', r = .returned v' ∧ BigV w' (z * 10 ^ 1) v' ∧ NewV V.heap.size v' ∧ Below V.heap.size V w') := fun V h => by
            have := shift_new z (bv nz (.slice a3 n3 c3)) 1 V ⟨_, by rw [← HNZ.out], hTz.below h⟩ (by decide) (by rw [HM.out]; omega)
            exact this
          have HT1 : Hid (TwAt w Y X z t x g (.slice a3 n3 c3) (.slice a n cc) wr) := hT1
          clear hT1
          have fw1 : IntKind.i64.wrap (t - 1) = t - 1 := wrap_sub1 t (by omega) (by omega)
          go_wp2_with fail
          have hS : Below wr.heap.size wr wr.drew := (Below.refl _ wr).drew
          have tri : ∀ wx, Below wr.heap.size wr wx → wx.cell? ⟨Y, 0, none⟩ = some (.bool nz) ∧ wx.cell? ⟨Y, 1, none⟩ = some (.slice a3 n3 c3) ∧ wx.cell? ⟨Y, 2, none⟩ = some (.int .i64 t) := fun wx hx => (hbz.below hx hbz.lt).tri
          refine wp_region_M (fun wx : World => Below wr.heap.size wr wx) (fun j => decide (j < 7)) 8 rfl (by kernel_rfl) ?_
          refine wpM_held 0 (v := ?_) rfl (by kernel_rfl) (by kernel_rfl) rfl (fun _ _ _ h => h) rfl (by intro wx hx; go_simp <;> rfl) hS ?_
          refine wpM_held 1 (v := .agg #[.bool nz, .slice a3 n3 c3]) rfl (by kernel_rfl) (by kernel_rfl) rfl (fun _ _ _ h => h) rfl (by intro wx hx; obtain ⟨x0, x1, x2⟩ := tri wx hx; go_simp <;> rfl) hS ?_
          refine wpM_held 3 (v := ?_) rfl (by kernel_rfl) (by kernel_rfl) rfl (fun _ _ _ h => h) rfl (by intro wx hx; go_simp <;> rfl) hS ?_
          refine wpM_held 4 (v := .int .i64 t) rfl (by kernel_rfl) (by kernel_rfl) rfl (fun _ _ _ h => h) rfl (by intro wx hx; obtain ⟨x0, x1, x2⟩ := tri wx hx; go_simp <;> rfl) hS ?_
          refine wpM_held 5 (v := .int .i64 (t - 1)) rfl (by kernel_rfl) (by kernel_rfl) rfl (fun _ _ _ h => h) rfl (by intro wx hx; go_simp <;> first | rfl | exact fw1) hS ?_
          refine wpM_one 2 rfl (by kernel_rfl) rfl ?_
          go_wp2_with fail
          refine Calls.mono (HSH _ hS).out ?_
          rintro _ wb ⟨v2, rfl, hV2, hN2, b2⟩
          obtain ⟨s2, rfl, hD2⟩ := hV2
          have hN2 := hN2.get
          obtain ⟨_, a6, c6, rfl, _, _⟩ := id hD2
          have hW3 : Below wr.heap.size wr wb := hS.trans (b2.mono hS.size)
          have hN3 := hN2.mono (show wr.heap.size ≤ wr.drew.heap.size from Nat.le_refl _)
          clear b2 HSH hS hN2
          unfold bv
          have HNZ2 : Hid (decide (z * 10 ^ 1 < 0) = nz) := by
            show _ = _
            rw [← HNZ.out, Int.pow_succ, Int.pow_zero, Int.one_mul]
            by_cases hs : z < 0
            · rw [decide_eq_true hs, decide_eq_true (by omega)]
            · rw [decide_eq_false hs, decide_eq_false (by omega)]
          rw [HNZ2.out]
          have HT2 : Hid (TwAt w Y X (z * 10 ^ 1) (t - 1) x g (.slice a6 (digs (z * 10 ^ 1).natAbs).length c6) (.slice a n cc) (set3 wb Y (.bool nz) (.slice a6 (digs (z * 10 ^ 1).natAbs).length c6) (.int .i64 (t - 1)))) := HT1.out.putX (by omega) (by omega) hW3 hD2 hN3 nz HNZ2.out
          obtain ⟨m2, HM2⟩ : ∃ m2 : Nat, Hid ((digs (z * 10 ^ 1 : Int).natAbs).length = m2) := by exact ⟨(digs (z * 10 ^ 1 : Int).natAbs).length, (rfl : (digs (z * 10 ^ 1 : Int).natAbs).length = (digs (z * 10 ^ 1 : Int).natAbs).length)⟩
          rw [HM2.out] at HT2 hD2 hN3
          rw [HM2.out]
          go_wp2_with fail
          refine ⟨fun _ => hW3, ?_⟩
          refine wpM_one 6 rfl (by kernel_rfl) rfl ?_
          go_wp2_with fail
          refine ⟨fun _ => hW3, ?_⟩
          have p2 := hbz.below hW3 hbz.lt
          obtain ⟨y0, y1, y2⟩ := p2.tri
          have zf := p2.frozen
          refine wpM_one 7 rfl (by kernel_rfl) rfl ?_
          go_wp2_with fail
          refine ⟨fun h => by simp at h, ?_⟩
          refine wpM_done (by kernel_rfl) ?_
          go_wp2
          go_roundw
          case rel => 
                        have h2 := HT2.out
                        refine ⟨j + 1, a6, m2, c6, ?_, ?_, ?_, ?_⟩
                        · rw [show d * 10 ^ (j + 1) = z * 10 ^ 1 by rw [← HZ.out, Int.pow_succ, Int.pow_succ, Int.pow_zero, Int.one_mul, Int.mul_assoc], show f - ((j + 1 : Nat) : Int) = t - 1 by have := HT.out; omega]
                          exact h2
                        · show _ = _
                          rw [show d * 10 ^ (j + 1) = z * 10 ^ 1 by rw [← HZ.out, Int.pow_succ, Int.pow_succ, Int.pow_zero, Int.one_mul, Int.mul_assoc]]
                          exact HM2.out
                        · right; have := HT.out; omega
                        · have := HT.out; have := HC3.out.2; omega
          case measure => 
                        have h2 := HT2.out.bx
                        unfold numC at h2
                        have h3 := h2.tri.2.2
                        unfold set3 at h3
                        rw [h3, d2]
                        simp only [Option.getD_some, intOf]
                        omega
        · have ggf : decide (g < t) = false := decide_eq_false hgf2
          clear hTz
          go_wp2_with fail
          have htg : t = g := by have := HT.out; have := HG.out; omega
          subst htg
          have HT1 : Hid (TwAt w Y X z t x t (.slice a3 n3 c3) (.slice a n cc) wr) := hT1
          have hS : Row wr.drew X 47 #[.bool nx, .slice a n cc, .int .i64 t] ∧ Row wr.drew Y 47 #[.bool nz, .slice a3 n3 c3, .int .i64 t] := ⟨hbx, hbz⟩
          have q1 : Row wr.drew (w.heap.size + 1 + 1) 47 #[.bool false, .slice none 0 0, .int .i64 0] := HT1.out.res1
          have q2 : Row wr.drew (w.heap.size + 1 + 1 + 1) 47 #[.bool false, .slice none 0 0, .int .i64 0] := HT1.out.res2
          have e1 : DgAt wr.drew (.slice a n cc) (digs x.natAbs) := HT1.out.dy
          have e2 : DgAt wr.drew (.slice a3 n3 c3) (digs z.natAbs) := HT1.out.dx
          have l1 : NeS (w.heap.size + 1 + 1) (.slice a n cc) ∧ NeS (w.heap.size + 1 + 1 + 1) (.slice a n cc) := ⟨HT1.out.ny _ (.inl rfl), HT1.out.ny _ (.inr (.inl rfl))⟩
          have l2 : NeS (w.heap.size + 1 + 1) (.slice a3 n3 c3) ∧ NeS (w.heap.size + 1 + 1 + 1) (.slice a3 n3 c3) := ⟨HT1.out.nx _ (.inl rfl), HT1.out.nx _ (.inr (.inl rfl))⟩
          have hbe : Below w.heap.size w wr.drew := HT1.out.below.drew
          clear d0 d1 d2 f0 f1 f2 hT1 HT1
          refine wp_region_M (fun wx : World => Row wx X 47 #[.bool nx, .slice a n cc, .int .i64 t] ∧ Row wx Y 47 #[.bool nz, .slice a3 n3 c3, .int .i64 t]) (fun j => decide (j < 3)) 5 rfl (by kernel_rfl) ?_
          generalize wr.drew = V at *
          refine wpM_held 0 (v := .agg #[.bool nx, .slice a n cc, .int .i64 t]) rfl (by kernel_rfl) (by kernel_rfl) rfl (fun _ _ _ h => h) rfl (by intro wx hx; obtain ⟨x0, x1, x2⟩ := hx.1.tri; go_simp <;> rfl) hS ?_
          refine wpM_held 1 (v := .agg #[.bool nz, .slice a3 n3 c3, .int .i64 t]) rfl (by kernel_rfl) (by kernel_rfl) rfl (fun _ _ _ h => h) rfl (by intro wx hx; obtain ⟨x0, x1, x2⟩ := hx.2.tri; go_simp <;> rfl) hS ?_
          obtain ⟨y0, y1, y2⟩ := q1.tri
          have zf := q1.frozen
          refine wpM_one 2 rfl (by kernel_rfl) rfl ?_
          go_wp2_with fail
          have S2 : Row ((((V).setCell ⟨w.heap.size + 1 + 1, 0, none⟩ (.bool nx)).setCell ⟨w.heap.size + 1 + 1, 1, none⟩ (.slice a n cc)).setCell ⟨w.heap.size + 1 + 1, 2, none⟩ (.int .i64 t)) X 47 #[.bool nx, .slice a n cc, .int .i64 t] ∧ Row ((((V).setCell ⟨w.heap.size + 1 + 1, 0, none⟩ (.bool nx)).setCell ⟨w.heap.size + 1 + 1, 1, none⟩ (.slice a n cc)).setCell ⟨w.heap.size + 1 + 1, 2, none⟩ (.int .i64 t)) Y 47 #[.bool nz, .slice a3 n3 c3, .int .i64 t] := ⟨((hS.1.off 0 (.bool nx) (by omega)).off 1 (.slice a n cc) (by omega)).off 2 (.int .i64 t) (by omega), ((hS.2.off 0 (.bool nx) (by omega)).off 1 (.slice a n cc) (by omega)).off 2 (.int .i64 t) (by omega)⟩
          have Q1 : Row ((((V).setCell ⟨w.heap.size + 1 + 1, 0, none⟩ (.bool nx)).setCell ⟨w.heap.size + 1 + 1, 1, none⟩ (.slice a n cc)).setCell ⟨w.heap.size + 1 + 1, 2, none⟩ (.int .i64 t)) (w.heap.size + 1 + 1) 47 #[.bool nx, .slice a n cc, .int .i64 t] := Row.set3N q1 _ _ _
          have Q2 : Row ((((V).setCell ⟨w.heap.size + 1 + 1, 0, none⟩ (.bool nx)).setCell ⟨w.heap.size + 1 + 1, 1, none⟩ (.slice a n cc)).setCell ⟨w.heap.size + 1 + 1, 2, none⟩ (.int .i64 t)) (w.heap.size + 1 + 1 + 1) 47 #[.bool false, .slice none 0 0, .int .i64 0] := ((q2.off 0 (.bool nx) (by omega)).off 1 (.slice a n cc) (by omega)).off 2 (.int .i64 t) (by omega)
          have E1 : DgAt ((((V).setCell ⟨w.heap.size + 1 + 1, 0, none⟩ (.bool nx)).setCell ⟨w.heap.size + 1 + 1, 1, none⟩ (.slice a n cc)).setCell ⟨w.heap.size + 1 + 1, 2, none⟩ (.int .i64 t)) (.slice a n cc) (digs x.natAbs) := ((e1.offN l1.1 0 (.bool nx)).offN l1.1 1 (.slice a n cc)).offN l1.1 2 (.int .i64 t)
          have E2 : DgAt ((((V).setCell ⟨w.heap.size + 1 + 1, 0, none⟩ (.bool nx)).setCell ⟨w.heap.size + 1 + 1, 1, none⟩ (.slice a n cc)).setCell ⟨w.heap.size + 1 + 1, 2, none⟩ (.int .i64 t)) (.slice a3 n3 c3) (digs z.natAbs) := ((e2.offN l2.1 0 (.bool nx)).offN l2.1 1 (.slice a n cc)).offN l2.1 2 (.int .i64 t)
          have BE : Below w.heap.size w ((((V).setCell ⟨w.heap.size + 1 + 1, 0, none⟩ (.bool nx)).setCell ⟨w.heap.size + 1 + 1, 1, none⟩ (.slice a n cc)).setCell ⟨w.heap.size + 1 + 1, 2, none⟩ (.int .i64 t)) := below_set (below_set (below_set hbe 0 _ (by omega)) 1 _ (by omega)) 2 _ (by omega)
          refine ⟨fun _ => S2, ?_⟩
          clear hS q1 q2 e1 e2 hbe y0 y1 y2 zf hbx hbz
          generalize (((V).setCell ⟨w.heap.size + 1 + 1, 0, none⟩ (.bool nx)).setCell ⟨w.heap.size + 1 + 1, 1, none⟩ (.slice a n cc)).setCell ⟨w.heap.size + 1 + 1, 2, none⟩ (.int .i64 t) = V2 at *
          clear V
          obtain ⟨y0, y1, y2⟩ := Q2.tri
          have zf := Q2.frozen
          refine wpM_one 3 rfl (by kernel_rfl) rfl ?_
          go_wp2_with fail
          refine ⟨fun h => by simp at h, ?_⟩
          have P1 : Row ((((V2).setCell ⟨w.heap.size + 1 + 1 + 1, 0, none⟩ (.bool nz)).setCell ⟨w.heap.size + 1 + 1 + 1, 1, none⟩ (.slice a3 n3 c3)).setCell ⟨w.heap.size + 1 + 1 + 1, 2, none⟩ (.int .i64 t)) (w.heap.size + 1 + 1) 47 #[.bool nx, .slice a n cc, .int .i64 t] := ((Q1.off 0 (.bool nz) (by omega)).off 1 (.slice a3 n3 c3) (by omega)).off 2 (.int .i64 t) (by omega)
          have P2 : Row ((((V2).setCell ⟨w.heap.size + 1 + 1 + 1, 0, none⟩ (.bool nz)).setCell ⟨w.heap.size + 1 + 1 + 1, 1, none⟩ (.slice a3 n3 c3)).setCell ⟨w.heap.size + 1 + 1 + 1, 2, none⟩ (.int .i64 t)) (w.heap.size + 1 + 1 + 1) 47 #[.bool nz, .slice a3 n3 c3, .int .i64 t] := Row.set3N Q2 _ _ _
          have D1 : DgAt ((((V2).setCell ⟨w.heap.size + 1 + 1 + 1, 0, none⟩ (.bool nz)).setCell ⟨w.heap.size + 1 + 1 + 1, 1, none⟩ (.slice a3 n3 c3)).setCell ⟨w.heap.size + 1 + 1 + 1, 2, none⟩ (.int .i64 t)) (.slice a n cc) (digs x.natAbs) := ((E1.offN l1.2 0 (.bool nz)).offN l1.2 1 (.slice a3 n3 c3)).offN l1.2 2 (.int .i64 t)
          have D2 : DgAt ((((V2).setCell ⟨w.heap.size + 1 + 1 + 1, 0, none⟩ (.bool nz)).setCell ⟨w.heap.size + 1 + 1 + 1, 1, none⟩ (.slice a3 n3 c3)).setCell ⟨w.heap.size + 1 + 1 + 1, 2, none⟩ (.int .i64 t)) (.slice a3 n3 c3) (digs z.natAbs) := ((E2.offN l2.2 0 (.bool nz)).offN l2.2 1 (.slice a3 n3 c3)).offN l2.2 2 (.int .i64 t)
          have B2 : Below w.heap.size w ((((V2).setCell ⟨w.heap.size + 1 + 1 + 1, 0, none⟩ (.bool nz)).setCell ⟨w.heap.size + 1 + 1 + 1, 1, none⟩ (.slice a3 n3 c3)).setCell ⟨w.heap.size + 1 + 1 + 1, 2, none⟩ (.int .i64 t)) := below_set (below_set (below_set BE 0 _ (by omega)) 1 _ (by omega)) 2 _ (by omega)
          refine wpM_one 4 rfl (by kernel_rfl) rfl ?_
          go_wp2_with fail
          refine ⟨fun h => by simp at h, ?_⟩
          refine wpM_done (by kernel_rfl) ?_
          go_wp2
          refine bodyPost_ret (ret_cct rfl (g := w.heap.size + 1 + 1) (g' := w.heap.size + 1 + 1 + 1) rfl rfl rfl (load45 P1 rfl) (load45 P2 rfl)) rfl ⟨k, j, .slice a n cc, .slice a3 n3 c3, ?_, ?_, by omega, hk36, hj36, ?_, ?_, B2⟩
          · rw [HC3.out.1, HC3.out.2, HZ.out]
            unfold numC
            rw [HNX.out, HNZ.out]
            rfl
          · rw [HC3.out.2, HT.out]
          · rw [HC3.out.1]; exact D1
          · rw [HZ.out]; exact D2
end Go.Proofs.YtfbhonjndepjbaaDoor
/- two: where one of both is none. -/
namespace Go.Proofs.YtfbhonjndepjbaaDoor
open Go.RowKit

theorem Row.off3 {W : World} {B : Nat} {t : TypeId} {cs : Array Value} (h : Row W B t cs) {B' : Nat} (hne : B ≠ B') (a b c : Value) :
    Row (((W.setCell ⟨B', 0, none⟩ a).setCell ⟨B', 1, none⟩ b).setCell ⟨B', 2, none⟩ c) B t cs := ((h.off 0 a hne).off 1 b hne).off 2 c hne
set_option maxRecDepth 100000 in
set_option maxHeartbeats 2000000 in
theorem two_bad (c e d f : Int) (hc : I64 c) (hd : I64 d) (w : World) (hb : ¬((-18 ≤ e ∧ e ≤ 18) ∧ (-18 ≤ f ∧ f ≤ 18))) : Calls Tryd.prog 44 #[.agg #[.int .i64 c, .int .i64 e], .agg #[.int .i64 d, .int .i64 f]] w fun r w' => r = .returned (.tuple #[.agg zeroC, .agg zeroC, .bool false]) ∧ Below w.heap.size w w' := by
  obtain ⟨okc, HOC⟩ : ∃ okc, Hid (decide (-18 ≤ e ∧ e ≤ 18) = okc) := ⟨_, rfl⟩
  obtain ⟨okd, HOD⟩ : ∃ okd, Hid (decide (-18 ≤ f ∧ f ≤ 18) = okd) := ⟨_, rfl⟩
  have hbad : okc = false ∨ okc = true ∧ okd = false := by
    rw [← HOC.out, ← HOD.out]
    by_cases h : -18 ≤ e ∧ e ≤ 18
    · right
      exact ⟨decide_eq_true h, decide_eq_false fun h2 => hb ⟨h, h2⟩⟩
    · left; exact decide_eq_false h
  clear hb
  have HC : ∀ W, Hid (Calls Tryd.prog 53 #[.agg #[.int .i64 c, .int .i64 e]] W _) := fun W => num_any c e hc W
  have HD : ∀ W, Hid (Calls Tryd.prog 53 #[.agg #[.int .i64 d, .int .i64 f]] W _) := fun W => num_any d f hd W
  rw [HOC.out] at HC
  rw [HOD.out] at HD
  go_enter Tryd.func44, Tryd.ntmps44
  go_wp2_with fail
  have r1 := ((Row.new1 w (.cells #[.int .i64 c, .int .i64 e] 23) 23 #[.int .i64 d, .int .i64 f]).alloc (.cells zeroC 47)).alloc (.cells zeroC 47)
  have r2 := (Row.new ((w.alloc (.cells #[.int .i64 c, .int .i64 e] 23)).alloc (.cells #[.int .i64 d, .int .i64 f] 23)) 47 zeroC).alloc (.cells zeroC 47)
  have r3 := Row.new (((w.alloc (.cells #[.int .i64 c, .int .i64 e] 23)).alloc (.cells #[.int .i64 d, .int .i64 f] 23)).alloc (.cells zeroC 47)) 47 zeroC
  have hB := ((((Below.refl _ w).alloc (Nat.le_refl _) (.cells #[.int .i64 c, .int .i64 e] 23)).alloc (by simp) (.cells #[.int .i64 d, .int .i64 f] 23)).alloc (by simp; omega) (.cells zeroC 47)).alloc (by simp; omega) (.cells zeroC 47)
  have hWs : w.heap.size + 4 ≤ ((((w.alloc (.cells #[.int .i64 c, .int .i64 e] 23)).alloc (.cells #[.int .i64 d, .int .i64 f] 23)).alloc (.cells zeroC 47)).alloc (.cells zeroC 47)).heap.size := by simp
  simp only [World.size_alloc] at r2 r3
  show Calls Tryd.prog 53 #[.agg #[.int .i64 c, .int .i64 e]] ((((w.alloc (.cells #[.int .i64 c, .int .i64 e] 23)).alloc (.cells #[.int .i64 d, .int .i64 f] 23)).alloc (.cells zeroC 47)).alloc (.cells zeroC 47)) _
  generalize (((w.alloc (.cells #[.int .i64 c, .int .i64 e] 23)).alloc (.cells #[.int .i64 d, .int .i64 f] 23)).alloc (.cells zeroC 47)).alloc (.cells zeroC 47) = W at *
  refine Calls.mono (HC W).out ?_
  rintro _ w1 ⟨s1, rfl, hD1, hN1, b1⟩
  obtain ⟨_, a1, c1, rfl, _, _⟩ := id hD1
  obtain ⟨nc, HNC⟩ : ∃ nc, Hid (decide (c < 0) = nc) := ⟨_, rfl⟩
  rw [HNC.out]
  obtain ⟨lc, HLC⟩ : ∃ lc, Hid ((digs c.natAbs).length = lc) := ⟨_, rfl⟩
  rw [HLC.out] at hD1 hN1
  rw [HLC.out]
  clear HC
  have q1 := (r1.below b1 r1.lt).alloc (.cells #[.bool nc, .slice a1 lc c1, .int .i64 e] 47)
  obtain ⟨x0, x1⟩ := q1.duo
  go_wp2_with fail
  have r4 := Row.new w1 47 #[.bool nc, .slice a1 lc c1, .int .i64 e]
  have b2 : Below W.heap.size W (w1.alloc (.cells #[.bool nc, .slice a1 lc c1, .int .i64 e] 47)) := b1.alloc b1.size _
  have hX : W.heap.size ≤ w1.heap.size := b1.size
  have b21 : Below w1.heap.size w1 (w1.alloc (.cells #[.bool nc, .slice a1 lc c1, .int .i64 e] 47)) := (Below.refl _ w1).alloc (Nat.le_refl _) _
  have hD2 := hD1.below b21
  have hM1 : ∀ K, W.heap.size ≤ K → w1.heap.size ≤ K → NeS K (.slice a1 lc c1) := fun K _ h => hD1.ne h
  have hM2 : ∀ K, K < W.heap.size → NeS K (.slice a1 lc c1) := fun K h => hN1.ne h
  have hsz : (w1.alloc (.cells #[.bool nc, .slice a1 lc c1, .int .i64 e] 47)).heap.size = w1.heap.size + 1 := by simp
  generalize w1.alloc (.cells #[.bool nc, .slice a1 lc c1, .int .i64 e] 47) = W2 at *
  generalize w1.heap.size = X at *
  clear q1 x0 x1 hD1 hN1 b1 b21
  refine Calls.mono (HD W2).out ?_
  rintro _ w2 ⟨s2, rfl, hD3, hN3, b3⟩
  obtain ⟨_, a2, c2, rfl, _, _⟩ := id hD3
  obtain ⟨nd, HND⟩ : ∃ nd, Hid (decide (d < 0) = nd) := ⟨_, rfl⟩
  rw [HND.out]
  obtain ⟨ld, HLD⟩ : ∃ ld, Hid ((digs d.natAbs).length = ld) := ⟨_, rfl⟩
  rw [HLD.out] at hD3 hN3
  rw [HLD.out]
  clear HD
  have b4 : Below W2.heap.size W2 (w2.alloc (.cells #[.bool nd, .slice a2 ld c2, .int .i64 f] 47)) := b3.alloc b3.size _
  have z1 : Row (w2.alloc (.cells #[.bool nd, .slice a2 ld c2, .int .i64 f] 47)) (w.heap.size + 1 + 1) 47 #[.bool false, .slice none 0 0, .int .i64 0] := (r2.below b2 r2.lt).below b4 (r2.below b2 r2.lt).lt
  have z2 : Row (w2.alloc (.cells #[.bool nd, .slice a2 ld c2, .int .i64 f] 47)) (w.heap.size + 1 + 1 + 1) 47 #[.bool false, .slice none 0 0, .int .i64 0] := (r3.below b2 r3.lt).below b4 (r3.below b2 r3.lt).lt
  have BE : Below w.heap.size w (w2.alloc (.cells #[.bool nd, .slice a2 ld c2, .int .i64 f] 47)) := (hB.trans (b2.mono (by omega))).trans (b4.mono (by omega))
  clear r1 r2 r3 hB r4 b2 hX hD2 hM1 hM2 hsz hD3 hN3 b3 b4 HOC HOD
  generalize hW5 : w2.alloc (.cells #[.bool nd, .slice a2 ld c2, .int .i64 f] 47) = V at *
  have Z1 : Row ((((V).setCell ⟨w.heap.size + 1 + 1, 0, none⟩ (.bool false)).setCell ⟨w.heap.size + 1 + 1, 1, none⟩ (.slice none 0 0)).setCell ⟨w.heap.size + 1 + 1, 2, none⟩ (.int .i64 0)) (w.heap.size + 1 + 1) 47 #[.bool false, .slice none 0 0, .int .i64 0] := Row.set3N z1 _ _ _
  have Z2 : Row ((((V).setCell ⟨w.heap.size + 1 + 1, 0, none⟩ (.bool false)).setCell ⟨w.heap.size + 1 + 1, 1, none⟩ (.slice none 0 0)).setCell ⟨w.heap.size + 1 + 1, 2, none⟩ (.int .i64 0)) (w.heap.size + 1 + 1 + 1) 47 #[.bool false, .slice none 0 0, .int .i64 0] := z2.off3 (by omega) _ _ _
  have B1 : Below w.heap.size w ((((V).setCell ⟨w.heap.size + 1 + 1, 0, none⟩ (.bool false)).setCell ⟨w.heap.size + 1 + 1, 1, none⟩ (.slice none 0 0)).setCell ⟨w.heap.size + 1 + 1, 2, none⟩ (.int .i64 0)) := below_set (below_set (below_set BE 0 _ (by omega)) 1 _ (by omega)) 2 _ (by omega)
  have Y1 : Row (((((((V).setCell ⟨w.heap.size + 1 + 1, 0, none⟩ (.bool false)).setCell ⟨w.heap.size + 1 + 1, 1, none⟩ (.slice none 0 0)).setCell ⟨w.heap.size + 1 + 1, 2, none⟩ (.int .i64 0)).setCell ⟨w.heap.size + 1 + 1 + 1, 0, none⟩ (.bool false)).setCell ⟨w.heap.size + 1 + 1 + 1, 1, none⟩ (.slice none 0 0)).setCell ⟨w.heap.size + 1 + 1 + 1, 2, none⟩ (.int .i64 0)) (w.heap.size + 1 + 1) 47 #[.bool false, .slice none 0 0, .int .i64 0] := Z1.off3 (by omega) _ _ _
  have Y2 : Row (((((((V).setCell ⟨w.heap.size + 1 + 1, 0, none⟩ (.bool false)).setCell ⟨w.heap.size + 1 + 1, 1, none⟩ (.slice none 0 0)).setCell ⟨w.heap.size + 1 + 1, 2, none⟩ (.int .i64 0)).setCell ⟨w.heap.size + 1 + 1 + 1, 0, none⟩ (.bool false)).setCell ⟨w.heap.size + 1 + 1 + 1, 1, none⟩ (.slice none 0 0)).setCell ⟨w.heap.size + 1 + 1 + 1, 2, none⟩ (.int .i64 0)) (w.heap.size + 1 + 1 + 1) 47 #[.bool false, .slice none 0 0, .int .i64 0] := Row.set3N Z2 _ _ _
  have B2 : Below w.heap.size w (((((((V).setCell ⟨w.heap.size + 1 + 1, 0, none⟩ (.bool false)).setCell ⟨w.heap.size + 1 + 1, 1, none⟩ (.slice none 0 0)).setCell ⟨w.heap.size + 1 + 1, 2, none⟩ (.int .i64 0)).setCell ⟨w.heap.size + 1 + 1 + 1, 0, none⟩ (.bool false)).setCell ⟨w.heap.size + 1 + 1 + 1, 1, none⟩ (.slice none 0 0)).setCell ⟨w.heap.size + 1 + 1 + 1, 2, none⟩ (.int .i64 0)) := below_set (below_set (below_set B1 0 _ (by omega)) 1 _ (by omega)) 2 _ (by omega)
  obtain ⟨y0, y1, y2⟩ := z1.tri
  obtain ⟨y3, y4, y5⟩ := Z2.tri
  have zf := z1.frozen
  have zg := Z2.frozen
  rcases hbad with rfl | ⟨rfl, rfl⟩
  · go_wp2_with fail
    exact bodyPost_ret (ret_cct rfl (g := w.heap.size + 1 + 1) (g' := w.heap.size + 1 + 1 + 1) rfl rfl rfl (load45 Y1 rfl) (load45 Y2 rfl)) rfl ⟨rfl, B2⟩
  · go_wp2_with fail
    exact bodyPost_ret (ret_cct rfl (g := w.heap.size + 1 + 1) (g' := w.heap.size + 1 + 1 + 1) rfl rfl rfl (load45 Y1 rfl) (load45 Y2 rfl)) rfl ⟨rfl, B2⟩
end Go.Proofs.YtfbhonjndepjbaaDoor
/- The document's Add. -/
namespace Go.Proofs.YtfbhonjndepjbaaDoor
open Go.RowKit

theorem dec_form' (o : Option (Int × Int)) : ∃ p q s, decV o = .tuple #[.agg #[.int .i64 p, .int .i64 q], .int .i64 s] := by
  rcases o with _ | ⟨p, q⟩
  · exact ⟨_, _, _, rfl⟩
  · exact ⟨_, _, _, rfl⟩
end Go.Proofs.YtfbhonjndepjbaaDoor
/- The document's Sub. -/
namespace Go.Proofs.YtfbhonjndepjbaaDoor
open Go.RowKit

end Go.Proofs.YtfbhonjndepjbaaDoor
/- The document's Add, Sub, where one of both is none; Neg. -/
namespace Go.Proofs.YtfbhonjndepjbaaDoor
open Go.RowKit

end Go.Proofs.YtfbhonjndepjbaaDoor
/- The program's Add, Sub, Neg, Mul in the document's words. -/
namespace Go.Proofs.YtfbhonjndepjbaaDoor
open Go.RowKit

end Go.Proofs.YtfbhonjndepjbaaDoor
/- The document's Mul, given its Times. -/
namespace Go.Proofs.YtfbhonjndepjbaaDoor
open Go.RowKit

end Go.Proofs.YtfbhonjndepjbaaDoor
/- The document's Div and Pow, where they refuse. -/
namespace Go.Proofs.YtfbhonjndepjbaaDoor
open Go.RowKit

set_option maxRecDepth 100000 in
set_option maxHeartbeats 16000000 in
theorem rdiv_bad (c e d f : Int) (hc : I64 c) (hd : I64 d) (w : World) (hb : ¬((-18 ≤ e ∧ e ≤ 18) ∧ (-18 ≤ f ∧ f ≤ 18))) : Calls Tryd.prog 19 #[.agg #[.int .i64 c, .int .i64 e], .agg #[.int .i64 d, .int .i64 f]] w fun r w' => r = .returned argV ∧ Below w.heap.size w w' := by
  have HC : ∀ W, Hid (Calls Tryd.prog 53 #[.agg #[.int .i64 c, .int .i64 e]] W _) := fun W => num_any c e hc W
  have HD : ∀ W, Hid (Calls Tryd.prog 53 #[.agg #[.int .i64 d, .int .i64 f]] W _) := fun W => num_any d f hd W
  obtain ⟨okc, HOC⟩ : ∃ okc, Hid (decide (-18 ≤ e ∧ e ≤ 18) = okc) := ⟨_, rfl⟩
  obtain ⟨okd, HOD⟩ : ∃ okd, Hid (decide (-18 ≤ f ∧ f ≤ 18) = okd) := ⟨_, rfl⟩
  have hbad : okc = false ∨ okc = true ∧ okd = false := by
    rw [← HOC.out, ← HOD.out]
    by_cases h : -18 ≤ e ∧ e ≤ 18
    · right
      exact ⟨decide_eq_true h, decide_eq_false fun h2 => hb ⟨h, h2⟩⟩
    · left; exact decide_eq_false h
  clear hb
  rw [HOC.out] at HC
  rw [HOD.out] at HD
  go_enter Tryd.func19, Tryd.ntmps19
  go_wp2_with fail
  have r1 := (Row.new1 w (.cells #[.int .i64 c, .int .i64 e] 23) 23 #[.int .i64 d, .int .i64 f]).alloc (.cells #[.int .i64 0, .int .i64 0] 23)
  have r2 := Row.new ((w.alloc (.cells #[.int .i64 c, .int .i64 e] 23)).alloc (.cells #[.int .i64 d, .int .i64 f] 23)) 23 #[.int .i64 0, .int .i64 0]
  have hB := (((Below.refl _ w).alloc (Nat.le_refl _) (.cells #[.int .i64 c, .int .i64 e] 23)).alloc (by simp) (.cells #[.int .i64 d, .int .i64 f] 23)).alloc (by simp; omega) (.cells #[.int .i64 0, .int .i64 0] 23)
  have hWs : w.heap.size + 3 ≤ (((((w.alloc (.cells #[.int .i64 c, .int .i64 e] 23)).alloc (.cells #[.int .i64 d, .int .i64 f] 23)).alloc (.cells #[.int .i64 0, .int .i64 0] 23)))).heap.size := by simp
  simp only [World.size_alloc] at r2
  generalize ((((w.alloc (.cells #[.int .i64 c, .int .i64 e] 23)).alloc (.cells #[.int .i64 d, .int .i64 f] 23)).alloc (.cells #[.int .i64 0, .int .i64 0] 23))) = W at *
  refine Calls.mono (HC W).out ?_
  rintro _ w1 ⟨s1, rfl, hD1, hN1, b1⟩
  clear HC hN1
  obtain ⟨_, a1, c1, rfl, _, _⟩ := id hD1
  obtain ⟨nc, HNC⟩ : ∃ nc, Hid (decide (c < 0) = nc) := ⟨_, rfl⟩
  rw [HNC.out]
  obtain ⟨lc, HLC⟩ : ∃ lc, Hid ((digs c.natAbs).length = lc) := ⟨_, rfl⟩
  rw [HLC.out] at hD1
  rw [HLC.out]
  have q1 := (r1.below b1 r1.lt).alloc (.cells #[.bool nc, .slice a1 lc c1, .int .i64 e] 47)
  obtain ⟨x0, x1⟩ := q1.duo
  go_wp2_with fail
  have r4 := Row.new w1 47 #[.bool nc, .slice a1 lc c1, .int .i64 e]
  have b2 : Below W.heap.size W (w1.alloc (.cells #[.bool nc, .slice a1 lc c1, .int .i64 e] 47)) := b1.alloc b1.size _
  have hD2 := hD1.below ((Below.refl _ w1).alloc (Nat.le_refl _) (.cells #[.bool nc, .slice a1 lc c1, .int .i64 e] 47))
  clear q1 x0 x1 hD1
  generalize w1.alloc (.cells #[.bool nc, .slice a1 lc c1, .int .i64 e] 47) = W2 at *
  generalize w1.heap.size = X at *
  refine Calls.mono (HD W2).out ?_
  rintro _ w2 ⟨s2, rfl, hD3, hN3, b3⟩
  clear HD hN3
  obtain ⟨_, a2, c2, rfl, _, _⟩ := id hD3
  obtain ⟨nd, HND⟩ : ∃ nd, Hid (decide (d < 0) = nd) := ⟨_, rfl⟩
  rw [HND.out]
  obtain ⟨ld, HLD⟩ : ∃ ld, Hid ((digs d.natAbs).length = ld) := ⟨_, rfl⟩
  rw [HLD.out] at hD3
  rw [HLD.out]
  have py := Row.new w2 47 #[.bool nd, .slice a2 ld c2, .int .i64 f]
  have b4 : Below W2.heap.size W2 (w2.alloc (.cells #[.bool nd, .slice a2 ld c2, .int .i64 f] 47)) := b3.alloc b3.size _
  have eY := hD3.below ((Below.refl _ w2).alloc (Nat.le_refl _) (.cells #[.bool nd, .slice a2 ld c2, .int .i64 f] 47))
  have eX := hD2.below b4
  have px := r4.below b4 r4.lt
  have hrx := (r2.below b2 r2.lt).below b4 (r2.below b2 r2.lt).lt
  have hBe := (hB.trans (b2.mono (by omega))).trans (b4.mono (Nat.le_trans (by omega) b2.size))
  clear r1 r2 hB r4 hD2 hD3 b1 b2 b3 b4
  generalize hW5 : w2.alloc (.cells #[.bool nd, .slice a2 ld c2, .int .i64 f] 47) = wr at *
  generalize hYg : w2.heap.size = Y at *
  clear px py eX eY
  obtain ⟨y0, y1⟩ := hrx.duo
  have zf := hrx.frozen
  have hZe := Row.set2 hrx (.int .i64 0) (.int .i64 0)
  have hBg := below_set (below_set hBe (B := w.heap.size + 1 + 1) 0 (.int .i64 0) (by omega)) (B := w.heap.size + 1 + 1) 1 (.int .i64 0) (by omega)
  rcases hbad with rfl | ⟨rfl, rfl⟩
  · go_wp2_with fail
    exact bodyPost_ret (ret_two rfl (g := w.heap.size + 1 + 1) rfl rfl (load23 hZe rfl)) rfl ⟨rfl, hBg⟩
  · go_wp2_with fail
    exact bodyPost_ret (ret_two rfl (g := w.heap.size + 1 + 1) rfl rfl (load23 hZe rfl)) rfl ⟨rfl, hBg⟩
set_option maxRecDepth 100000 in
set_option maxHeartbeats 16000000 in
theorem rpow_bad (c e d f : Int) (hc : I64 c) (hd : I64 d) (w : World) (hb : ¬((-18 ≤ e ∧ e ≤ 18) ∧ (-18 ≤ f ∧ f ≤ 18))) : Calls Tryd.prog 23 #[.agg #[.int .i64 c, .int .i64 e], .agg #[.int .i64 d, .int .i64 f]] w fun r w' => r = .returned argV ∧ Below w.heap.size w w' := by
  have HC : ∀ W, Hid (Calls Tryd.prog 53 #[.agg #[.int .i64 c, .int .i64 e]] W _) := fun W => num_any c e hc W
  have HD : ∀ W, Hid (Calls Tryd.prog 53 #[.agg #[.int .i64 d, .int .i64 f]] W _) := fun W => num_any d f hd W
  obtain ⟨okc, HOC⟩ : ∃ okc, Hid (decide (-18 ≤ e ∧ e ≤ 18) = okc) := ⟨_, rfl⟩
  obtain ⟨okd, HOD⟩ : ∃ okd, Hid (decide (-18 ≤ f ∧ f ≤ 18) = okd) := ⟨_, rfl⟩
  have hbad : okc = false ∨ okc = true ∧ okd = false := by
    rw [← HOC.out, ← HOD.out]
    by_cases h : -18 ≤ e ∧ e ≤ 18
    · right
      exact ⟨decide_eq_true h, decide_eq_false fun h2 => hb ⟨h, h2⟩⟩
    · left; exact decide_eq_false h
  clear hb
  rw [HOC.out] at HC
  rw [HOD.out] at HD
  go_enter Tryd.func23, Tryd.ntmps23
  go_wp2_with fail
  have r1 := (Row.new1 w (.cells #[.int .i64 c, .int .i64 e] 23) 23 #[.int .i64 d, .int .i64 f]).alloc (.cells #[.int .i64 0, .int .i64 0] 23)
  have r2 := Row.new ((w.alloc (.cells #[.int .i64 c, .int .i64 e] 23)).alloc (.cells #[.int .i64 d, .int .i64 f] 23)) 23 #[.int .i64 0, .int .i64 0]
  have hB := (((Below.refl _ w).alloc (Nat.le_refl _) (.cells #[.int .i64 c, .int .i64 e] 23)).alloc (by simp) (.cells #[.int .i64 d, .int .i64 f] 23)).alloc (by simp; omega) (.cells #[.int .i64 0, .int .i64 0] 23)
  have hWs : w.heap.size + 3 ≤ (((((w.alloc (.cells #[.int .i64 c, .int .i64 e] 23)).alloc (.cells #[.int .i64 d, .int .i64 f] 23)).alloc (.cells #[.int .i64 0, .int .i64 0] 23)))).heap.size := by simp
  simp only [World.size_alloc] at r2
  generalize ((((w.alloc (.cells #[.int .i64 c, .int .i64 e] 23)).alloc (.cells #[.int .i64 d, .int .i64 f] 23)).alloc (.cells #[.int .i64 0, .int .i64 0] 23))) = W at *
  refine Calls.mono (HC W).out ?_
  rintro _ w1 ⟨s1, rfl, hD1, hN1, b1⟩
  clear HC hN1
  obtain ⟨_, a1, c1, rfl, _, _⟩ := id hD1
  obtain ⟨nc, HNC⟩ : ∃ nc, Hid (decide (c < 0) = nc) := ⟨_, rfl⟩
  rw [HNC.out]
  obtain ⟨lc, HLC⟩ : ∃ lc, Hid ((digs c.natAbs).length = lc) := ⟨_, rfl⟩
  rw [HLC.out] at hD1
  rw [HLC.out]
  have q1 := (r1.below b1 r1.lt).alloc (.cells #[.bool nc, .slice a1 lc c1, .int .i64 e] 47)
  obtain ⟨x0, x1⟩ := q1.duo
  go_wp2_with fail
  have r4 := Row.new w1 47 #[.bool nc, .slice a1 lc c1, .int .i64 e]
  have b2 : Below W.heap.size W (w1.alloc (.cells #[.bool nc, .slice a1 lc c1, .int .i64 e] 47)) := b1.alloc b1.size _
  have hD2 := hD1.below ((Below.refl _ w1).alloc (Nat.le_refl _) (.cells #[.bool nc, .slice a1 lc c1, .int .i64 e] 47))
  clear q1 x0 x1 hD1
  generalize w1.alloc (.cells #[.bool nc, .slice a1 lc c1, .int .i64 e] 47) = W2 at *
  generalize w1.heap.size = X at *
  refine Calls.mono (HD W2).out ?_
  rintro _ w2 ⟨s2, rfl, hD3, hN3, b3⟩
  clear HD hN3
  obtain ⟨_, a2, c2, rfl, _, _⟩ := id hD3
  obtain ⟨nd, HND⟩ : ∃ nd, Hid (decide (d < 0) = nd) := ⟨_, rfl⟩
  rw [HND.out]
  obtain ⟨ld, HLD⟩ : ∃ ld, Hid ((digs d.natAbs).length = ld) := ⟨_, rfl⟩
  rw [HLD.out] at hD3
  rw [HLD.out]
  have py := Row.new w2 47 #[.bool nd, .slice a2 ld c2, .int .i64 f]
  have b4 : Below W2.heap.size W2 (w2.alloc (.cells #[.bool nd, .slice a2 ld c2, .int .i64 f] 47)) := b3.alloc b3.size _
  have eY := hD3.below ((Below.refl _ w2).alloc (Nat.le_refl _) (.cells #[.bool nd, .slice a2 ld c2, .int .i64 f] 47))
  have eX := hD2.below b4
  have px := r4.below b4 r4.lt
  have hrx := (r2.below b2 r2.lt).below b4 (r2.below b2 r2.lt).lt
  have hBe := (hB.trans (b2.mono (by omega))).trans (b4.mono (Nat.le_trans (by omega) b2.size))
  clear r1 r2 hB r4 hD2 hD3 b1 b2 b3 b4
  generalize hW5 : w2.alloc (.cells #[.bool nd, .slice a2 ld c2, .int .i64 f] 47) = wr at *
  generalize hYg : w2.heap.size = Y at *
  clear px py eX eY
  obtain ⟨y0, y1⟩ := hrx.duo
  have zf := hrx.frozen
  have hZe := Row.set2 hrx (.int .i64 0) (.int .i64 0)
  have hBg := below_set (below_set hBe (B := w.heap.size + 1 + 1) 0 (.int .i64 0) (by omega)) (B := w.heap.size + 1 + 1) 1 (.int .i64 0) (by omega)
  rcases hbad with rfl | ⟨rfl, rfl⟩
  · go_wp2_with fail
    exact bodyPost_ret (ret_two rfl (g := w.heap.size + 1 + 1) rfl rfl (load23 hZe rfl)) rfl ⟨rfl, hBg⟩
  · go_wp2_with fail
    exact bodyPost_ret (ret_two rfl (g := w.heap.size + 1 + 1) rfl rfl (load23 hZe rfl)) rfl ⟨rfl, hBg⟩
set_option maxRecDepth 100000 in
set_option maxHeartbeats 16000000 in
theorem rdiv_zero (c e d f : Int) (hc : I64 c) (hd : I64 d) (w : World) (he1 : -18 ≤ e) (he2 : e ≤ 18) (hf1 : -18 ≤ f) (hf2 : f ≤ 18) (h0 : d = 0) : Calls Tryd.prog 19 #[.agg #[.int .i64 c, .int .i64 e], .agg #[.int .i64 d, .int .i64 f]] w fun r w' => r = .returned divV ∧ Below w.heap.size w w' := by
  have HC : ∀ W, Hid (Calls Tryd.prog 53 #[.agg #[.int .i64 c, .int .i64 e]] W _) := fun W => num_any c e hc W
  have HD : ∀ W, Hid (Calls Tryd.prog 53 #[.agg #[.int .i64 d, .int .i64 f]] W _) := fun W => num_any d f hd W
  rw [decide_eq_true (show -18 ≤ e ∧ e ≤ 18 from ⟨he1, he2⟩)] at HC
  rw [decide_eq_true (show -18 ≤ f ∧ f ≤ 18 from ⟨hf1, hf2⟩)] at HD
  have HL0 : Hid ((digs d.natAbs).length = 0) := by
    show (digs d.natAbs).length = 0
    rw [h0, Int.natAbs_zero, digs_zero]
    rfl
  clear h0
  go_enter Tryd.func19, Tryd.ntmps19
  go_wp2_with fail
  have r1 := (Row.new1 w (.cells #[.int .i64 c, .int .i64 e] 23) 23 #[.int .i64 d, .int .i64 f]).alloc (.cells #[.int .i64 0, .int .i64 0] 23)
  have r2 := Row.new ((w.alloc (.cells #[.int .i64 c, .int .i64 e] 23)).alloc (.cells #[.int .i64 d, .int .i64 f] 23)) 23 #[.int .i64 0, .int .i64 0]
  have hB := (((Below.refl _ w).alloc (Nat.le_refl _) (.cells #[.int .i64 c, .int .i64 e] 23)).alloc (by simp) (.cells #[.int .i64 d, .int .i64 f] 23)).alloc (by simp; omega) (.cells #[.int .i64 0, .int .i64 0] 23)
  have hWs : w.heap.size + 3 ≤ (((((w.alloc (.cells #[.int .i64 c, .int .i64 e] 23)).alloc (.cells #[.int .i64 d, .int .i64 f] 23)).alloc (.cells #[.int .i64 0, .int .i64 0] 23)))).heap.size := by simp
  simp only [World.size_alloc] at r2
  generalize ((((w.alloc (.cells #[.int .i64 c, .int .i64 e] 23)).alloc (.cells #[.int .i64 d, .int .i64 f] 23)).alloc (.cells #[.int .i64 0, .int .i64 0] 23))) = W at *
  refine Calls.mono (HC W).out ?_
  rintro _ w1 ⟨s1, rfl, hD1, hN1, b1⟩
  clear HC hN1
  obtain ⟨_, a1, c1, rfl, _, _⟩ := id hD1
  obtain ⟨nc, HNC⟩ : ∃ nc, Hid (decide (c < 0) = nc) := ⟨_, rfl⟩
  rw [HNC.out]
  obtain ⟨lc, HLC⟩ : ∃ lc, Hid ((digs c.natAbs).length = lc) := ⟨_, rfl⟩
  rw [HLC.out] at hD1
  rw [HLC.out]
  have q1 := (r1.below b1 r1.lt).alloc (.cells #[.bool nc, .slice a1 lc c1, .int .i64 e] 47)
  obtain ⟨x0, x1⟩ := q1.duo
  go_wp2_with fail
  have r4 := Row.new w1 47 #[.bool nc, .slice a1 lc c1, .int .i64 e]
  have b2 : Below W.heap.size W (w1.alloc (.cells #[.bool nc, .slice a1 lc c1, .int .i64 e] 47)) := b1.alloc b1.size _
  have hD2 := hD1.below ((Below.refl _ w1).alloc (Nat.le_refl _) (.cells #[.bool nc, .slice a1 lc c1, .int .i64 e] 47))
  clear q1 x0 x1 hD1
  generalize w1.alloc (.cells #[.bool nc, .slice a1 lc c1, .int .i64 e] 47) = W2 at *
  generalize w1.heap.size = X at *
  refine Calls.mono (HD W2).out ?_
  rintro _ w2 ⟨s2, rfl, hD3, hN3, b3⟩
  clear HD hN3
  obtain ⟨_, a2, c2, rfl, _, _⟩ := id hD3
  obtain ⟨nd, HND⟩ : ∃ nd, Hid (decide (d < 0) = nd) := ⟨_, rfl⟩
  rw [HND.out]
  obtain ⟨ld, HLD⟩ : ∃ ld, Hid ((digs d.natAbs).length = ld) := ⟨_, rfl⟩
  rw [HLD.out] at hD3
  rw [HLD.out]
  have py := Row.new w2 47 #[.bool nd, .slice a2 ld c2, .int .i64 f]
  have b4 : Below W2.heap.size W2 (w2.alloc (.cells #[.bool nd, .slice a2 ld c2, .int .i64 f] 47)) := b3.alloc b3.size _
  have eY := hD3.below ((Below.refl _ w2).alloc (Nat.le_refl _) (.cells #[.bool nd, .slice a2 ld c2, .int .i64 f] 47))
  have eX := hD2.below b4
  have px := r4.below b4 r4.lt
  have hrx := (r2.below b2 r2.lt).below b4 (r2.below b2 r2.lt).lt
  have hBe := (hB.trans (b2.mono (by omega))).trans (b4.mono (Nat.le_trans (by omega) b2.size))
  clear r1 r2 hB r4 hD2 hD3 b1 b2 b3 b4
  generalize hW5 : w2.alloc (.cells #[.bool nd, .slice a2 ld c2, .int .i64 f] 47) = wr at *
  generalize hYg : w2.heap.size = Y at *
  have hl0 : ld = 0 := by rw [← HLD.out]; exact HL0.out
  subst hl0
  obtain ⟨t0, t1, t2⟩ := py.tri
  clear px py eX eY
  obtain ⟨y0, y1⟩ := hrx.duo
  have zf := hrx.frozen
  have hZe := Row.set2 hrx (.int .i64 0) (.int .i64 0)
  have hBg := below_set (below_set hBe (B := w.heap.size + 1 + 1) 0 (.int .i64 0) (by omega)) (B := w.heap.size + 1 + 1) 1 (.int .i64 0) (by omega)
  go_wp2_with fail
  exact bodyPost_ret (ret_two rfl (g := w.heap.size + 1 + 1) rfl rfl (load23 hZe rfl)) rfl ⟨rfl, hBg⟩
end Go.Proofs.YtfbhonjndepjbaaDoor
/- Times: a product. -/
namespace Go.Proofs.YtfbhonjndepjbaaDoor
open Go.RowKit

theorem make41b (n : Nat) (hn : n ≤ 3000) (w : World) : (Instr.makeSlice 43 (.int .i64 (n : Int)) (.int .i64 (n : Int))).run Tryd.prog w = .ok (.slice (some ⟨w.heap.size, 0, none⟩) n n) (w.alloc (.cells (madeCells #[.int .i64 0] n) 3)) := by
  obtain ⟨i0, hi, hzz⟩ := Option.map_eq_some_iff.1 Tryd.info3
  simp only [Prod.mk.injEq] at hzz
  obtain ⟨hz0, hz1, hz2⟩ := hzz
  have := run_makeSlice (P := Tryd.prog) w 43 3 i0 _ Tryd.underlying43 hi hz0 .i64 .i64 (n : Int) (n : Int) (by omega) (by omega) (by rw [hz1]; simp; omega) (by rw [hz2]; omega) (by omega)
  rw [hz1] at this
  simpa [Value.cells] using this
set_option maxRecDepth 100000 in
set_option maxHeartbeats 4000000 in
theorem times_digs (na nb : Bool) (sa sb : Value) (da db : List Int) (w : World) (hA : DgAt w sa da) (hB : DgAt w sb db) (ga : DgL da) (gb : DgL db) (la : da.length ≤ 1400) (lb : db.length ≤ 40) :
    Calls Tryd.prog 54 #[bv na sa, bv nb sb] w fun r w' => ∃ v', r = .returned v' ∧ (∃ ps, DgL ps ∧ dval ps = dval da * dval db ∧ BigV w' (bval (na != nb) ps) v') ∧ NewV w.heap.size v' ∧ Below w.heap.size w w' := by
  obtain ⟨_, a1, c1, rfl, _, _⟩ := id hA
  obtain ⟨_, a2, c2, rfl, _, _⟩ := id hB
  have HA : Hid (DgAt w (.slice a1 da.length c1) da) := hA
  have HB : Hid (DgAt w (.slice a2 db.length c2) db) := hB
  have HGA : Hid (DgL da) := ga
  have HGB : Hid (DgL db) := gb
  unfold bv
  clear hA hB ga gb
  obtain ⟨n, hn⟩ : ∃ n, da.length + db.length + 1 = n := ⟨_, rfl⟩
  have mk0 : ∀ W : World, (Instr.makeSlice 43 (.int .i64 ((da.length : Int) + (db.length : Int) + 1)) (.int .i64 ((da.length : Int) + (db.length : Int) + 1))).run Tryd.prog W = .ok (.slice (some ⟨W.heap.size, 0, none⟩) n n) (W.alloc (.cells (dcell (List.replicate n 0)) 3)) := fun W => by
    rw [← hn, ← dcell_zeros]
    exact make41b (da.length + db.length + 1) (by omega) W
  go_enter Tryd.func54, Tryd.ntmps54
  go_wp2_with fail
  have r1 := ((Row.new w 45 #[.bool na, .slice a1 da.length c1]).alloc (.cells #[.bool nb, .slice a2 db.length c2] 45)).alloc (.cells #[.bool false, .slice none 0 0] 45)
  have r2 := (Row.new1 w (.cells #[.bool na, .slice a1 da.length c1] 45) 45 #[.bool nb, .slice a2 db.length c2]).alloc (.cells #[.bool false, .slice none 0 0] 45)
  have r3 := Row.new ((w.alloc (.cells #[.bool na, .slice a1 da.length c1] 45)).alloc (.cells #[.bool nb, .slice a2 db.length c2] 45)) 45 #[.bool false, .slice none 0 0]
  have hB0 := (((Below.refl _ w).alloc (Nat.le_refl _) (.cells #[.bool na, .slice a1 da.length c1] 45)).alloc (by simp) (.cells #[.bool nb, .slice a2 db.length c2] 45)).alloc (by simp; omega) (.cells #[.bool false, .slice none 0 0] 45)
  have hWs : ((((w.alloc (.cells #[.bool na, .slice a1 da.length c1] 45)).alloc (.cells #[.bool nb, .slice a2 db.length c2] 45)).alloc (.cells #[.bool false, .slice none 0 0] 45))).heap.size = w.heap.size + 1 + 1 + 1 := by simp
  simp only [World.size_alloc] at r3
  generalize ((w.alloc (.cells #[.bool na, .slice a1 da.length c1] 45)).alloc (.cells #[.bool nb, .slice a2 db.length c2] 45)).alloc (.cells #[.bool false, .slice none 0 0] 45) = W at *
  have mk := mk0 W
  rw [hWs] at mk
  have HT0 : Hid (TiSt w na nb (.slice a1 da.length c1) (.slice a2 db.length c2) (List.replicate n 0) (W.alloc (.cells (dcell (List.replicate n 0)) 3))) :=
    ⟨r1.alloc _, r2.alloc _, r3.alloc _, by rw [← hWs]; exact Row.new W 3 _, hB0.alloc hB0.size _⟩
  obtain ⟨d0, d1⟩ := r1.duo
  obtain ⟨e0, e1⟩ := r2.duo
  clear mk0
  go_wp2_with fail
  clear d0 d1 e0 e1 r1 r2 r3 hB0 mk
  generalize W.alloc (.cells (dcell (List.replicate n 0)) 3) = W1 at *
  clear hWs
  obtain ⟨D, hD⟩ : ∃ D, w.heap.size + 1 + 1 + 1 = D := ⟨_, rfl⟩
  have HDe : Hid (w.heap.size + 1 + 1 + 1 = D) := hD
  rw [hD]
  clear hD
  go_loopw [6, 7, 8] (fun v6 v7 v8 wr => ∃ (i : Nat) (ds : List Int), i ≤ da.length ∧ v6 = .int .i64 (i : Int) ∧ ds.length = n ∧ Hid (OuAt da db ds i) ∧ Hid (TiSt w na nb (.slice a1 da.length c1) (.slice a2 db.length c2) ds wr)) (fun v6 _ _ _ => da.length - (intOf v6).toNat)
  case atStart => exact ⟨0, List.replicate n 0, Nat.zero_le _, rfl, List.length_replicate, OuAt.start _ _ _, HT0⟩
  case round =>
    obtain ⟨i, ds, hi, rfl, hl, HO, HT⟩ := hrel
    clear HT0
    obtain ⟨d0, d1⟩ := HT.out.ra.duo
    obtain ⟨e0, e1⟩ := HT.out.rb.duo
    by_cases hi2 : i < da.length
    · obtain ⟨b1, o1, rfl, hb1, hx0⟩ := HA.out.1.at i hi2
      obtain ⟨x, hx⟩ : ∃ x, da[i]?.getD 0 = x := ⟨_, rfl⟩
      have hxb := HGA.out.get i
      rw [hx] at hx0 hxb
      have HX : Hid (∀ V, Below w.heap.size w V → V.cell? ⟨b1, o1 + i, none⟩ = some (.int .i64 x)) := fun V hV => (World.cell?_of_block (w := w) (a := ⟨b1, o1 + i, none⟩) (hV.block b1 hb1)).trans hx0
      have HXE : Hid (da[i]?.getD 0 = x) := hx
      have HP0 : Hid (PrAt (dval (da.take i) * dval db) x i db ds 0) := by
        have := HO.out.first
        rw [hx] at this
        exact this
      clear hx hx0 hb1
      go_wp2_with fail
      clear d0 d1 e0 e1
      go_loopw [7] (fun v7 wk => ∃ (k : Nat) (es : List Int), k ≤ db.length ∧ v7 = .int .i64 (k : Int) ∧ es.length = n ∧ Hid (PrAt (dval (da.take i) * dval db) x i db es k) ∧ Hid (TiSt w na nb (.slice (some ⟨b1, o1, none⟩) da.length c1) (.slice a2 db.length c2) es wk)) (fun v7 _ => db.length - (intOf v7).toNat)
      case atStart => exact ⟨0, ds, Nat.zero_le _, rfl, hl, HP0, HT⟩
      case round =>
        clear HP0 HT HO hl
        obtain ⟨k, es, hk, rfl, hes, HPr, HT⟩ := hrel
        obtain ⟨wk, hwk⟩ : ∃ wk, wk = wr := ⟨_, rfl⟩
        clear hwk
        by_cases hk2 : k < db.length
        · obtain ⟨b2, o2, rfl, hb2, hy0⟩ := HB.out.1.at k hk2
          obtain ⟨y, hy⟩ : ∃ y, db[k]?.getD 0 = y := ⟨_, rfl⟩
          have hyb := HGB.out.get k
          rw [hy] at hy0 hyb
          obtain ⟨m, hm⟩ : ∃ m, i + k = m := ⟨_, rfl⟩
          have hmn : m < n := by omega
          obtain ⟨z, hz⟩ : ∃ z, es[m]?.getD 0 = z := ⟨_, rfl⟩
          have hz1 := HPr.out.lo m
          have hz2 := HPr.out.hi m
          rw [hz] at hz1 hz2
          have hz3 : z ≤ 90 := by split at hz2 <;> omega
          clear hz2
          obtain ⟨p, hp⟩ : ∃ p, x * y = p := ⟨_, rfl⟩
          have hpb := mul_dig hxb hyb
          rw [hp] at hpb
          obtain ⟨q, hq⟩ : ∃ q, z + p = q := ⟨_, rfl⟩
          have HP2 : Hid (PrAt (dval (da.take i) * dval db) x i db (es.set m q) (k + 1)) := by
            have := HPr.out.step hxb HGB.out hk2 (by rw [hes]; omega)
            rw [hm, hz, hy, hp, hq] at this
            exact this
          have w1 : IntKind.i64.wrap ((i : Int) + (k : Int)) = (m : Int) := by rw [IntKind.wrap_i64]; omega
          have w2 : IntKind.i64.wrap (x * y) = p := by rw [hp, IntKind.wrap_i64]; omega
          have w3 : IntKind.i64.wrap (z + p) = q := by rw [hq, IntKind.wrap_i64]; omega
          have HTd := HT.out
          obtain ⟨d0, d1⟩ := HTd.ra.duo
          obtain ⟨e0, e1⟩ := HTd.rb.duo
          have x1 := HX.out _ HTd.be
          have y1 : wr.cell? ⟨b2, o2 + k, none⟩ = some (.int .i64 y) := (World.cell?_of_block (w := w) (a := ⟨b2, o2 + k, none⟩) (HTd.be.block b2 hb2)).trans hy0
          have z1 := HTd.at m (by rw [hes]; exact hmn)
          have zf := HTd.rd.frozen m
          rw [HDe.out] at z1 zf
          rw [hz] at z1
          have HT2 : Hid (TiSt w na nb (.slice (some ⟨b1, o1, none⟩) da.length c1) (.slice (some ⟨b2, o2, none⟩) db.length c2) (es.set m q) (wr.setCell ⟨D, m, none⟩ (.int .i64 q)).drew) := by
            have := (HTd.set m q).drew
            rw [HDe.out] at this
            exact this
          have hes2 : (es.set m q).length = n := by rw [List.length_set]; exact hes
          clear HTd hb2 hy0 hp hq hz hy HPr HT hm
          go_wp2_with fail
          go_region
          all_goals go_wp2
          all_goals go_roundw
          case rel => exact ⟨k + 1, es.set m q, by omega, by go_num, hes2, HP2, HT2⟩
          case measure => simp [intOf]; omega
        · obtain rfl : k = db.length := by omega
          have HC0 : Hid (CaAt (dval (da.take i) * dval db + x * 10 ^ i * dval db) es 0) := HPr.out.carry rfl
          obtain ⟨d0, d1⟩ := HT.out.rb.duo
          clear HPr
          go_wp2_with fail
          clear d0 d1
          go_loopw [8] (fun v8 wk => ∃ (j : Nat) (fs : List Int), j + 1 ≤ n ∧ v8 = .int .i64 (j : Int) ∧ fs.length = n ∧ Hid (CaAt (dval (da.take i) * dval db + x * 10 ^ i * dval db) fs j) ∧ Hid (TiSt w na nb (.slice (some ⟨b1, o1, none⟩) da.length c1) (.slice a2 db.length c2) fs wk)) (fun v8 _ => n - (intOf v8).toNat)
          case atStart => exact ⟨0, es, by omega, rfl, hes, HC0, HT⟩
          case round =>
            clear HC0 HT hes
            obtain ⟨j, fs, hj, rfl, hfs, HC, HT⟩ := hrel
            by_cases hj2 : j + 1 < n
            · have hj3 : (j : Int) + 1 < (n : Int) := by omega
              obtain ⟨m, hm⟩ : ∃ m, j + 1 = m := ⟨_, rfl⟩
              have hmn : m < n := by omega
              obtain ⟨u, hu⟩ : ∃ u, fs[j]?.getD 0 = u := ⟨_, rfl⟩
              obtain ⟨z, hz⟩ : ∃ z, fs[m]?.getD 0 = z := ⟨_, rfl⟩
              have hu1 := HC.out.lo j
              have hu2 := HC.out.hi j
              have hz1 := HC.out.lo m
              have hz2 := HC.out.hi m
              rw [hu] at hu1 hu2
              rw [hz] at hz1 hz2
              have hu3 : u ≤ 100 := by split at hu2 <;> (try split at hu2) <;> omega
              have hz3 : z ≤ 100 := by split at hz2 <;> (try split at hz2) <;> omega
              clear hu2 hz2
              obtain ⟨c, hc⟩ : ∃ c, u.tdiv 10 = c := ⟨_, rfl⟩
              obtain ⟨r, hr⟩ : ∃ r, u.tmod 10 = r := ⟨_, rfl⟩
              have hcd : c = u / 10 := by rw [← hc, Int.tdiv_eq_ediv_of_nonneg hu1]
              have hrd : r = u % 10 := by rw [← hr, Int.tmod_eq_emod_of_nonneg hu1]
              obtain ⟨q, hq⟩ : ∃ q, z + c = q := ⟨_, rfl⟩
              have HC2 : Hid (CaAt (dval (da.take i) * dval db + x * 10 ^ i * dval db) ((fs.set m q).set j r) m) := by
                have := HC.out.step (by rw [hfs]; exact hj2)
                rw [hm, hz, hu, ← hcd, ← hrd, hq] at this
                exact this
              have w1 : IntKind.i64.wrap ((j : Int) + 1) = (m : Int) := by rw [IntKind.wrap_i64]; omega
              have w3 : IntKind.i64.wrap (z + c) = q := by rw [hq, IntKind.wrap_i64]; omega
              have hrb : 0 ≤ r ∧ r ≤ 9 := by omega
              have hcb : 0 ≤ c ∧ c ≤ 10 := by omega
              have w4 : IntKind.i64.wrap c = c := by rw [IntKind.wrap_i64]; omega
              have w5 : IntKind.i64.wrap r = r := by rw [IntKind.wrap_i64]; omega
              have HTd := HT.out
              have z1 := HTd.at m (by rw [hfs]; exact hmn)
              have u1 := HTd.at j (by rw [hfs]; omega)
              have zf := HTd.rd.frozen m
              have HTe := (HTd.set m q).drew
              have u2 := HTe.at j (by rw [List.length_set, hfs]; omega)
              rw [List.getElem?_set_ne (by omega), hu] at u2
              have uf := HTe.rd.frozen j
              rw [hz] at z1
              rw [hu] at u1
              have HT2 : Hid (TiSt w na nb (.slice (some ⟨b1, o1, none⟩) da.length c1) (.slice a2 db.length c2) ((fs.set m q).set j r) ((wr.setCell ⟨D, m, none⟩ (.int .i64 q)).drew.setCell ⟨D, j, none⟩ (.int .i64 r))) := by
                have := HTe.set j r
                rw [HDe.out] at this
                exact this
              rw [HDe.out] at z1 zf u1 u2 uf
              have HU : Hid ((wr.setCell ⟨D, m, none⟩ (.int .i64 q)).drew.cell? ⟨D, j, none⟩ = some (.int .i64 u)) := u2
              have HF : Hid ((wr.setCell ⟨D, m, none⟩ (.int .i64 q)).drew.frozen? ⟨D, j, none⟩ = false) := uf
              have hfs2 : ((fs.set m q).set j r).length = n := by rw [List.length_set, List.length_set]; exact hfs
              clear HTd HTe hcd hrd hz hu HC HT u2 uf hq
              go_wp2_with fail
              go_region
              all_goals generalize (wr.setCell ⟨D, m, none⟩ (.int .i64 q)).drew = wq at *
              all_goals have u2 := HU.out
              all_goals have uf := HF.out
              all_goals go_wp2
              all_goals go_roundw
              case rel => exact ⟨m, (fs.set m q).set j r, by omega, by have := hm; subst this; go_num, hfs2, HC2, HT2⟩
              case measure => simp [intOf]; omega
            · have hj3 : ¬ (j : Int) + 1 < (n : Int) := by omega
              have HN : Hid (OuAt da db fs (i + 1)) := by
                refine OuAt.next (k := j) hi2 HGA.out HGB.out ?_ (by omega) (by omega)
                rw [HXE.out]
                exact HC.out
              clear HC
              go_wp2
              go_roundw
              case rel => exact ⟨i + 1, fs, by omega, by go_num, hfs, HN, HT⟩
              case measure => simp [intOf]; omega
    · obtain rfl : i = da.length := by omega
      have hT := HT.out
      have HD2 : Hid (DgAt wr (.slice (some ⟨D, 0, none⟩) n n) ds) := by
        have := hT.dg hl
        rw [HDe.out] at this
        exact this
      have HTR : Hid (∀ ng : Bool, Calls Tryd.prog 59 #[.agg #[.bool ng, .slice (some ⟨D, 0, none⟩) n n]] wr fun r w' => ∃ v, r = .returned v ∧ BigV w' (bval ng ds) v ∧ NewV wr.heap.size v ∧ Below wr.heap.size wr w') := fun ng => trim_newB ng _ ds wr HD2.out HO.out.dg (by omega)
      have hlt := hT.rz.lt
      have HP : Hid (DgL ds ∧ dval ds = dval da * dval db) := ⟨HO.out.dg, by rw [HO.out.val, List.take_length]⟩
      clear HD2 HO
      go_wp2_with fail
      refine Calls.mono (HTR.out _) ?_
      rintro _ w2 ⟨v2, rfl, hV2, hN2, b2⟩
      have HNW : Hid (NewV w.heap.size v2) := hN2.mono hT.be.size
      clear hN2
      obtain ⟨s2, rfl, hD2⟩ := hV2
      obtain ⟨_, a3, c3, rfl, _, _⟩ := id hD2
      have p2 := hT.rz.below b2 hlt
      obtain ⟨y0, y1⟩ := p2.duo
      have zf := p2.frozen
      obtain ⟨sg, HSG⟩ : ∃ sg, Hid (decide (bval (!(na == nb)) ds < 0) = sg) := ⟨_, rfl⟩
      unfold bv
      rw [HSG.out]
      have hBx := hT.be.trans (b2.mono hT.be.size)
      have hBe := below_set (below_set hBx (B := w.heap.size + 1 + 1) 0 (.bool sg) (by omega)) (B := w.heap.size + 1 + 1) 1 (.slice a3 (digs (bval (!(na == nb)) ds).natAbs).length c3) (by omega)
      have hZe := Row.set2 p2 (.bool sg) (.slice a3 (digs (bval (!(na == nb)) ds).natAbs).length c3)
      have hDe := hD2.store p2 (.bool sg) (.slice a3 (digs (bval (!(na == nb)) ds).natAbs).length c3)
      have HZ : Hid _ := hZe
      have HE : Hid _ := hBe
      have HW : Hid _ := hDe
      clear hBe hDe hZe hBx hD2 d0 d1 e0 e1 hT HT HTR
      go_wp2
      exact bodyPost_ret (ret_one rfl (g := w.heap.size + 1 + 1) rfl (load43 HZ.out rfl)) rfl ⟨_, rfl, ⟨ds, HP.out.1, HP.out.2, _, by show _ = bv (decide (bval (!(na == nb)) ds < 0)) _; rw [HSG.out]; rfl, HW.out⟩, by have := HNW.out; rw [HSG.out] at this; exact this, HE.out⟩
theorem bval_sign (x y : Int) (ps : List Int) (h : dval ps = (x.natAbs : Int) * (y.natAbs : Int)) : bval (decide (x < 0) != decide (y < 0)) ps = x * y := by
  unfold bval
  rw [h]
  rcases Int.lt_or_le x 0 with hx | hx <;> rcases Int.lt_or_le y 0 with hy | hy
  · rw [decide_eq_true hx, decide_eq_true hy, show ((x.natAbs : Int)) = -x by omega, show ((y.natAbs : Int)) = -y by omega, Int.neg_mul_neg]; rfl
  · rw [decide_eq_true hx, decide_eq_false (by omega), show ((x.natAbs : Int)) = -x by omega, show ((y.natAbs : Int)) = y by omega, Int.neg_mul]; simp
  · rw [decide_eq_false (by omega), decide_eq_true hy, show ((x.natAbs : Int)) = x by omega, show ((y.natAbs : Int)) = -y by omega, Int.mul_neg]; simp
  · rw [decide_eq_false (by omega), decide_eq_false (by omega), show ((x.natAbs : Int)) = x by omega, show ((y.natAbs : Int)) = y by omega]; rfl
theorem rtimes_new (x y : Int) (v u : Value) (w : World) (hx : BigV w x v) (hy : BigV w y u) (lx : (digs x.natAbs).length ≤ 1400) (ly : (digs y.natAbs).length ≤ 40) :
    Calls Tryd.prog 54 #[v, u] w fun r w' => ∃ v', r = .returned v' ∧ BigV w' (x * y) v' ∧ NewV w.heap.size v' ∧ Below w.heap.size w w' := by
  obtain ⟨sa, rfl, hA⟩ := hx
  obtain ⟨sb, rfl, hB⟩ := hy
  refine (times_digs _ _ sa sb _ _ w hA hB (digs_dg _) (digs_dg _) lx ly).mono ?_
  rintro r w' ⟨v', h1, ⟨ps, _, h3, h4⟩, hN, h5⟩
  rw [dval_digs, dval_digs] at h3
  rw [bval_sign x y ps h3] at h4
  exact ⟨v', h1, h4, hN, h5⟩
end Go.Proofs.YtfbhonjndepjbaaDoor
/- DecSums' walk, given Times. -/
namespace Go.Proofs.YtfbhonjndepjbaaDoor
open Go.RowKit

/-- The boxes of the law. -/
structure SuAt (w : World) (X Y : Nat) (c e d f p q p' q' : Int) (W : World) : Prop where
  a : Row W w.heap.size 23 #[.int .i64 c, .int .i64 e]
  b : Row W (w.heap.size + 1) 23 #[.int .i64 d, .int .i64 f]
  x : Row W X 23 #[.int .i64 p, .int .i64 q]
  y : Row W Y 23 #[.int .i64 p', .int .i64 q']
  below : Below w.heap.size w W
theorem SuAt.mono {w W V : World} {X Y : Nat} {c e d f p q p' q' : Int} (h : SuAt w X Y c e d f p q p' q' W) (hb : Below W.heap.size W V) : SuAt w X Y c e d f p q p' q' V :=
  ⟨h.a.below hb h.a.lt, h.b.below hb h.b.lt, h.x.below hb h.x.lt, h.y.below hb h.y.lt, h.below.trans (hb.mono h.below.size)⟩
theorem SuAt.putX {w W : World} {X Y : Nat} {c e d f p q p' q' : Int} (h : SuAt w X Y c e d f p q p' q' W) (hX : w.heap.size + 1 < X) (hXY : X < Y) (r s : Int) : SuAt w X Y c e d f r s p' q' ((W.setCell ⟨X, 0, none⟩ (.int .i64 r)).setCell ⟨X, 1, none⟩ (.int .i64 s)) :=
  ⟨(h.a.off 0 _ (by omega)).off 1 _ (by omega), (h.b.off 0 _ (by omega)).off 1 _ (by omega), Row.set2 h.x _ _, (h.y.off 0 _ (by omega)).off 1 _ (by omega), below_set (below_set h.below 0 _ (by omega)) 1 _ (by omega)⟩
theorem SuAt.putY {w W : World} {X Y : Nat} {c e d f p q p' q' : Int} (h : SuAt w X Y c e d f p q p' q' W) (hX : w.heap.size + 1 < X) (hXY : X < Y) (r s : Int) : SuAt w X Y c e d f p q r s ((W.setCell ⟨Y, 0, none⟩ (.int .i64 r)).setCell ⟨Y, 1, none⟩ (.int .i64 s)) :=
  ⟨(h.a.off 0 _ (by omega)).off 1 _ (by omega), (h.b.off 0 _ (by omega)).off 1 _ (by omega), (h.x.off 0 _ (by omega)).off 1 _ (by omega), Row.set2 h.y _ _, below_set (below_set h.below 0 _ (by omega)) 1 _ (by omega)⟩
end Go.Proofs.YtfbhonjndepjbaaDoor
