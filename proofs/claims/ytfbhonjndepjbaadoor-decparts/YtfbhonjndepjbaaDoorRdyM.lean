import Derived.Test.YtfbhonjndepjbaaDoorRdv
import Derived.Test.YtfbhonjndepjbaaDoorRtxM
import Derived.Test.YtfbhonjndepjbaaDoorRpoM
import Derived.Test.YtfbhonjndepjbaaDoorRpoM
import Derived.Test.YtfbhonjndepjbaaDoorRpd2
import Derived.Test.YtfbhonjndepjbaaDoorPqpM
import Derived.Test.YtfbhonjndepjbaaDoorWddM
import Derived.Test.YtfbhonjndepjbaaDoorWpwM
import Derived.Test.YtfbhonjndepjbaaDoorWddM
import Derived.Test.YtfbhonjndepjbaaDoorRmdM
import Derived.Test.YtfbhonjndepjbaaDoorWalM
/- dec: Div and Pow, the program's and the document's, in the same words. -/
namespace Go.Proofs.YtfbhonjndepjbaaDoor
open Go.RowKit

/-- What Div answers. -/
def divD (c e d f : Int) : Value := if (-18 ≤ e ∧ e ≤ 18) ∧ (-18 ≤ f ∧ f ≤ 18) then (if d = 0 then divV else decV (divO c e d f)) else argV
theorem pdiv_any (c e d g : Int) (hc : I64 c) (hd : I64 d) (V : World) : Calls Tryd.prog 18 #[.agg #[.int .i64 c, .int .i64 e], .agg #[.int .i64 d, .int .i64 g]] V fun r w' => r = .returned (divD c e d g) ∧ Below V.heap.size V w' := by
  unfold divD
  by_cases he : within e
  · by_cases hg : within g
    · by_cases h0 : d = 0
      · subst h0
        have h := div_zero c e g hc he hg V
        rw [if_pos ⟨he, hg⟩, if_pos rfl]
        exact h
      · have h := div_any c e d g hc hd h0 V
        rw [if_pos ⟨he, hg⟩, if_neg h0]
        unfold twoV at h
        rw [if_pos ⟨he, hg⟩, div_doc c e d g hd h0] at h
        exact h
    · rw [if_neg (fun h => hg h.2)]
      exact op_18 c e d g 0 0 1 (fun w => divided_bad2 56 c e d g hc he hg w) V
  · rw [if_neg (fun h => he h.1)]
    exact op_18 c e d g 0 0 1 (fun w => divided_bad1 56 c e d g he w) V
theorem rdiv_any (c e d f : Int) (hc : I64 c) (hd : I64 d) (V : World) : Calls Tryd.prog 19 #[.agg #[.int .i64 c, .int .i64 e], .agg #[.int .i64 d, .int .i64 f]] V fun r w' => r = .returned (divD c e d f) ∧ Below V.heap.size V w' := by
  unfold divD
  by_cases hb : (-18 ≤ e ∧ e ≤ 18) ∧ (-18 ≤ f ∧ f ≤ 18)
  · rw [if_pos hb]
    by_cases h0 : d = 0
    · rw [if_pos h0]
      exact rdiv_zero c e d f hc hd V hb.1.1 hb.1.2 hb.2.1 hb.2.2 h0
    · rw [if_neg h0]
      exact rdiv_ok c e d f hc hd V hb.1.1 hb.1.2 hb.2.1 hb.2.2 h0
  · rw [if_neg hb]
    exact rdiv_bad c e d f hc hd V hb
theorem rpow_any (c e d f : Int) (hc : I64 c) (hd : I64 d) (V : World) : Calls Tryd.prog 23 #[.agg #[.int .i64 c, .int .i64 e], .agg #[.int .i64 d, .int .i64 f]] V fun r w' => r = .returned (powV c e d f) ∧ Below V.heap.size V w' := by
  unfold powV
  by_cases hb : (-18 ≤ e ∧ e ≤ 18) ∧ (-18 ≤ f ∧ f ≤ 18)
  · rw [if_pos hb]
    obtain ⟨⟨he1, he2⟩, hf1, hf2⟩ := hb
    have hI : intV d f = intW (decW d f) := by
      unfold intV
      rw [if_pos ⟨hf1, hf2⟩]
    by_cases hw : 0 ≤ (decW d f).e ∧ (decW d f).n * 10 ^ (decW d f).e.toNat ≤ 9007199254740992
    · rw [if_pos hw]
      have hI2 : intV d f = .tuple #[.int .i64 (sc (decW d f) * 10 ^ (decW d f).e.toNat), .bool true] := by
        rw [hI]
        unfold intW
        rw [if_pos hw]
      generalize sc (decW d f) * 10 ^ (decW d f).e.toNat = n at *
      unfold powA
      by_cases hl : n < -64
      · rw [if_pos (.inl hl)]
        exact rpow_low c e d f hc hd V he1 he2 hf1 hf2 n hl hI2
      by_cases hh : 64 < n
      · rw [if_pos (.inr hh)]
        exact rpow_high c e d f hc hd V he1 he2 hf1 hf2 n hh hI2
      rw [if_neg (by omega)]
      by_cases hn : n < 0
      · rw [if_pos hn]
        by_cases h0 : c = 0
        · rw [if_pos ((dec_zero c e).2 h0)]
          exact rpow_nil c e d f hc hd V he1 he2 hf1 hf2 n hn (by omega) h0 hI2
        · rw [if_neg (fun h => h0 ((dec_zero c e).1 h))]
          obtain ⟨k, hk⟩ : ∃ k : Nat, n = -(k : Int) := ⟨n.natAbs, by omega⟩
          obtain ⟨u, z, hu, hu10⟩ := strip_ex (c.natAbs ^ k) (by
            have : 0 < c.natAbs := by omega
            exact Nat.pos_iff_ne_zero.1 (Nat.pow_pos this))
          rw [show n.natAbs = k by omega]
          have hcn : c.natAbs ≤ 9223372036854775808 := by unfold I64 at hc; omega
          have hd2 := pow_down c e h0 hcn k (by omega) u z hu hu10
          unfold downP at hd2
          rw [hd2, ← pow_sign c h0 k]
          subst hk
          exact rpow_down c e d f hc hd V he1 he2 hf1 hf2 k (by omega) (by omega) h0 u z hu hu10 hI2
      · rw [if_neg hn]
        obtain ⟨k, rfl⟩ : ∃ k : Nat, n = (k : Int) := ⟨n.toNat, by omega⟩
        rw [Int.toNat_natCast, pow_up]
        exact rpow_up c e d f hc hd V he1 he2 hf1 hf2 k (by omega) hI2
    · rw [if_neg hw]
      have hI2 : intV d f = .tuple #[.int .i64 0, .bool false] := by
        rw [hI]
        unfold intW
        rw [if_neg hw]
      exact rpow_part c e d f hc hd V he1 he2 hf1 hf2 0 hI2
  · rw [if_neg hb]
    exact rpow_bad c e d f hc hd V hb
end Go.Proofs.YtfbhonjndepjbaaDoor
/- DecParts' walk. -/
namespace Go.Proofs.YtfbhonjndepjbaaDoor
open Go.RowKit

theorem divD_form (c e d f : Int) : ∃ p q s, divD c e d f = .tuple #[.agg #[.int .i64 p, .int .i64 q], .int .i64 s] := by
  unfold divD
  split
  · split
    · exact ⟨_, _, _, rfl⟩
    · exact dec_form' _
  · exact ⟨_, _, _, rfl⟩
theorem powV_form (c e d f : Int) : ∃ p q s, powV c e d f = .tuple #[.agg #[.int .i64 p, .int .i64 q], .int .i64 s] := by
  unfold powV
  split
  · split
    · unfold powA
      split
      · exact ⟨_, _, _, rfl⟩
      · split
        · split
          · exact ⟨_, _, _, rfl⟩
          · exact dec_form' _
        · exact dec_form' _
    · exact ⟨_, _, _, rfl⟩
  · exact ⟨_, _, _, rfl⟩
/-- The boxes of the law. -/
structure LqAt (w : World) (X Y : Nat) (c e d f p q p' q' : Int) (W : World) : Prop where
  a : Row W w.heap.size 23 #[.int .i64 c, .int .i64 e]
  b : Row W (w.heap.size + 1) 23 #[.int .i64 d, .int .i64 f]
  x : Row W X 23 #[.int .i64 p, .int .i64 q]
  y : Row W Y 23 #[.int .i64 p', .int .i64 q']
  below : Below w.heap.size w W
theorem LqAt.mono {w W V : World} {X Y : Nat} {c e d f p q p' q' : Int} (h : LqAt w X Y c e d f p q p' q' W) (hb : Below W.heap.size W V) : LqAt w X Y c e d f p q p' q' V :=
  ⟨h.a.below hb h.a.lt, h.b.below hb h.b.lt, h.x.below hb h.x.lt, h.y.below hb h.y.lt, h.below.trans (hb.mono h.below.size)⟩
theorem LqAt.putX {w W : World} {X Y : Nat} {c e d f p q p' q' : Int} (h : LqAt w X Y c e d f p q p' q' W) (hX : w.heap.size + 1 < X) (hXY : X < Y) (r s : Int) : LqAt w X Y c e d f r s p' q' ((W.setCell ⟨X, 0, none⟩ (.int .i64 r)).setCell ⟨X, 1, none⟩ (.int .i64 s)) :=
  ⟨(h.a.off 0 _ (by omega)).off 1 _ (by omega), (h.b.off 0 _ (by omega)).off 1 _ (by omega), Row.set2 h.x _ _, (h.y.off 0 _ (by omega)).off 1 _ (by omega), below_set (below_set h.below 0 _ (by omega)) 1 _ (by omega)⟩
theorem LqAt.putY {w W : World} {X Y : Nat} {c e d f p q p' q' : Int} (h : LqAt w X Y c e d f p q p' q' W) (hX : w.heap.size + 1 < X) (hXY : X < Y) (r s : Int) : LqAt w X Y c e d f p q r s ((W.setCell ⟨Y, 0, none⟩ (.int .i64 r)).setCell ⟨Y, 1, none⟩ (.int .i64 s)) :=
  ⟨(h.a.off 0 _ (by omega)).off 1 _ (by omega), (h.b.off 0 _ (by omega)).off 1 _ (by omega), (h.x.off 0 _ (by omega)).off 1 _ (by omega), Row.set2 h.y _ _, below_set (below_set h.below 0 _ (by omega)) 1 _ (by omega)⟩
set_option maxRecDepth 100000 in
set_option maxHeartbeats 4000000 in
theorem parts_any (c e d f : Int) (hc : I64 c) (hd : I64 d) (w : World) : Calls Tryd.prog 4 #[.agg #[.int .i64 c, .int .i64 e], .agg #[.int .i64 d, .int .i64 f]] w fun r w' => r = .returned (.bool true) ∧ Below w.heap.size w w' := by
  have HP1 : ∀ W, Hid (Calls Tryd.prog 18 #[.agg #[.int .i64 c, .int .i64 e], .agg #[.int .i64 d, .int .i64 f]] W _) := fun W => pdiv_any c e d f hc hd W
  have HR1 : ∀ W, Hid (Calls Tryd.prog 19 #[.agg #[.int .i64 c, .int .i64 e], .agg #[.int .i64 d, .int .i64 f]] W _) := fun W => rdiv_any c e d f hc hd W
  obtain ⟨p1, q1, s1, h1⟩ := divD_form c e d f
  rw [h1] at HP1 HR1
  clear h1
  have HP2 : ∀ W, Hid (Calls Tryd.prog 20 #[.agg #[.int .i64 c, .int .i64 e], .agg #[.int .i64 d, .int .i64 f]] W _) := fun W => pmod_any c e d f hc hd W
  have HR2 : ∀ W, Hid (Calls Tryd.prog 21 #[.agg #[.int .i64 c, .int .i64 e], .agg #[.int .i64 d, .int .i64 f]] W _) := fun W => rmod_any c e d f hc hd W
  obtain ⟨p2, q2, s2, h2⟩ := modD_form c e d f
  rw [h2] at HP2 HR2
  clear h2
  have HP3 : ∀ W, Hid (Calls Tryd.prog 22 #[.agg #[.int .i64 c, .int .i64 e], .agg #[.int .i64 d, .int .i64 f]] W _) := fun W => pow_any c e d f hc hd W
  have HR3 : ∀ W, Hid (Calls Tryd.prog 23 #[.agg #[.int .i64 c, .int .i64 e], .agg #[.int .i64 d, .int .i64 f]] W _) := fun W => rpow_any c e d f hc hd W
  obtain ⟨p3, q3, s3, h3⟩ := powV_form c e d f
  rw [h3] at HP3 HR3
  clear h3
  have HAL : ∀ W, Hid (Calls Tryd.prog 17 #[] W _) := alive_any
  go_enter Tryd.func4, Tryd.ntmps4
  go_wp2_with fail
  have ra := (Row.new w 23 #[.int .i64 c, .int .i64 e]).alloc (.cells #[.int .i64 d, .int .i64 f] 23)
  have rb := Row.new1 w (.cells #[.int .i64 c, .int .i64 e] 23) 23 #[.int .i64 d, .int .i64 f]
  have hB := ((Below.refl _ w).alloc (Nat.le_refl _) (.cells #[.int .i64 c, .int .i64 e] 23)).alloc (by simp) (.cells #[.int .i64 d, .int .i64 f] 23)
  have hWs : w.heap.size + 2 ≤ ((w.alloc (.cells #[.int .i64 c, .int .i64 e] 23)).alloc (.cells #[.int .i64 d, .int .i64 f] 23)).heap.size := by simp
  generalize (w.alloc (.cells #[.int .i64 c, .int .i64 e] 23)).alloc (.cells #[.int .i64 d, .int .i64 f] 23) = W at *
  refine Calls.mono (HP1 W).out ?_
  rintro _ w1 ⟨rfl, b1⟩
  have sa := (ra.below b1 ra.lt).alloc (.cells #[.int .i64 p1, .int .i64 q1] 23)
  have sb := (rb.below b1 rb.lt).alloc (.cells #[.int .i64 p1, .int .i64 q1] 23)
  have sx := Row.new w1 23 #[.int .i64 p1, .int .i64 q1]
  have b2 := b1.alloc b1.size (.cells #[.int .i64 p1, .int .i64 q1] 23)
  have hX := b1.size
  have hs1 : (w1.alloc (.cells #[.int .i64 p1, .int .i64 q1] 23)).heap.size = w1.heap.size + 1 := by simp
  obtain ⟨x0, x1⟩ := sa.duo
  obtain ⟨x2, x3⟩ := sb.duo
  clear HP1
  go_wp2_with fail
  clear x0 x1 x2 x3
  have hBW := hB.trans (b2.mono (by omega))
  generalize w1.alloc (.cells #[.int .i64 p1, .int .i64 q1] 23) = W2 at *
  generalize w1.heap.size = X at *
  clear ra rb hB b1 b2
  refine Calls.mono (HR1 W2).out ?_
  rintro _ w2 ⟨rfl, b3⟩
  have hT : LqAt w X w2.heap.size c e d f p1 q1 p1 q1 (w2.alloc (.cells #[.int .i64 p1, .int .i64 q1] 23)) := by
    have b4 := b3.alloc b3.size (.cells #[.int .i64 p1, .int .i64 q1] 23)
    exact ⟨sa.below b4 sa.lt, sb.below b4 sb.lt, sx.below b4 sx.lt, Row.new w2 23 _, hBW.trans (b4.mono (by have := hBW.size; omega))⟩
  have hX1 : w.heap.size + 1 < X := by omega
  have hXY : X < w2.heap.size := by have := b3.size; omega
  clear sa sb sx hBW b3 HR1 hWs hX hs1
  have y0 := hT.a.duo
  have y1 := hT.b.duo
  have y2 := hT.x.duo
  have y3 := hT.y.duo
  obtain ⟨a0, a1⟩ := y0
  obtain ⟨a2, a3⟩ := y1
  obtain ⟨a4, a5⟩ := y2
  obtain ⟨a6, a7⟩ := y3
  generalize hW5 : w2.alloc (.cells #[.int .i64 p1, .int .i64 q1] 23) = V1 at *
  generalize hYg : w2.heap.size = Y at *
  go_wp2_with fail
  clear hW5 hYg
  clear a0 a1 a2 a3 a4 a5 a6 a7
  refine Calls.mono (HP2 _).out ?_
  rintro _ u2 ⟨rfl, b⟩
  have hT1 := hT.mono b
  clear hT b HP2
  have hT2 := hT1.putX hX1 hXY p2 q2
  obtain ⟨a0, a1⟩ := hT1.x.duo
  have zf := hT1.x.frozen
  obtain ⟨a2, a3⟩ := hT2.a.duo
  obtain ⟨a4, a5⟩ := hT2.b.duo
  go_wp2_with fail
  clear a0 a1 zf a2 a3 a4 a5 hT1
  refine Calls.mono (HR2 _).out ?_
  rintro _ v2 ⟨rfl, b⟩
  have hT3 := hT2.mono b
  clear hT2 b HR2
  have hT := hT3.putY hX1 hXY p2 q2
  obtain ⟨z0, z1⟩ := hT3.y.duo
  have zf := hT3.y.frozen
  obtain ⟨a0, a1⟩ := hT.a.duo
  obtain ⟨a2, a3⟩ := hT.b.duo
  obtain ⟨a4, a5⟩ := hT.x.duo
  obtain ⟨a6, a7⟩ := hT.y.duo
  go_wp2_with fail
  clear z0 z1 zf hT3
  clear a0 a1 a2 a3 a4 a5 a6 a7
  refine Calls.mono (HP3 _).out ?_
  rintro _ u3 ⟨rfl, b⟩
  have hT1 := hT.mono b
  clear hT b HP3
  have hT2 := hT1.putX hX1 hXY p3 q3
  obtain ⟨a0, a1⟩ := hT1.x.duo
  have zf := hT1.x.frozen
  obtain ⟨a2, a3⟩ := hT2.a.duo
  obtain ⟨a4, a5⟩ := hT2.b.duo
  go_wp2_with fail
  clear a0 a1 zf a2 a3 a4 a5 hT1
  refine Calls.mono (HR3 _).out ?_
  rintro _ v3 ⟨rfl, b⟩
  have hT3 := hT2.mono b
  clear hT2 b HR3
  have hT := hT3.putY hX1 hXY p3 q3
  obtain ⟨z0, z1⟩ := hT3.y.duo
  have zf := hT3.y.frozen
  obtain ⟨a0, a1⟩ := hT.a.duo
  obtain ⟨a2, a3⟩ := hT.b.duo
  obtain ⟨a4, a5⟩ := hT.x.duo
  obtain ⟨a6, a7⟩ := hT.y.duo
  go_wp2_with fail
  clear z0 z1 zf hT3
  refine Calls.mono (HAL _).out ?_
  rintro _ wz ⟨rfl, b⟩
  have hZ := hT.below.trans (b.mono hT.below.size)
  go_wp2
  go_ret
  exact ⟨rfl, hZ⟩
end Go.Proofs.YtfbhonjndepjbaaDoor
