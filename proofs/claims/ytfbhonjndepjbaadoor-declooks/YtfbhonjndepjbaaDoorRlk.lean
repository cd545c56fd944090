import Derived.Test.YtfbhonjndepjbaaDoorRmlM
import Derived.Test.YtfbhonjndepjbaaDoorRmkM
import Derived.Test.YtfbhonjndepjbaaDoorRmkM
import Derived.Test.YtfbhonjndepjbaaDoorWcsM
import Derived.Test.YtfbhonjndepjbaaDoorWcsM
import Derived.Test.YtfbhonjndepjbaaDoorProM
import Derived.Test.YtfbhonjndepjbaaDoorProM
import Derived.Test.YtfbhonjndepjbaaDoorProM
import Derived.Laws.StructEq
/- DecLooks' walk, given the document's Int. -/
namespace Go.Proofs.YtfbhonjndepjbaaDoor
open Go.RowKit

theorem rround_any (c e pl : Int) (hc : I64 c) (w : World) : Calls Tryd.prog 33 #[.agg #[.int .i64 c, .int .i64 e], .int .i64 pl] w fun r w' => r = .returned (roundV c e pl) ∧ Below w.heap.size w w' := by
  unfold roundV
  by_cases he : -18 ≤ e ∧ e ≤ 18
  · by_cases hp : -18 ≤ pl ∧ pl ≤ 18
    · rw [if_pos ⟨he, hp⟩]
      by_cases h0 : 0 < -pl - e
      · rw [if_pos h0]
        exact rround_down c e pl hc he.1 he.2 hp.1 hp.2 h0 w (upN c.natAbs (-pl - e).toNat) rfl
      · rw [if_neg h0]
        exact rround_up c e pl hc he.1 he.2 hp.1 hp.2 (by omega) w
    · rw [if_neg (fun h => hp h.2)]
      exact rround_bad2 c e pl hc he hp w
  · rw [if_neg (fun h => he h.1)]
    exact rround_bad1 c e pl hc he w
theorem roundV_form (c e pl : Int) : ∃ p q s : Int, roundV c e pl = .tuple #[.agg #[.int .i64 p, .int .i64 q], .int .i64 s] := by
  unfold roundV
  split
  · split
    · exact decV_form _
    · exact decV_form _
  · exact ⟨0, 0, 1, rfl⟩
theorem floorV_form (c e : Int) : ∃ p q s : Int, floorV c e = .tuple #[.agg #[.int .i64 p, .int .i64 q], .int .i64 s] := by
  unfold floorV
  split
  · split
    · exact decV_form _
    · exact decV_form _
  · exact ⟨0, 0, 1, rfl⟩
/-- What Int answers. -/
def intV (c e : Int) : Value := if -18 ≤ e ∧ e ≤ 18 then intW (decW c e) else .tuple #[.int .i64 0, .bool false]
theorem intV_form (c e : Int) : ∃ (k : Int) (b : Bool), intV c e = .tuple #[.int .i64 k, .bool b] := by
  unfold intV intW
  split
  · split
    · exact ⟨_, _, rfl⟩
    · exact ⟨_, _, rfl⟩
  · exact ⟨_, _, rfl⟩
theorem pint_any (c e : Int) (hc : I64 c) (w : World) : Calls Tryd.prog 36 #[.agg #[.int .i64 c, .int .i64 e]] w fun r w' => r = .returned (intV c e) ∧ Below w.heap.size w w' := by
  unfold intV
  by_cases he : -18 ≤ e ∧ e ≤ 18
  · rw [if_pos he]
    by_cases hy : 0 ≤ (decW c e).e
    · exact int_ok c e hc he hy w
    · have h1 : intW (decW c e) = .tuple #[.int .i64 0, .bool false] := by unfold intW; rw [if_neg (fun h => hy h.1)]
      rw [h1]
      exact int_neg c e hc he (by omega) w
  · rw [if_neg he]
    exact int_bad c e he w
set_option maxRecDepth 100000 in
set_option maxHeartbeats 8000000 in
theorem looks_any (c e d f cc n : Int) (hc : I64 c) (hd : I64 d) (hcc : I64 cc) (hn : I64 n) (HI : ∀ W, Calls Tryd.prog 37 #[.agg #[.int .i64 c, .int .i64 e]] W fun r w' => r = .returned (intV c e) ∧ Below W.heap.size W w') (w : World) : Calls Tryd.prog 5 #[.agg #[.int .i64 c, .int .i64 e], .agg #[.int .i64 d, .int .i64 f], .int .i64 cc, .int .i64 n] w fun r w' => r = .returned (.bool true) ∧ Below w.heap.size w w' := by
  have HP1 : ∀ W, Hid (Calls Tryd.prog 24 #[.int .i64 cc, .int .i64 n] W _) := fun W => make_any cc n hcc hn W
  have HR1 : ∀ W, Hid (Calls Tryd.prog 25 #[.int .i64 cc, .int .i64 n] W _) := fun W => rmake_any cc n hcc W
  obtain ⟨p1, q1, s1, h1⟩ := decV_form (tell cc n)
  rw [h1] at HP1 HR1
  have HPA : ∀ W, Hid (Calls Tryd.prog 26 #[.agg #[.int .i64 c, .int .i64 e]] W _) := fun W => right_any c e hc W
  have HRA : ∀ W, Hid (Calls Tryd.prog 27 #[.agg #[.int .i64 c, .int .i64 e]] W _) := fun W => rright_any c e hc W
  obtain ⟨rb, hrb⟩ : ∃ rb, rightB c e = rb := ⟨_, rfl⟩
  rw [hrb] at HPA HRA
  have HPB : ∀ W, Hid (Calls Tryd.prog 28 #[.agg #[.int .i64 c, .int .i64 e], .agg #[.int .i64 d, .int .i64 f]] W _) := fun W => pcmp_any c e d f hc hd W
  have HRB : ∀ W, Hid (Calls Tryd.prog 29 #[.agg #[.int .i64 c, .int .i64 e], .agg #[.int .i64 d, .int .i64 f]] W _) := fun W => rcmp_any c e d f hc hd W
  obtain ⟨cm, hcm⟩ : ∃ cm, (if (-18 ≤ e ∧ e ≤ 18) ∧ (-18 ≤ f ∧ f ≤ 18) then (V (-18) c e - V (-18) d f).sign else 0) = cm := ⟨_, rfl⟩
  rw [hcm] at HPB HRB
  have HPC : ∀ W, Hid (Calls Tryd.prog 30 #[.agg #[.int .i64 c, .int .i64 e]] W _) := fun W => psign_any c e hc W
  have HRC : ∀ W, Hid (Calls Tryd.prog 31 #[.agg #[.int .i64 c, .int .i64 e]] W _) := fun W => rsign_any c e hc W
  obtain ⟨sn, hsn⟩ : ∃ sn, (if -18 ≤ e ∧ e ≤ 18 then (V (-18) c e).sign else 0) = sn := ⟨_, rfl⟩
  rw [hsn] at HPC HRC
  have HP2 : ∀ W, Hid (Calls Tryd.prog 32 #[.agg #[.int .i64 c, .int .i64 e], .int .i64 n] W _) := fun W => pround_any c e n hc W
  have HR2 : ∀ W, Hid (Calls Tryd.prog 33 #[.agg #[.int .i64 c, .int .i64 e], .int .i64 n] W _) := fun W => rround_any c e n hc W
  obtain ⟨p2, q2, s2, h2⟩ := roundV_form c e n
  rw [h2] at HP2 HR2
  have HP3 : ∀ W, Hid (Calls Tryd.prog 34 #[.agg #[.int .i64 c, .int .i64 e]] W _) := fun W => pfloor_any c e hc W
  have HR3 : ∀ W, Hid (Calls Tryd.prog 35 #[.agg #[.int .i64 c, .int .i64 e]] W _) := fun W => rfloor_any c e hc W
  obtain ⟨p3, q3, s3, h3⟩ := floorV_form c e
  rw [h3] at HP3 HR3
  have HP4 : ∀ W, Hid (Calls Tryd.prog 36 #[.agg #[.int .i64 c, .int .i64 e]] W _) := fun W => pint_any c e hc W
  have HR4 : ∀ W, Hid (Calls Tryd.prog 37 #[.agg #[.int .i64 c, .int .i64 e]] W _) := HI
  obtain ⟨ik, ib, h4⟩ := intV_form c e
  rw [h4] at HP4 HR4
  have HAL : ∀ W, Hid (Calls Tryd.prog 17 #[] W _) := alive_any
  clear h1 h2 h3 h4 hrb hcm hsn HI hc hd hcc hn
  go_enter Tryd.func5, Tryd.ntmps5
  go_wp2_with fail
  have ra := (Row.new w 23 #[.int .i64 c, .int .i64 e]).alloc (.cells #[.int .i64 d, .int .i64 f] 23)
  have rb' := Row.new1 w (.cells #[.int .i64 c, .int .i64 e] 23) 23 #[.int .i64 d, .int .i64 f]
  have hB := ((Below.refl _ w).alloc (Nat.le_refl _) (.cells #[.int .i64 c, .int .i64 e] 23)).alloc (by simp) (.cells #[.int .i64 d, .int .i64 f] 23)
  have hWs : w.heap.size + 2 ≤ ((w.alloc (.cells #[.int .i64 c, .int .i64 e] 23)).alloc (.cells #[.int .i64 d, .int .i64 f] 23)).heap.size := by simp
  generalize (w.alloc (.cells #[.int .i64 c, .int .i64 e] 23)).alloc (.cells #[.int .i64 d, .int .i64 f] 23) = W at *
  refine Calls.mono (HP1 W).out ?_
  rintro _ w1 ⟨rfl, b1⟩
  have sa := (ra.below b1 ra.lt).alloc (.cells #[.int .i64 p1, .int .i64 q1] 23)
  have sb := (rb'.below b1 rb'.lt).alloc (.cells #[.int .i64 p1, .int .i64 q1] 23)
  have sx := Row.new w1 23 #[.int .i64 p1, .int .i64 q1]
  have b2 := b1.alloc b1.size (.cells #[.int .i64 p1, .int .i64 q1] 23)
  have hX := b1.size
  have hs1 : (w1.alloc (.cells #[.int .i64 p1, .int .i64 q1] 23)).heap.size = w1.heap.size + 1 := by simp
  clear HP1
  go_wp2_with fail
  have hBW := hB.trans (b2.mono (by omega))
  generalize w1.alloc (.cells #[.int .i64 p1, .int .i64 q1] 23) = W2 at *
  generalize w1.heap.size = X at *
  clear ra rb' hB b1 b2
  refine Calls.mono (HR1 W2).out ?_
  rintro _ w2 ⟨rfl, b3⟩
  have hT : SuAt w X w2.heap.size c e d f p1 q1 p1 q1 (w2.alloc (.cells #[.int .i64 p1, .int .i64 q1] 23)) := by
    have b4 := b3.alloc b3.size (.cells #[.int .i64 p1, .int .i64 q1] 23)
    exact ⟨sa.below b4 sa.lt, sb.below b4 sb.lt, sx.below b4 sx.lt, Row.new w2 23 _, hBW.trans (b4.mono (by have := hBW.size; omega))⟩
  have hX1 : w.heap.size + 1 < X := by omega
  have hXY : X < w2.heap.size := by have := b3.size; omega
  clear sa sb sx hBW b3 HR1 hWs hX hs1
  go_wp2_with fail
  generalize w2.alloc (.cells #[.int .i64 p1, .int .i64 q1] 23) = V1 at *
  generalize w2.heap.size = Y at *
  have hS : Below V1.heap.size V1 V1.drew := (Below.refl _ V1).drew
  have ca : ∀ wx, Below V1.heap.size V1 wx → wx.cell? ⟨w.heap.size, 0, none⟩ = some (.int .i64 c) ∧ wx.cell? ⟨w.heap.size, 1, none⟩ = some (.int .i64 e) := fun wx hx => (hT.a.below hx hT.a.lt).duo
  have cb : ∀ wx, Below V1.heap.size V1 wx → wx.cell? ⟨w.heap.size + 1, 0, none⟩ = some (.int .i64 d) ∧ wx.cell? ⟨w.heap.size + 1, 1, none⟩ = some (.int .i64 f) := fun wx hx => (hT.b.below hx hT.b.lt).duo
  have cx : ∀ wx, Below V1.heap.size V1 wx → wx.cell? ⟨X, 0, none⟩ = some (.int .i64 p1) ∧ wx.cell? ⟨X, 1, none⟩ = some (.int .i64 q1) := fun wx hx => (hT.x.below hx hT.x.lt).duo
  have cy : ∀ wx, Below V1.heap.size V1 wx → wx.cell? ⟨Y, 0, none⟩ = some (.int .i64 p1) ∧ wx.cell? ⟨Y, 1, none⟩ = some (.int .i64 q1) := fun wx hx => (hT.y.below hx hT.y.lt).duo
  refine wp_region_M (fun wx : World => Below V1.heap.size V1 wx) (fun j => decide (j < 31)) 31 rfl (by kernel_rfl) ?_
  refine wpM_held 0 (v := .agg #[.int .i64 p1, .int .i64 q1]) rfl (by kernel_rfl) (by kernel_rfl) rfl (fun _ _ _ h => h) rfl (by intro wx hx; obtain ⟨x0, x1⟩ := cx wx hx; go_simp <;> rfl) hS ?_
  refine wpM_held 1 (v := .agg #[.int .i64 p1, .int .i64 q1]) rfl (by kernel_rfl) (by kernel_rfl) rfl (fun _ _ _ h => h) rfl (by intro wx hx; obtain ⟨x0, x1⟩ := cy wx hx; go_simp <;> rfl) hS ?_
  refine wpM_one 2 rfl (by kernel_rfl) rfl ?_
  go_wp2_with fail
  refine ⟨fun _ => hS, ?_⟩
  refine wpM_one 3 rfl (by kernel_rfl) rfl ?_
  go_wp2_with fail
  refine ⟨fun _ => hS, ?_⟩
  refine wpM_held 4 (v := .int .i64 s1) rfl (by kernel_rfl) (by kernel_rfl) rfl (fun _ _ _ h => h) rfl (by intro wx hx; go_simp <;> rfl) hS ?_
  refine wpM_held 5 (v := .int .i64 s1) rfl (by kernel_rfl) (by kernel_rfl) rfl (fun _ _ _ h => h) rfl (by intro wx hx; go_simp <;> rfl) hS ?_
  refine wpM_one 6 rfl (by kernel_rfl) rfl ?_
  go_wp2_with fail
  refine ⟨fun _ => hS, ?_⟩
  refine wpM_one 7 rfl (by kernel_rfl) rfl ?_
  go_wp2_with fail
  refine ⟨fun _ => hS, ?_⟩
  refine wpM_one 8 rfl (by kernel_rfl) rfl ?_
  go_wp2_with fail
  refine ⟨fun _ => hS, ?_⟩
  refine wpM_held 9 (v := .agg #[.int .i64 c, .int .i64 e]) rfl (by kernel_rfl) (by kernel_rfl) rfl (fun _ _ _ h => h) rfl (by intro wx hx; obtain ⟨x0, x1⟩ := ca wx hx; go_simp <;> rfl) hS ?_
  refine wpM_held 11 (v := .agg #[.int .i64 c, .int .i64 e]) rfl (by kernel_rfl) (by kernel_rfl) rfl (fun _ _ _ h => h) rfl (by intro wx hx; obtain ⟨x0, x1⟩ := ca wx hx; go_simp <;> rfl) hS ?_
  refine wpM_one 10 rfl (by kernel_rfl) rfl ?_
  go_wp2_with fail
  refine Calls.mono (HPA _).out ?_
  rintro _ y1 ⟨rfl, b⟩
  have S1 : Below V1.heap.size V1 y1 := hS.trans (b.mono hS.size)
  clear b hS
  go_wp2_with fail
  refine ⟨fun _ => S1, ?_⟩
  refine wpM_one 12 rfl (by kernel_rfl) rfl ?_
  go_wp2_with fail
  refine Calls.mono (HRA _).out ?_
  rintro _ y2 ⟨rfl, b⟩
  have S2 : Below V1.heap.size V1 y2 := S1.trans (b.mono S1.size)
  clear b S1
  go_wp2_with fail
  refine ⟨fun _ => S2, ?_⟩
  refine wpM_one 13 rfl (by kernel_rfl) rfl ?_
  go_wp2_with fail
  refine ⟨fun _ => S2, ?_⟩
  refine wpM_one 14 rfl (by kernel_rfl) rfl ?_
  go_wp2_with fail
  refine ⟨fun _ => S2, ?_⟩
  refine wpM_one 15 rfl (by kernel_rfl) rfl ?_
  go_wp2_with fail
  refine ⟨fun _ => S2, ?_⟩
  refine wpM_held 16 (v := .agg #[.int .i64 c, .int .i64 e]) rfl (by kernel_rfl) (by kernel_rfl) rfl (fun _ _ _ h => h) rfl (by intro wx hx; obtain ⟨x0, x1⟩ := ca wx hx; go_simp <;> rfl) S2 ?_
  refine wpM_held 17 (v := .agg #[.int .i64 d, .int .i64 f]) rfl (by kernel_rfl) (by kernel_rfl) rfl (fun _ _ _ h => h) rfl (by intro wx hx; obtain ⟨x0, x1⟩ := cb wx hx; go_simp <;> rfl) S2 ?_
  refine wpM_held 19 (v := .agg #[.int .i64 c, .int .i64 e]) rfl (by kernel_rfl) (by kernel_rfl) rfl (fun _ _ _ h => h) rfl (by intro wx hx; obtain ⟨x0, x1⟩ := ca wx hx; go_simp <;> rfl) S2 ?_
  refine wpM_held 20 (v := .agg #[.int .i64 d, .int .i64 f]) rfl (by kernel_rfl) (by kernel_rfl) rfl (fun _ _ _ h => h) rfl (by intro wx hx; obtain ⟨x0, x1⟩ := cb wx hx; go_simp <;> rfl) S2 ?_
  refine wpM_one 18 rfl (by kernel_rfl) rfl ?_
  go_wp2_with fail
  refine Calls.mono (HPB _).out ?_
  rintro _ y3 ⟨rfl, b⟩
  have S3 : Below V1.heap.size V1 y3 := S2.trans (b.mono S2.size)
  clear b S2
  go_wp2_with fail
  refine ⟨fun _ => S3, ?_⟩
  refine wpM_one 21 rfl (by kernel_rfl) rfl ?_
  go_wp2_with fail
  refine Calls.mono (HRB _).out ?_
  rintro _ y4 ⟨rfl, b⟩
  have S4 : Below V1.heap.size V1 y4 := S3.trans (b.mono S3.size)
  clear b S3
  go_wp2_with fail
  refine ⟨fun _ => S4, ?_⟩
  refine wpM_one 22 rfl (by kernel_rfl) rfl ?_
  go_wp2_with fail
  refine ⟨fun _ => S4, ?_⟩
  refine wpM_one 23 rfl (by kernel_rfl) rfl ?_
  go_wp2_with fail
  refine ⟨fun _ => S4, ?_⟩
  refine wpM_one 24 rfl (by kernel_rfl) rfl ?_
  go_wp2_with fail
  refine ⟨fun _ => S4, ?_⟩
  refine wpM_held 25 (v := .agg #[.int .i64 c, .int .i64 e]) rfl (by kernel_rfl) (by kernel_rfl) rfl (fun _ _ _ h => h) rfl (by intro wx hx; obtain ⟨x0, x1⟩ := ca wx hx; go_simp <;> rfl) S4 ?_
  refine wpM_held 27 (v := .agg #[.int .i64 c, .int .i64 e]) rfl (by kernel_rfl) (by kernel_rfl) rfl (fun _ _ _ h => h) rfl (by intro wx hx; obtain ⟨x0, x1⟩ := ca wx hx; go_simp <;> rfl) S4 ?_
  refine wpM_one 26 rfl (by kernel_rfl) rfl ?_
  go_wp2_with fail
  refine Calls.mono (HPC _).out ?_
  rintro _ y5 ⟨rfl, b⟩
  have S5 : Below V1.heap.size V1 y5 := S4.trans (b.mono S4.size)
  clear b S4
  go_wp2_with fail
  refine ⟨fun _ => S5, ?_⟩
  refine wpM_one 28 rfl (by kernel_rfl) rfl ?_
  go_wp2_with fail
  refine Calls.mono (HRC _).out ?_
  rintro _ y6 ⟨rfl, b⟩
  have S6 : Below V1.heap.size V1 y6 := S5.trans (b.mono S5.size)
  clear b S5
  go_wp2_with fail
  refine ⟨fun _ => S6, ?_⟩
  refine wpM_one 29 rfl (by kernel_rfl) rfl ?_
  go_wp2_with fail
  refine ⟨fun _ => S6, ?_⟩
  refine wpM_one 30 rfl (by kernel_rfl) rfl ?_
  go_wp2_with fail
  refine ⟨fun _ => S6, ?_⟩
  refine wpM_done (by kernel_rfl) ?_
  have hT := hT.mono S6
  clear ca cb cx cy S6
  obtain ⟨a0, a1⟩ := hT.a.duo
  obtain ⟨a4, a5⟩ := hT.x.duo
  obtain ⟨a6, a7⟩ := hT.y.duo
  go_wp2_with fail
  clear a0 a1 a4 a5 a6 a7
  refine Calls.mono (HP2 _).out ?_
  rintro _ u2 ⟨rfl, b⟩
  have hT1 := hT.mono b
  clear hT b HP2
  have hT2 := hT1.putX hX1 hXY p2 q2
  obtain ⟨a0, a1⟩ := hT1.x.duo
  have zf := hT1.x.frozen
  obtain ⟨a2, a3⟩ := hT2.a.duo
  go_wp2_with fail
  clear a0 a1 zf a2 a3 hT1
  refine Calls.mono (HR2 _).out ?_
  rintro _ v2 ⟨rfl, b⟩
  have hT3 := hT2.mono b
  clear hT2 b HR2
  have hT := hT3.putY hX1 hXY p2 q2
  obtain ⟨z0, z1⟩ := hT3.y.duo
  have zf := hT3.y.frozen
  obtain ⟨a0, a1⟩ := hT.a.duo
  obtain ⟨a4, a5⟩ := hT.x.duo
  obtain ⟨a6, a7⟩ := hT.y.duo
  go_wp2_with fail
  clear z0 z1 zf hT3
  clear a0 a1 a4 a5 a6 a7
  refine Calls.mono (HP3 _).out ?_
  rintro _ u3 ⟨rfl, b⟩
  have hT1 := hT.mono b
  clear hT b HP3
  have hT2 := hT1.putX hX1 hXY p3 q3
  obtain ⟨a0, a1⟩ := hT1.x.duo
  have zf := hT1.x.frozen
  obtain ⟨a2, a3⟩ := hT2.a.duo
  go_wp2_with fail
  clear a0 a1 zf a2 a3 hT1
  refine Calls.mono (HR3 _).out ?_
  rintro _ v3 ⟨rfl, b⟩
  have hT3 := hT2.mono b
  clear hT2 b HR3
  have hT := hT3.putY hX1 hXY p3 q3
  obtain ⟨z0, z1⟩ := hT3.y.duo
  have zf := hT3.y.frozen
  obtain ⟨a0, a1⟩ := hT.a.duo
  obtain ⟨a4, a5⟩ := hT.x.duo
  obtain ⟨a6, a7⟩ := hT.y.duo
  go_wp2_with fail
  clear z0 z1 zf hT3
  clear a0 a1 a4 a5 a6 a7
  refine Calls.mono (HP4 _).out ?_
  rintro _ u4 ⟨rfl, b⟩
  have hT := hT.mono b
  clear b HP4
  obtain ⟨a0, a1⟩ := hT.a.duo
  go_wp2_with fail
  refine Calls.mono (HR4 _).out ?_
  rintro _ v4 ⟨rfl, b⟩
  have hT := hT.mono b
  clear b HR4 a0 a1
  obtain ⟨a4, a5⟩ := hT.x.duo
  obtain ⟨a6, a7⟩ := hT.y.duo
  go_wp2_with fail
  refine Calls.mono (HAL _).out ?_
  rintro _ wz ⟨rfl, b⟩
  have hZ := hT.below.trans (b.mono hT.below.size)
  go_wp2
  go_ret
  exact ⟨rfl, hZ⟩
end Go.Proofs.YtfbhonjndepjbaaDoor
