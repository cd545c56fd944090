import Derived.Test.YtnhflnpjepiceaaGreatDoorVnmM
/- val: Cmp, way by way. -/
namespace Go.Proofs.YtnhflnpjepiceaaGreatDoor
open Go.RowKit

set_option maxRecDepth 100000 in
set_option maxHeartbeats 8000000 in
theorem cmp_bools (kA cA eA : Int) (sA : ByteArray) (bA : Bool) (xA : Int) (kB cB eB : Int) (sB : ByteArray) (bB : Bool) (xB : Int) (kP cP eP : Int) (sP : ByteArray) (bP : Bool) (xP : Int) (kQ cQ eQ : Int) (sQ : ByteArray) (bQ : Bool) (xQ : Int) (kX cX eX : Int) (sX : ByteArray) (bX : Bool) (xX : Int) (kY cY eY : Int) (sY : ByteArray) (bY : Bool) (xY : Int)
    (HA : ∀ V, Hid (Calls Tryz.prog 48 #[.agg #[.int .i64 kA, .int .i64 cA, .int .i64 eA, .string sA, .bool bA, .int .i64 xA]] V fun r w' => r = .returned (.agg #[.int .i64 kP, .int .i64 cP, .int .i64 eP, .string sP, .bool bP, .int .i64 xP]) ∧ Below V.heap.size V w')) (HB : ∀ V, Hid (Calls Tryz.prog 48 #[.agg #[.int .i64 kB, .int .i64 cB, .int .i64 eB, .string sB, .bool bB, .int .i64 xB]] V fun r w' => r = .returned (.agg #[.int .i64 kQ, .int .i64 cQ, .int .i64 eQ, .string sQ, .bool bQ, .int .i64 xQ]) ∧ Below V.heap.size V w'))
    (HF : ∀ K V, Row V K 25 (c12 kP cP eP sP bP xP kQ cQ eQ sQ bQ xQ) → Hid (Calls Tryz.prog 62 #[.slice (some ⟨K, 0, none⟩) 2 2] V fun r w' => r = .returned (.tuple #[.agg #[.int .i64 0, .int .i64 0, .int .i64 0, .string .empty, .bool false, .int .i64 0], .bool false]) ∧ Below V.heap.size V w'))
    (HX : ∀ V, Hid (Calls Tryz.prog 75 #[.agg #[.int .i64 kP, .int .i64 cP, .int .i64 eP, .string sP, .bool bP, .int .i64 xP], .agg #[.int .i64 kQ, .int .i64 cQ, .int .i64 eQ, .string sQ, .bool bQ, .int .i64 xQ]] V fun r w' => r = .returned (.agg #[.int .i64 kX, .int .i64 cX, .int .i64 eX, .string sX, .bool bX, .int .i64 xX]) ∧ Below V.heap.size V w')) (HY : ∀ V, Hid (Calls Tryz.prog 75 #[.agg #[.int .i64 kQ, .int .i64 cQ, .int .i64 eQ, .string sQ, .bool bQ, .int .i64 xQ], .agg #[.int .i64 kP, .int .i64 cP, .int .i64 eP, .string sP, .bool bP, .int .i64 xP]] V fun r w' => r = .returned (.agg #[.int .i64 kY, .int .i64 cY, .int .i64 eY, .string sY, .bool bY, .int .i64 xY]) ∧ Below V.heap.size V w')) (kM cM eM : Int) (sM : ByteArray) (bM : Bool) (xM : Int) (kN cN eN : Int) (sN : ByteArray) (bN : Bool) (xN : Int) (g : Int) (HNX : ∀ V, Hid (Calls Tryz.prog 11 #[.agg #[.int .i64 kX, .int .i64 cX, .int .i64 eX, .string sX, .bool bX, .int .i64 xX]] V fun r w' => r = .returned (.agg #[.int .i64 kM, .int .i64 cM, .int .i64 eM, .string sM, .bool bM, .int .i64 xM]) ∧ Below V.heap.size V w')) (HNY : ∀ V, Hid (Calls Tryz.prog 11 #[.agg #[.int .i64 kY, .int .i64 cY, .int .i64 eY, .string sY, .bool bY, .int .i64 xY]] V fun r w' => r = .returned (.agg #[.int .i64 kN, .int .i64 cN, .int .i64 eN, .string sN, .bool bN, .int .i64 xN]) ∧ Below V.heap.size V w')) (HD : ∀ V, Hid (Calls Tryz.prog 79 #[.agg #[.int .i64 cM, .int .i64 eM], .agg #[.int .i64 cN, .int .i64 eN]] V fun r w' => r = .returned (.int .i64 g) ∧ Below V.heap.size V w')) (hk : (kX != kY) = false) (hk2 : (kX == 2) = false) (hk3 : (kX == 3) = true) (w : World) :
    Calls Tryz.prog 36 #[.agg #[.int .i64 kA, .int .i64 cA, .int .i64 eA, .string sA, .bool bA, .int .i64 xA], .agg #[.int .i64 kB, .int .i64 cB, .int .i64 eB, .string sB, .bool bB, .int .i64 xB]] w fun r w' => r = .returned (.int .i64 (g)) ∧ Below w.heap.size w w' := by
  have h0 := PR.start w #[.int .i64 kA, .int .i64 cA, .int .i64 eA, .string sA, .bool bA, .int .i64 xA] #[.int .i64 kB, .int .i64 cB, .int .i64 eB, .string sB, .bool bB, .int .i64 xB]
  go_enter Tryz.func36, Tryz.ntmps36
  go_upto_region 1 with fail
  generalize (w.alloc (.cells #[.int .i64 kA, .int .i64 cA, .int .i64 eA, .string sA, .bool bA, .int .i64 xA] 25)).alloc (.cells #[.int .i64 kB, .int .i64 cB, .int .i64 eB, .string sB, .bool bB, .int .i64 xB] 25) = W at *
  have hS : Below W.heap.size W W.drew := (Below.refl _ W).drew
  have cAt := fun wx (hx : Below W.heap.size W wx) => h0.next hx
  refine wp_region_M (fun wx : World => Below W.heap.size W wx) (fun j => decide (j < 4)) 6 rfl (by kernel_rfl) ?_
  refine wpM_held 0 (v := .agg #[.int .i64 kA, .int .i64 cA, .int .i64 eA, .string sA, .bool bA, .int .i64 xA]) rfl (by kernel_rfl) (by kernel_rfl) rfl (fun _ _ _ h => h) rfl (by intro wx hx; obtain ⟨z0, z1, z2, z3, z4, z5⟩ := (cAt wx hx).1.six; go_simp <;> rfl) hS ?_
  refine wpM_held 2 (v := .agg #[.int .i64 kB, .int .i64 cB, .int .i64 eB, .string sB, .bool bB, .int .i64 xB]) rfl (by kernel_rfl) (by kernel_rfl) rfl (fun _ _ _ h => h) rfl (by intro wx hx; obtain ⟨z0, z1, z2, z3, z4, z5⟩ := (cAt wx hx).2.1.six; go_simp <;> rfl) hS ?_
  refine wpM_one 1 rfl (by kernel_rfl) rfl ?_
  go_wp2_with fail
  refine Calls.mono (HA _).out ?_
  rintro _ wa ⟨rfl, lwa⟩
  have hSa : Below W.heap.size W wa := hS.trans (lwa.mono hS.size)
  go_wp2_with fail
  refine ⟨fun _ => hSa, ?_⟩
  refine wpM_one 3 rfl (by kernel_rfl) rfl ?_
  go_wp2_with fail
  refine Calls.mono (HB _).out ?_
  rintro _ wb ⟨rfl, lwb⟩
  have hSb : Below W.heap.size W wb := hSa.trans (lwb.mono hSa.size)
  have hb := h0.next hSb
  obtain ⟨m0, m1, m2, m3, m4, m5⟩ := hb.1.six
  obtain ⟨n0, n1, n2, n3, n4, n5⟩ := hb.2.1.six
  have mf := hb.1.frozen
  have nf := hb.2.1.frozen
  have ml := hb.1.lt
  have nl := hb.2.1.lt
  go_wp2_with fail
  refine ⟨fun _ => hSb, ?_⟩
  refine wpM_one 4 rfl (by kernel_rfl) rfl ?_
  go_wp2_with fail
  refine ⟨fun h => absurd h (by decide), ?_⟩
  refine wpM_one 5 rfl (by kernel_rfl) rfl ?_
  go_wp2_with fail
  refine ⟨fun h => absurd h (by decide), ?_⟩
  refine wpM_done (by kernel_rfl) ?_
  have h1 := (hb.setP (.int .i64 kP) (.int .i64 cP) (.int .i64 eP) (.string sP) (.bool bP) (.int .i64 xP)).setR (.int .i64 kQ) (.int .i64 cQ) (.int .i64 eQ) (.string sQ) (.bool bQ) (.int .i64 xQ)
  clear hS cAt lwa hSa lwb hSb m0 m1 m2 m3 m4 m5 n0 n1 n2 n3 n4 n5 mf nf ml nl hb h0
  generalize ((((((((((((wb.setCell ⟨w.heap.size, 0, none⟩ (.int .i64 kP)).setCell ⟨w.heap.size, 1, none⟩ (.int .i64 cP)).setCell ⟨w.heap.size, 2, none⟩ (.int .i64 eP)).setCell ⟨w.heap.size, 3, none⟩ (.string sP)).setCell ⟨w.heap.size, 4, none⟩ (.bool bP)).setCell ⟨w.heap.size, 5, none⟩ (.int .i64 xP)).setCell ⟨w.heap.size + 1, 0, none⟩ (.int .i64 kQ)).setCell ⟨w.heap.size + 1, 1, none⟩ (.int .i64 cQ)).setCell ⟨w.heap.size + 1, 2, none⟩ (.int .i64 eQ)).setCell ⟨w.heap.size + 1, 3, none⟩ (.string sQ)).setCell ⟨w.heap.size + 1, 4, none⟩ (.bool bQ)).setCell ⟨w.heap.size + 1, 5, none⟩ (.int .i64 xQ)) = W1 at *
  have hK := Row.new W1 25 (c12 kP cP eP sP bP xP kQ cQ eQ sQ bQ xQ)
  have hA1 : Below W1.heap.size W1 (W1.alloc (.cells (c12 kP cP eP sP bP xP kQ cQ eQ sQ bQ xQ) 25)) := (Below.refl _ W1).alloc (Nat.le_refl _) _
  have HFa := (HF _ _ hK)
  have h2 := h1.next hA1
  unfold c12 at hK hA1 HFa h2
  obtain ⟨m0, m1, m2, m3, m4, m5⟩ := h1.1.six
  obtain ⟨n0, n1, n2, n3, n4, n5⟩ := h1.2.1.six
  go_wp2_with fail
  refine Calls.mono HFa.out ?_
  rintro _ w3 ⟨rfl, lw3⟩
  have h3 := (h2.next lw3).next ((Below.refl _ w3).alloc (Nat.le_refl _) (.cells #[.int .i64 0, .int .i64 0, .int .i64 0, .string .empty, .bool false, .int .i64 0] 25))
  clear hK hA1 HFa h2 lw3 m0 m1 m2 m3 m4 m5 n0 n1 n2 n3 n4 n5 h1 HF HA HB
  go_upto_region 5 with fail
  generalize w3.alloc (.cells #[.int .i64 0, .int .i64 0, .int .i64 0, .string .empty, .bool false, .int .i64 0] 25) = W2 at *
  have hS : Below W2.heap.size W2 W2.drew := (Below.refl _ W2).drew
  have cAt := fun wx (hx : Below W2.heap.size W2 wx) => h3.next hx
  refine wp_region_M (fun wx : World => Below W2.heap.size W2 wx) (fun j => decide (j < 6)) 8 rfl (by kernel_rfl) ?_
  refine wpM_held 0 (v := .agg #[.int .i64 kP, .int .i64 cP, .int .i64 eP, .string sP, .bool bP, .int .i64 xP]) rfl (by kernel_rfl) (by kernel_rfl) rfl (fun _ _ _ h => h) rfl (by intro wx hx; obtain ⟨z0, z1, z2, z3, z4, z5⟩ := (cAt wx hx).1.six; go_simp <;> rfl) hS ?_
  refine wpM_held 1 (v := .agg #[.int .i64 kQ, .int .i64 cQ, .int .i64 eQ, .string sQ, .bool bQ, .int .i64 xQ]) rfl (by kernel_rfl) (by kernel_rfl) rfl (fun _ _ _ h => h) rfl (by intro wx hx; obtain ⟨z0, z1, z2, z3, z4, z5⟩ := (cAt wx hx).2.1.six; go_simp <;> rfl) hS ?_
  refine wpM_held 3 (v := .agg #[.int .i64 kQ, .int .i64 cQ, .int .i64 eQ, .string sQ, .bool bQ, .int .i64 xQ]) rfl (by kernel_rfl) (by kernel_rfl) rfl (fun _ _ _ h => h) rfl (by intro wx hx; obtain ⟨z0, z1, z2, z3, z4, z5⟩ := (cAt wx hx).2.1.six; go_simp <;> rfl) hS ?_
  refine wpM_held 4 (v := .agg #[.int .i64 kP, .int .i64 cP, .int .i64 eP, .string sP, .bool bP, .int .i64 xP]) rfl (by kernel_rfl) (by kernel_rfl) rfl (fun _ _ _ h => h) rfl (by intro wx hx; obtain ⟨z0, z1, z2, z3, z4, z5⟩ := (cAt wx hx).1.six; go_simp <;> rfl) hS ?_
  refine wpM_one 2 rfl (by kernel_rfl) rfl ?_
  go_wp2_with fail
  refine Calls.mono (HX _).out ?_
  rintro _ wa ⟨rfl, lwa⟩
  have hSa : Below W2.heap.size W2 wa := hS.trans (lwa.mono hS.size)
  go_wp2_with fail
  refine ⟨fun _ => hSa, ?_⟩
  refine wpM_one 5 rfl (by kernel_rfl) rfl ?_
  go_wp2_with fail
  refine Calls.mono (HY _).out ?_
  rintro _ wb ⟨rfl, lwb⟩
  have hSb : Below W2.heap.size W2 wb := hSa.trans (lwb.mono hSa.size)
  have hb := h3.next hSb
  obtain ⟨m0, m1, m2, m3, m4, m5⟩ := hb.1.six
  obtain ⟨n0, n1, n2, n3, n4, n5⟩ := hb.2.1.six
  have mf := hb.1.frozen
  have nf := hb.2.1.frozen
  have ml := hb.1.lt
  have nl := hb.2.1.lt
  go_wp2_with fail
  refine ⟨fun _ => hSb, ?_⟩
  refine wpM_one 6 rfl (by kernel_rfl) rfl ?_
  go_wp2_with fail
  refine ⟨fun h => absurd h (by decide), ?_⟩
  refine wpM_one 7 rfl (by kernel_rfl) rfl ?_
  go_wp2_with fail
  refine ⟨fun h => absurd h (by decide), ?_⟩
  refine wpM_done (by kernel_rfl) ?_
  have h4 := (hb.setP (.int .i64 kX) (.int .i64 cX) (.int .i64 eX) (.string sX) (.bool bX) (.int .i64 xX)).setR (.int .i64 kY) (.int .i64 cY) (.int .i64 eY) (.string sY) (.bool bY) (.int .i64 xY)
  clear hS cAt lwa hSa lwb hSb m0 m1 m2 m3 m4 m5 n0 n1 n2 n3 n4 n5 mf nf ml nl hb h3
  generalize ((((((((((((wb.setCell ⟨w.heap.size, 0, none⟩ (.int .i64 kX)).setCell ⟨w.heap.size, 1, none⟩ (.int .i64 cX)).setCell ⟨w.heap.size, 2, none⟩ (.int .i64 eX)).setCell ⟨w.heap.size, 3, none⟩ (.string sX)).setCell ⟨w.heap.size, 4, none⟩ (.bool bX)).setCell ⟨w.heap.size, 5, none⟩ (.int .i64 xX)).setCell ⟨w.heap.size + 1, 0, none⟩ (.int .i64 kY)).setCell ⟨w.heap.size + 1, 1, none⟩ (.int .i64 cY)).setCell ⟨w.heap.size + 1, 2, none⟩ (.int .i64 eY)).setCell ⟨w.heap.size + 1, 3, none⟩ (.string sY)).setCell ⟨w.heap.size + 1, 4, none⟩ (.bool bY)).setCell ⟨w.heap.size + 1, 5, none⟩ (.int .i64 xY)) = W4 at *
  clear HX HY
  obtain ⟨m0, m1, m2, m3, m4, m5⟩ := h4.1.six
  obtain ⟨n0, n1, n2, n3, n4, n5⟩ := h4.2.1.six
  go_upto_region 13 with fail
  clear m0 m1 m2 m3 m4 m5 n0 n1 n2 n3 n4 n5
  have hS : Below W4.heap.size W4 W4.drew := (Below.refl _ W4).drew
  have cAt := fun wx (hx : Below W4.heap.size W4 wx) => h4.next hx
  refine wp_region_M (fun wx : World => Below W4.heap.size W4 wx) (fun j => decide (j < 4)) 6 rfl (by kernel_rfl) ?_
  refine wpM_held 0 (v := .agg #[.int .i64 kX, .int .i64 cX, .int .i64 eX, .string sX, .bool bX, .int .i64 xX]) rfl (by kernel_rfl) (by kernel_rfl) rfl (fun _ _ _ h => h) rfl (by intro wx hx; obtain ⟨z0, z1, z2, z3, z4, z5⟩ := (cAt wx hx).1.six; go_simp <;> rfl) hS ?_
  refine wpM_held 2 (v := .agg #[.int .i64 kY, .int .i64 cY, .int .i64 eY, .string sY, .bool bY, .int .i64 xY]) rfl (by kernel_rfl) (by kernel_rfl) rfl (fun _ _ _ h => h) rfl (by intro wx hx; obtain ⟨z0, z1, z2, z3, z4, z5⟩ := (cAt wx hx).2.1.six; go_simp <;> rfl) hS ?_
  refine wpM_one 1 rfl (by kernel_rfl) rfl ?_
  go_wp2_with fail
  refine Calls.mono (HNX _).out ?_
  rintro _ wa ⟨rfl, lwa⟩
  have hSa : Below W4.heap.size W4 wa := hS.trans (lwa.mono hS.size)
  go_wp2_with fail
  refine ⟨fun _ => hSa, ?_⟩
  refine wpM_one 3 rfl (by kernel_rfl) rfl ?_
  go_wp2_with fail
  refine Calls.mono (HNY _).out ?_
  rintro _ wb ⟨rfl, lwb⟩
  have hSb : Below W4.heap.size W4 wb := hSa.trans (lwb.mono hSa.size)
  have hb := h4.next hSb
  obtain ⟨m0, m1, m2, m3, m4, m5⟩ := hb.1.six
  obtain ⟨n0, n1, n2, n3, n4, n5⟩ := hb.2.1.six
  have mf := hb.1.frozen
  have nf := hb.2.1.frozen
  have ml := hb.1.lt
  have nl := hb.2.1.lt
  go_wp2_with fail
  refine ⟨fun _ => hSb, ?_⟩
  refine wpM_one 4 rfl (by kernel_rfl) rfl ?_
  go_wp2_with fail
  refine ⟨fun h => absurd h (by decide), ?_⟩
  refine wpM_one 5 rfl (by kernel_rfl) rfl ?_
  go_wp2_with fail
  refine ⟨fun h => absurd h (by decide), ?_⟩
  refine wpM_done (by kernel_rfl) ?_
  have h5 := (hb.setP (.int .i64 kM) (.int .i64 cM) (.int .i64 eM) (.string sM) (.bool bM) (.int .i64 xM)).setR (.int .i64 kN) (.int .i64 cN) (.int .i64 eN) (.string sN) (.bool bN) (.int .i64 xN)
  clear hS cAt lwa hSa lwb hSb m0 m1 m2 m3 m4 m5 n0 n1 n2 n3 n4 n5 mf nf ml nl hb h4
  generalize ((((((((((((wb.setCell ⟨w.heap.size, 0, none⟩ (.int .i64 kM)).setCell ⟨w.heap.size, 1, none⟩ (.int .i64 cM)).setCell ⟨w.heap.size, 2, none⟩ (.int .i64 eM)).setCell ⟨w.heap.size, 3, none⟩ (.string sM)).setCell ⟨w.heap.size, 4, none⟩ (.bool bM)).setCell ⟨w.heap.size, 5, none⟩ (.int .i64 xM)).setCell ⟨w.heap.size + 1, 0, none⟩ (.int .i64 kN)).setCell ⟨w.heap.size + 1, 1, none⟩ (.int .i64 cN)).setCell ⟨w.heap.size + 1, 2, none⟩ (.int .i64 eN)).setCell ⟨w.heap.size + 1, 3, none⟩ (.string sN)).setCell ⟨w.heap.size + 1, 4, none⟩ (.bool bN)).setCell ⟨w.heap.size + 1, 5, none⟩ (.int .i64 xN)) = W5 at *
  obtain ⟨m0, m1, m2, m3, m4, m5⟩ := h5.1.six
  obtain ⟨n0, n1, n2, n3, n4, n5⟩ := h5.2.1.six
  go_wp2_with fail
  refine Calls.mono (HD _).out ?_
  rintro _ w6 ⟨rfl, lw6⟩
  have h6 := h5.next lw6
  go_wp2
  go_ret
  exact ⟨rfl, h6.2.2⟩
end Go.Proofs.YtnhflnpjepiceaaGreatDoor
