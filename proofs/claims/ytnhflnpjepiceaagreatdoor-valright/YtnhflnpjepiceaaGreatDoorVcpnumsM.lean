import Derived.Test.YtnhflnpjepiceaaGreatDoorVnmM
import Derived.Test.YtnhflnpjepiceaaGreatDoorVcptexts
import Derived.Test.YtnhflnpjepiceaaGreatDoorVcpbools
/- val: Cmp, way by way. -/
namespace Go.Proofs.YtnhflnpjepiceaaGreatDoor
open Go.RowKit

set_option maxRecDepth 100000 in
set_option maxHeartbeats 8000000 in
theorem cmp_nums (kA cA eA : Int) (sA : ByteArray) (bA : Bool) (xA : Int) (kB cB eB : Int) (sB : ByteArray) (bB : Bool) (xB : Int) (kP cP eP : Int) (sP : ByteArray) (bP : Bool) (xP : Int) (kQ cQ eQ : Int) (sQ : ByteArray) (bQ : Bool) (xQ : Int) (kX cX eX : Int) (sX : ByteArray) (bX : Bool) (xX : Int) (kY cY eY : Int) (sY : ByteArray) (bY : Bool) (xY : Int)
    (HA : ∀ V, Hid (Calls Tryz.prog 48 #[.agg #[.int .i64 kA, .int .i64 cA, .int .i64 eA, .string sA, .bool bA, .int .i64 xA]] V fun r w' => r = .returned (.agg #[.int .i64 kP, .int .i64 cP, .int .i64 eP, .string sP, .bool bP, .int .i64 xP]) ∧ Below V.heap.size V w')) (HB : ∀ V, Hid (Calls Tryz.prog 48 #[.agg #[.int .i64 kB, .int .i64 cB, .int .i64 eB, .string sB, .bool bB, .int .i64 xB]] V fun r w' => r = .returned (.agg #[.int .i64 kQ, .int .i64 cQ, .int .i64 eQ, .string sQ, .bool bQ, .int .i64 xQ]) ∧ Below V.heap.size V w'))
    (HF : ∀ K V, Row V K 25 (c12 kP cP eP sP bP xP kQ cQ eQ sQ bQ xQ) → Hid (Calls Tryz.prog 62 #[.slice (some ⟨K, 0, none⟩) 2 2] V fun r w' => r = .returned (.tuple #[.agg #[.int .i64 0, .int .i64 0, .int .i64 0, .string .empty, .bool false, .int .i64 0], .bool false]) ∧ Below V.heap.size V w'))
    (HX : ∀ V, Hid (Calls Tryz.prog 75 #[.agg #[.int .i64 kP, .int .i64 cP, .int .i64 eP, .string sP, .bool bP, .int .i64 xP], .agg #[.int .i64 kQ, .int .i64 cQ, .int .i64 eQ, .string sQ, .bool bQ, .int .i64 xQ]] V fun r w' => r = .returned (.agg #[.int .i64 kX, .int .i64 cX, .int .i64 eX, .string sX, .bool bX, .int .i64 xX]) ∧ Below V.heap.size V w')) (HY : ∀ V, Hid (Calls Tryz.prog 75 #[.agg #[.int .i64 kQ, .int .i64 cQ, .int .i64 eQ, .string sQ, .bool bQ, .int .i64 xQ], .agg #[.int .i64 kP, .int .i64 cP, .int .i64 eP, .string sP, .bool bP, .int .i64 xP]] V fun r w' => r = .returned (.agg #[.int .i64 kY, .int .i64 cY, .int .i64 eY, .string sY, .bool bY, .int .i64 xY]) ∧ Below V.heap.size V w')) (g : Int) (HD : ∀ V, Hid (Calls Tryz.prog 79 #[.agg #[.int .i64 cX, .int .i64 eX], .agg #[.int .i64 cY, .int .i64 eY]] V fun r w' => r = .returned (.int .i64 g) ∧ Below V.heap.size V w')) (hk : (kX != kY) = false) (hk2 : (kX == 2) = false) (hk3 : (kX == 3) = false) (hk1 : (kX == 1) = true) (w : World) :
    Calls Tryz.prog 36 #[.agg #[.int .i64 kA, .int .i64 cA, .int .i64 eA, .string sA, .bool bA, .int .i64 xA], .agg #[.int .i64 kB, .int .i64 cB, .int .i64 eB, .string sB, .bool bB, .int .i64 xB]] w fun r w' => r = .returned (.int .i64 (g)) ∧ Below w.heap.size w w' := by
  have h0 := PR.start w #[.int .i64 kA, .int .i64 cA, .int .i64 eA, .string sA, .bool bA, .int .i64 xA] #[.int .i64 kB, .int .i64 cB, .int .i64 eB, .string sB, .bool bB, .int .i64 xB]
  go_enter Tryz.func36, Tryz.ntmps36
  go_upto_region 1 with fail
  generalize (w.alloc (.cells #[.int .i64 kA, .int .i64 cA, .int .i64 eA, .string sA, .bool bA, .int .i64 xA] 25)).alloc (.cells #[.int .i64 kB, .int .i64 cB, .int .i64 eB, .string sB, .bool bB, .int .i64 xB] 25) = W at *
  have hS : Below W.heap.size W W.drew := (Below.refl _ W).drew
  have cAt := fun wx (hx : Below W.heap.size W wx) => h0.next hx
  refine wp_region_M (fun wx : World => Below W.heap.size W wx) (fun j => decide (j < 4)) 6 rfl (by kernel_rfl) ?_
  refine wpM_held 0 (v := .agg #[.int .i64 kA, .int .i64 cA, .int .i64 eA, .string sA, .bool bA, .int .i64 xA]) rfl (by kernel_rfl) (by kernel_rfl) rfl (fun _ _ _ h => h) rfl (by intro wx hx; obtain ⟨z0, z1, z2, z3, z4, z5⟩ := (cAt wx hx).1.six; go_simp <;> rfl) hS ?_
  refine wpM_held 2 (v := .agg #[.int .i64 kB, .int .i64 cB, .int .i64 eB, .string sB, .bool bB, .int .i64 xB]) rfl (by kernel_rfl) (by kernel_rfl) rfl (fun _ _ _ h => h) rfl (by intro wx hx; obtain ⟨z0, z1, z2, z3, z4, z5⟩ := (cAt wx hx).2.1.six; go_simp <;> rfl) hS ?_
  refine wpM_one 1 rfl (by kernel_rfl) rfl ?_
  go_wp2_with fail
  refine Calls.mono (HA _).out ?_
  rintro _ wa ⟨rfl, lwa⟩
  have hSa : Below W.heap.size W wa := hS.trans (lwa.mono hS.size)
  go_wp2_with fail
  refine ⟨fun _ => hSa, ?_⟩
  refine wpM_one 3 rfl (by kernel_rfl) rfl ?_
  go_wp2_with fail
  refine Calls.mono (HB _).out ?_
  rintro _ wb ⟨rfl, lwb⟩
  have hSb : Below W.heap.size W wb := hSa.trans (lwb.mono hSa.size)
  have hb := h0.next hSb
  obtain ⟨m0, m1, m2, m3, m4, m5⟩ := hb.1.six
  obtain ⟨n0, n1, n2, n3, n4, n5⟩ := hb.2.1.six
  have mf := hb.1.frozen
  have nf := hb.2.1.frozen
  have ml := hb.1.lt
  have nl := hb.2.1.lt
  go_wp2_with fail
  refine ⟨fun _ => hSb, ?_⟩
  refine wpM_one 4 rfl (by kernel_rfl) rfl ?_
  go_wp2_with fail
  refine ⟨fun h => absurd h (by decide), ?_⟩
  refine wpM_one 5 rfl (by kernel_rfl) rfl ?_
  go_wp2_with fail
  refine ⟨fun h => absurd h (by decide), ?_⟩
  refine wpM_done (by kernel_rfl) ?_
  have h1 := (hb.setP (.int .i64 kP) (.int .i64 cP) (.int .i64 eP) (.string sP) (.bool bP) (.int .i64 xP)).setR (.int .i64 kQ) (.int .i64 cQ) (.int .i64 eQ) (.string sQ) (.bool bQ) (.int .i64 xQ)
  clear hS cAt lwa hSa lwb hSb m0 m1 m2 m3 m4 m5 n0 n1 n2 n3 n4 n5 mf nf ml nl hb h0
  generalize ((((((((((((wb.setCell ⟨w.heap.size, 0, none⟩ (.int .i64 kP)).setCell ⟨w.heap.size, 1, none⟩ (.int .i64 cP)).setCell ⟨w.heap.size, 2, none⟩ (.int .i64 eP)).setCell ⟨w.heap.size, 3, none⟩ (.string sP)).setCell ⟨w.heap.size, 4, none⟩ (.bool bP)).setCell ⟨w.heap.size, 5, none⟩ (.int .i64 xP)).setCell ⟨w.heap.size + 1, 0, none⟩ (.int .i64 kQ)).setCell ⟨w.heap.size + 1, 1, none⟩ (.int .i64 cQ)).setCell ⟨w.heap.size + 1, 2, none⟩ (.int .i64 eQ)).setCell ⟨w.heap.size + 1, 3, none⟩ (.string sQ)).setCell ⟨w.heap.size + 1, 4, none⟩ (.bool bQ)).setCell ⟨w.heap.size + 1, 5, none⟩ (.int .i64 xQ)) = W1 at *
  have hK := Row.new W1 25 (c12 kP cP eP sP bP xP kQ cQ eQ sQ bQ xQ)
  have hA1 : Below W1.heap.size W1 (W1.alloc (.cells (c12 kP cP eP sP bP xP kQ cQ eQ sQ bQ xQ) 25)) := (Below.refl _ W1).alloc (Nat.le_refl _) _
  have HFa := (HF _ _ hK)
  have h2 := h1.next hA1
  unfold c12 at hK hA1 HFa h2
  obtain ⟨m0, m1, m2, m3, m4, m5⟩ := h1.1.six
  obtain ⟨n0, n1, n2, n3, n4, n5⟩ := h1.2.1.six
  go_wp2_with fail
  refine Calls.mono HFa.out ?_
  rintro _ w3 ⟨rfl, lw3⟩
  have h3 := (h2.next lw3).next ((Below.refl _ w3).alloc (Nat.le_refl _) (.cells #[.int .i64 0, .int .i64 0, .int .i64 0, .string .empty, .bool false, .int .i64 0] 25))
  clear hK hA1 HFa h2 lw3 m0 m1 m2 m3 m4 m5 n0 n1 n2 n3 n4 n5 h1 HF HA HB
  go_upto_region 5 with fail
  generalize w3.alloc (.cells #[.int .i64 0, .int .i64 0, .int .i64 0, .string .empty, .bool false, .int .i64 0] 25) = W2 at *
  have hS : Below W2.heap.size W2 W2.drew := (Below.refl _ W2).drew
  have cAt := fun wx (hx : Below W2.heap.size W2 wx) => h3.next hx
  refine wp_region_M (fun wx : World => Below W2.heap.size W2 wx) (fun j => decide (j < 6)) 8 rfl (by kernel_rfl) ?_
  refine wpM_held 0 (v := .agg #[.int .i64 kP, .int .i64 cP, .int .i64 eP, .string sP, .bool bP, .int .i64 xP]) rfl (by kernel_rfl) (by kernel_rfl) rfl (fun _ _ _ h => h) rfl (by intro wx hx; obtain ⟨z0, z1, z2, z3, z4, z5⟩ := (cAt wx hx).1.six; go_simp <;> rfl) hS ?_
  refine wpM_held 1 (v := .agg #[.int .i64 kQ, .int .i64 cQ, .int .i64 eQ, .string sQ, .bool bQ, .int .i64 xQ]) rfl (by kernel_rfl) (by kernel_rfl) rfl (fun _ _ _ h => h) rfl (by intro wx hx; obtain ⟨z0, z1, z2, z3, z4, z5⟩ := (cAt wx hx).2.1.six; go_simp <;> rfl) hS ?_
  refine wpM_held 3 (v := .agg #[.int .i64 kQ, .int .i64 cQ, .int .i64 eQ, .string sQ, .bool bQ, .int .i64 xQ]) rfl (by kernel_rfl) (by kernel_rfl) rfl (fun _ _ _ h => h) rfl (by intro wx hx; obtain ⟨z0, z1, z2, z3, z4, z5⟩ := (cAt wx hx).2.1.six; go_simp <;> rfl) hS ?_
  refine wpM_held 4 (v := .agg #[.int .i64 kP, .int .i64 cP, .int .i64 eP, .string sP, .bool bP, .int .i64 xP]) rfl (by kernel_rfl) (by kernel_rfl) rfl (fun _ _ _ h => h) rfl (by intro wx hx; obtain ⟨z0, z1, z2, z3, z4, z5⟩ := (cAt wx hx).1.six; go_simp <;> rfl) hS ?_
  refine wpM_one 2 rfl (by kernel_rfl) rfl ?_
  go_wp2_with fail
  refine Calls.mono (HX _).out ?_
  rintro _ wa ⟨rfl, lwa⟩
  have hSa : Below W2.heap.size W2 wa := hS.trans (lwa.mono hS.size)
  go_wp2_with fail
  refine ⟨fun _ => hSa, ?_⟩
  refine wpM_one 5 rfl (by kernel_rfl) rfl ?_
  go_wp2_with fail
  refine Calls.mono (HY _).out ?_
  rintro _ wb ⟨rfl, lwb⟩
  have hSb : Below W2.heap.size W2 wb := hSa.trans (lwb.mono hSa.size)
  have hb := h3.next hSb
  obtain ⟨m0, m1, m2, m3, m4, m5⟩ := hb.1.six
  obtain ⟨n0, n1, n2, n3, n4, n5⟩ := hb.2.1.six
  have mf := hb.1.frozen
  have nf := hb.2.1.frozen
  have ml := hb.1.lt
  have nl := hb.2.1.lt
  go_wp2_with fail
  refine ⟨fun _ => hSb, ?_⟩
  refine wpM_one 6 rfl (by kernel_rfl) rfl ?_
  go_wp2_with fail
  refine ⟨fun h => absurd h (by decide), ?_⟩
  refine wpM_one 7 rfl (by kernel_rfl) rfl ?_
  go_wp2_with fail
  refine ⟨fun h => absurd h (by decide), ?_⟩
  refine wpM_done (by kernel_rfl) ?_
  have h4 := (hb.setP (.int .i64 kX) (.int .i64 cX) (.int .i64 eX) (.string sX) (.bool bX) (.int .i64 xX)).setR (.int .i64 kY) (.int .i64 cY) (.int .i64 eY) (.string sY) (.bool bY) (.int .i64 xY)
  clear hS cAt lwa hSa lwb hSb m0 m1 m2 m3 m4 m5 n0 n1 n2 n3 n4 n5 mf nf ml nl hb h3
  generalize ((((((((((((wb.setCell ⟨w.heap.size, 0, none⟩ (.int .i64 kX)).setCell ⟨w.heap.size, 1, none⟩ (.int .i64 cX)).setCell ⟨w.heap.size, 2, none⟩ (.int .i64 eX)).setCell ⟨w.heap.size, 3, none⟩ (.string sX)).setCell ⟨w.heap.size, 4, none⟩ (.bool bX)).setCell ⟨w.heap.size, 5, none⟩ (.int .i64 xX)).setCell ⟨w.heap.size + 1, 0, none⟩ (.int .i64 kY)).setCell ⟨w.heap.size + 1, 1, none⟩ (.int .i64 cY)).setCell ⟨w.heap.size + 1, 2, none⟩ (.int .i64 eY)).setCell ⟨w.heap.size + 1, 3, none⟩ (.string sY)).setCell ⟨w.heap.size + 1, 4, none⟩ (.bool bY)).setCell ⟨w.heap.size + 1, 5, none⟩ (.int .i64 xY)) = W4 at *
  clear HX HY
  obtain ⟨m0, m1, m2, m3, m4, m5⟩ := h4.1.six
  obtain ⟨n0, n1, n2, n3, n4, n5⟩ := h4.2.1.six
  go_wp2_with fail
  refine Calls.mono (HD _).out ?_
  rintro _ w6 ⟨rfl, lw6⟩
  have h6 := h4.next lw6
  go_wp2
  go_ret
  exact ⟨rfl, h6.2.2⟩
end Go.Proofs.YtnhflnpjepiceaaGreatDoor
/- val: Cmp, way by way. -/
namespace Go.Proofs.YtnhflnpjepiceaaGreatDoor
open Go.RowKit

set_option maxRecDepth 100000 in
set_option maxHeartbeats 8000000 in
theorem cmp_none (kA cA eA : Int) (sA : ByteArray) (bA : Bool) (xA : Int) (kB cB eB : Int) (sB : ByteArray) (bB : Bool) (xB : Int) (kP cP eP : Int) (sP : ByteArray) (bP : Bool) (xP : Int) (kQ cQ eQ : Int) (sQ : ByteArray) (bQ : Bool) (xQ : Int) (kX cX eX : Int) (sX : ByteArray) (bX : Bool) (xX : Int) (kY cY eY : Int) (sY : ByteArray) (bY : Bool) (xY : Int)
    (HA : ∀ V, Hid (Calls Tryz.prog 48 #[.agg #[.int .i64 kA, .int .i64 cA, .int .i64 eA, .string sA, .bool bA, .int .i64 xA]] V fun r w' => r = .returned (.agg #[.int .i64 kP, .int .i64 cP, .int .i64 eP, .string sP, .bool bP, .int .i64 xP]) ∧ Below V.heap.size V w')) (HB : ∀ V, Hid (Calls Tryz.prog 48 #[.agg #[.int .i64 kB, .int .i64 cB, .int .i64 eB, .string sB, .bool bB, .int .i64 xB]] V fun r w' => r = .returned (.agg #[.int .i64 kQ, .int .i64 cQ, .int .i64 eQ, .string sQ, .bool bQ, .int .i64 xQ]) ∧ Below V.heap.size V w'))
    (HF : ∀ K V, Row V K 25 (c12 kP cP eP sP bP xP kQ cQ eQ sQ bQ xQ) → Hid (Calls Tryz.prog 62 #[.slice (some ⟨K, 0, none⟩) 2 2] V fun r w' => r = .returned (.tuple #[.agg #[.int .i64 0, .int .i64 0, .int .i64 0, .string .empty, .bool false, .int .i64 0], .bool false]) ∧ Below V.heap.size V w'))
    (HX : ∀ V, Hid (Calls Tryz.prog 75 #[.agg #[.int .i64 kP, .int .i64 cP, .int .i64 eP, .string sP, .bool bP, .int .i64 xP], .agg #[.int .i64 kQ, .int .i64 cQ, .int .i64 eQ, .string sQ, .bool bQ, .int .i64 xQ]] V fun r w' => r = .returned (.agg #[.int .i64 kX, .int .i64 cX, .int .i64 eX, .string sX, .bool bX, .int .i64 xX]) ∧ Below V.heap.size V w')) (HY : ∀ V, Hid (Calls Tryz.prog 75 #[.agg #[.int .i64 kQ, .int .i64 cQ, .int .i64 eQ, .string sQ, .bool bQ, .int .i64 xQ], .agg #[.int .i64 kP, .int .i64 cP, .int .i64 eP, .string sP, .bool bP, .int .i64 xP]] V fun r w' => r = .returned (.agg #[.int .i64 kY, .int .i64 cY, .int .i64 eY, .string sY, .bool bY, .int .i64 xY]) ∧ Below V.heap.size V w')) (hk : (kX != kY) = false) (hk2 : (kX == 2) = false) (hk3 : (kX == 3) = false) (hk1 : (kX == 1) = false) (w : World) :
    Calls Tryz.prog 36 #[.agg #[.int .i64 kA, .int .i64 cA, .int .i64 eA, .string sA, .bool bA, .int .i64 xA], .agg #[.int .i64 kB, .int .i64 cB, .int .i64 eB, .string sB, .bool bB, .int .i64 xB]] w fun r w' => r = .returned (.int .i64 (0)) ∧ Below w.heap.size w w' := by
  have h0 := PR.start w #[.int .i64 kA, .int .i64 cA, .int .i64 eA, .string sA, .bool bA, .int .i64 xA] #[.int .i64 kB, .int .i64 cB, .int .i64 eB, .string sB, .bool bB, .int .i64 xB]
  go_enter Tryz.func36, Tryz.ntmps36
  go_upto_region 1 with fail
  generalize (w.alloc (.cells #[.int .i64 kA, .int .i64 cA, .int .i64 eA, .string sA, .bool bA, .int .i64 xA] 25)).alloc (.cells #[.int .i64 kB, .int .i64 cB, .int .i64 eB, .string sB, .bool bB, .int .i64 xB] 25) = W at *
  have hS : Below W.heap.size W W.drew := (Below.refl _ W).drew
  have cAt := fun wx (hx : Below W.heap.size W wx) => h0.next hx
  refine wp_region_M (fun wx : World => Below W.heap.size W wx) (fun j => decide (j < 4)) 6 rfl (by kernel_rfl) ?_
  refine wpM_held 0 (v := .agg #[.int .i64 kA, .int .i64 cA, .int .i64 eA, .string sA, .bool bA, .int .i64 xA]) rfl (by kernel_rfl) (by kernel_rfl) rfl (fun _ _ _ h => h) rfl (by intro wx hx; obtain ⟨z0, z1, z2, z3, z4, z5⟩ := (cAt wx hx).1.six; go_simp <;> rfl) hS ?_
  refine wpM_held 2 (v := .agg #[.int .i64 kB, .int .i64 cB, .int .i64 eB, .string sB, .bool bB, .int .i64 xB]) rfl (by kernel_rfl) (by kernel_rfl) rfl (fun _ _ _ h => h) rfl (by intro wx hx; obtain ⟨z0, z1, z2, z3, z4, z5⟩ := (cAt wx hx).2.1.six; go_simp <;> rfl) hS ?_
  refine wpM_one 1 rfl (by kernel_rfl) rfl ?_
  go_wp2_with fail
  refine Calls.mono (HA _).out ?_
  rintro _ wa ⟨rfl, lwa⟩
  have hSa : Below W.heap.size W wa := hS.trans (lwa.mono hS.size)
  go_wp2_with fail
  refine ⟨fun _ => hSa, ?_⟩
  refine wpM_one 3 rfl (by kernel_rfl) rfl ?_
  go_wp2_with fail
  refine Calls.mono (HB _).out ?_
  rintro _ wb ⟨rfl, lwb⟩
  have hSb : Below W.heap.size W wb := hSa.trans (lwb.mono hSa.size)
  have hb := h0.next hSb
  obtain ⟨m0, m1, m2, m3, m4, m5⟩ := hb.1.six
  obtain ⟨n0, n1, n2, n3, n4, n5⟩ := hb.2.1.six
  have mf := hb.1.frozen
  have nf := hb.2.1.frozen
  have ml := hb.1.lt
  have nl := hb.2.1.lt
  go_wp2_with fail
  refine ⟨fun _ => hSb, ?_⟩
  refine wpM_one 4 rfl (by kernel_rfl) rfl ?_
  go_wp2_with fail
  refine ⟨fun h => absurd h (by decide), ?_⟩
  refine wpM_one 5 rfl (by kernel_rfl) rfl ?_
  go_wp2_with fail
  refine ⟨fun h => absurd h (by decide), ?_⟩
  refine wpM_done (by kernel_rfl) ?_
  have h1 := (hb.setP (.int .i64 kP) (.int .i64 cP) (.int .i64 eP) (.string sP) (.bool bP) (.int .i64 xP)).setR (.int .i64 kQ) (.int .i64 cQ) (.int .i64 eQ) (.string sQ) (.bool bQ) (.int .i64 xQ)
  clear hS cAt lwa hSa lwb hSb m0 m1 m2 m3 m4 m5 n0 n1 n2 n3 n4 n5 mf nf ml nl hb h0
  generalize ((((((((((((wb.setCell ⟨w.heap.size, 0, none⟩ (.int .i64 kP)).setCell ⟨w.heap.size, 1, none⟩ (.int .i64 cP)).setCell ⟨w.heap.size, 2, none⟩ (.int .i64 eP)).setCell ⟨w.heap.size, 3, none⟩ (.string sP)).setCell ⟨w.heap.size, 4, none⟩ (.bool bP)).setCell ⟨w.heap.size, 5, none⟩ (.int .i64 xP)).setCell ⟨w.heap.size + 1, 0, none⟩ (.int .i64 kQ)).setCell ⟨w.heap.size + 1, 1, none⟩ (.int .i64 cQ)).setCell ⟨w.heap.size + 1, 2, none⟩ (.int .i64 eQ)).setCell ⟨w.heap.size + 1, 3, none⟩ (.string sQ)).setCell ⟨w.heap.size + 1, 4, none⟩ (.bool bQ)).setCell ⟨w.heap.size + 1, 5, none⟩ (.int .i64 xQ)) = W1 at *
  have hK := Row.new W1 25 (c12 kP cP eP sP bP xP kQ cQ eQ sQ bQ xQ)
  have hA1 : Below W1.heap.size W1 (W1.alloc (.cells (c12 kP cP eP sP bP xP kQ cQ eQ sQ bQ xQ) 25)) := (Below.refl _ W1).alloc (Nat.le_refl _) _
  have HFa := (HF _ _ hK)
  have h2 := h1.next hA1
  unfold c12 at hK hA1 HFa h2
  obtain ⟨m0, m1, m2, m3, m4, m5⟩ := h1.1.six
  obtain ⟨n0, n1, n2, n3, n4, n5⟩ := h1.2.1.six
  go_wp2_with fail
  refine Calls.mono HFa.out ?_
  rintro _ w3 ⟨rfl, lw3⟩
  have h3 := (h2.next lw3).next ((Below.refl _ w3).alloc (Nat.le_refl _) (.cells #[.int .i64 0, .int .i64 0, .int .i64 0, .string .empty, .bool false, .int .i64 0] 25))
  clear hK hA1 HFa h2 lw3 m0 m1 m2 m3 m4 m5 n0 n1 n2 n3 n4 n5 h1 HF HA HB
  go_upto_region 5 with fail
  generalize w3.alloc (.cells #[.int .i64 0, .int .i64 0, .int .i64 0, .string .empty, .bool false, .int .i64 0] 25) = W2 at *
  have hS : Below W2.heap.size W2 W2.drew := (Below.refl _ W2).drew
  have cAt := fun wx (hx : Below W2.heap.size W2 wx) => h3.next hx
  refine wp_region_M (fun wx : World => Below W2.heap.size W2 wx) (fun j => decide (j < 6)) 8 rfl (by kernel_rfl) ?_
  refine wpM_held 0 (v := .agg #[.int .i64 kP, .int .i64 cP, .int .i64 eP, .string sP, .bool bP, .int .i64 xP]) rfl (by kernel_rfl) (by kernel_rfl) rfl (fun _ _ _ h => h) rfl (by intro wx hx; obtain ⟨z0, z1, z2, z3, z4, z5⟩ := (cAt wx hx).1.six; go_simp <;> rfl) hS ?_
  refine wpM_held 1 (v := .agg #[.int .i64 kQ, .int .i64 cQ, .int .i64 eQ, .string sQ, .bool bQ, .int .i64 xQ]) rfl (by kernel_rfl) (by kernel_rfl) rfl (fun _ _ _ h => h) rfl (by intro wx hx; obtain ⟨z0, z1, z2, z3, z4, z5⟩ := (cAt wx hx).2.1.six; go_simp <;> rfl) hS ?_
  refine wpM_held 3 (v := .agg #[.int .i64 kQ, .int .i64 cQ, .int .i64 eQ, .string sQ, .bool bQ, .int .i64 xQ]) rfl (by kernel_rfl) (by kernel_rfl) rfl (fun _ _ _ h => h) rfl (by intro wx hx; obtain ⟨z0, z1, z2, z3, z4, z5⟩ := (cAt wx hx).2.1.six; go_simp <;> rfl) hS ?_
  refine wpM_held 4 (v := .agg #[.int .i64 kP, .int .i64 cP, .int .i64 eP, .string sP, .bool bP, .int .i64 xP]) rfl (by kernel_rfl) (by kernel_rfl) rfl (fun _ _ _ h => h) rfl (by intro wx hx; obtain ⟨z0, z1, z2, z3, z4, z5⟩ := (cAt wx hx).1.six; go_simp <;> rfl) hS ?_
  refine wpM_one 2 rfl (by kernel_rfl) rfl ?_
  go_wp2_with fail
  refine Calls.mono (HX _).out ?_
  rintro _ wa ⟨rfl, lwa⟩
  have hSa : Below W2.heap.size W2 wa := hS.trans (lwa.mono hS.size)
  go_wp2_with fail
  refine ⟨fun _ => hSa, ?_⟩
  refine wpM_one 5 rfl (by kernel_rfl) rfl ?_
  go_wp2_with fail
  refine Calls.mono (HY _).out ?_
  rintro _ wb ⟨rfl, lwb⟩
  have hSb : Below W2.heap.size W2 wb := hSa.trans (lwb.mono hSa.size)
  have hb := h3.next hSb
  obtain ⟨m0, m1, m2, m3, m4, m5⟩ := hb.1.six
  obtain ⟨n0, n1, n2, n3, n4, n5⟩ := hb.2.1.six
  have mf := hb.1.frozen
  have nf := hb.2.1.frozen
  have ml := hb.1.lt
  have nl := hb.2.1.lt
  go_wp2_with fail
  refine ⟨fun _ => hSb, ?_⟩
  refine wpM_one 6 rfl (by kernel_rfl) rfl ?_
  go_wp2_with fail
  refine ⟨fun h => absurd h (by decide), ?_⟩
  refine wpM_one 7 rfl (by kernel_rfl) rfl ?_
  go_wp2_with fail
  refine ⟨fun h => absurd h (by decide), ?_⟩
  refine wpM_done (by kernel_rfl) ?_
  have h4 := (hb.setP (.int .i64 kX) (.int .i64 cX) (.int .i64 eX) (.string sX) (.bool bX) (.int .i64 xX)).setR (.int .i64 kY) (.int .i64 cY) (.int .i64 eY) (.string sY) (.bool bY) (.int .i64 xY)
  clear hS cAt lwa hSa lwb hSb m0 m1 m2 m3 m4 m5 n0 n1 n2 n3 n4 n5 mf nf ml nl hb h3
  generalize ((((((((((((wb.setCell ⟨w.heap.size, 0, none⟩ (.int .i64 kX)).setCell ⟨w.heap.size, 1, none⟩ (.int .i64 cX)).setCell ⟨w.heap.size, 2, none⟩ (.int .i64 eX)).setCell ⟨w.heap.size, 3, none⟩ (.string sX)).setCell ⟨w.heap.size, 4, none⟩ (.bool bX)).setCell ⟨w.heap.size, 5, none⟩ (.int .i64 xX)).setCell ⟨w.heap.size + 1, 0, none⟩ (.int .i64 kY)).setCell ⟨w.heap.size + 1, 1, none⟩ (.int .i64 cY)).setCell ⟨w.heap.size + 1, 2, none⟩ (.int .i64 eY)).setCell ⟨w.heap.size + 1, 3, none⟩ (.string sY)).setCell ⟨w.heap.size + 1, 4, none⟩ (.bool bY)).setCell ⟨w.heap.size + 1, 5, none⟩ (.int .i64 xY)) = W4 at *
  clear HX HY
  obtain ⟨m0, m1, m2, m3, m4, m5⟩ := h4.1.six
  obtain ⟨n0, n1, n2, n3, n4, n5⟩ := h4.2.1.six
  go_wp2
  go_ret
  exact ⟨rfl, h4.2.2⟩
end Go.Proofs.YtnhflnpjepiceaaGreatDoor
/- val: Cmp of any two values. -/
namespace Go.Proofs.YtnhflnpjepiceaaGreatDoor
open Go.RowKit

def decI (c e d f : Int) : Int := if (-18 ≤ e ∧ e ≤ 18) ∧ (-18 ≤ f ∧ f ≤ 18) then (V (-18) c e - V (-18) d f).sign else 0
/-- The order of two values of which none is empty alone. -/
def cmpK (x y : Vl) : Int := if (x.k != y.k) = true then Lib.compareInt x.k y.k else if (x.k == 2) = true then cmpS (loS x.s) (loS y.s) else if (x.k == 3) = true then decI (numV x).c (numV x).e (numV y).c (numV y).e else if (x.k == 1) = true then decI x.c x.e y.c y.e else 0
def cmpVV (a b : Vl) : Int := if (ferr (cleanV a) (cleanV b)).2 = true then 0 else cmpK (filledV (cleanV a) (cleanV b)) (filledV (cleanV b) (cleanV a))
theorem empty_text : textB .empty = true := by decide
theorem zero_right : rightB 0 0 = true := by decide
theorem right_E : rightV vE = true := by simp [rightV, vE, Vl.eqB]
theorem right_N {c e : Int} (h : rightB c e = true) : rightV (vN c e) = true := by simp [rightV, vN, Vl.eqB, h]
theorem right_T {s : ByteArray} (h : textB s = true) : rightV (vT s) = true := by simp [rightV, vT, Vl.eqB, h]
theorem right_B (b : Bool) : rightV (vB b) = true := by simp [rightV, vB, Vl.eqB]
theorem right_X {x : Int} (h : codeB x = true) : rightV (vX x) = true := by simp [rightV, vX, Vl.eqB, h]
theorem right_zero {p : Vl} (h : rightV p = true) : p.k = 0 → p = vE := by
  intro h0
  rcases right_cases h with rfl | ⟨c, e, rfl, _⟩ | ⟨s, rfl, _⟩ | ⟨b, rfl⟩ | ⟨x, rfl, _⟩
  · rfl
  all_goals cases h0
theorem filled_right {p q : Vl} (hp : rightV p = true) (hq : rightV q = true) (h4 : ¬ q.k = 4) : rightV (filledV p q) = true := by
  unfold filledV
  split
  · rcases right_cases hq with rfl | ⟨c, e, rfl, _⟩ | ⟨s, rfl, _⟩ | ⟨b, rfl⟩ | ⟨x, rfl, _⟩
    · exact right_E
    · exact right_N zero_right
    · exact right_T empty_text
    · exact right_B false
    · exact absurd rfl h4
  · exact hp
theorem filled_bd {p q : Vl} (hp : I64 p.c) : I64 (filledV p q).c := by
  unfold filledV
  split
  · show I64 0
    exact ⟨by decide, by decide⟩
  · exact hp
theorem right_text_size {x : Vl} (h : rightV x = true) : x.s.size ≤ 255 := by
  rcases right_cases h with rfl | ⟨c, e, rfl, _⟩ | ⟨s, rfl, h2⟩ | ⟨b, rfl⟩ | ⟨x, rfl, _⟩
  · exact Nat.zero_le _
  · exact Nat.zero_le _
  · exact text_size h2
  · exact Nat.zero_le _
  · exact Nat.zero_le _
theorem num_bool {x : Vl} (h : rightV x = true) (h3 : x.k = 3) : ∃ c, numV x = vN c 0 ∧ I64 c := by
  rcases right_cases h with rfl | ⟨c, e, rfl, _⟩ | ⟨s, rfl, h2⟩ | ⟨b, rfl⟩ | ⟨x, rfl, _⟩
  · cases h3
  · cases h3
  · cases h3
  · unfold numV
    rw [clean_of (right_B b)]
    cases b
    · exact ⟨0, rfl, by decide, by decide⟩
    · exact ⟨1, rfl, by decide, by decide⟩
  · cases h3
theorem no_err {p q : Vl} (h : ¬ (ferr p q).2 = true) : ¬ p.k = 4 ∧ ¬ q.k = 4 ∧ ferr p q = (vE, false) := by
  unfold ferr at *
  by_cases h1 : p.k = 4
  · rw [if_pos h1] at h; exact absurd rfl h
  · rw [if_neg h1] at h ⊢
    by_cases h2 : q.k = 4
    · rw [if_pos h2] at h; exact absurd rfl h
    · exact ⟨h1, h2, if_neg h2⟩
theorem decCmp_any (c e d f : Int) (hc : I64 c) (hd : I64 d) (w : World) : Calls Tryz.prog 79 #[.agg #[.int .i64 c, .int .i64 e], .agg #[.int .i64 d, .int .i64 f]] w fun r w' => r = .returned (.int .i64 (decI c e d f)) ∧ Below w.heap.size w w' := pcmp_any c e d f hc hd w
theorem vcmp_any (a b : Vl) (ha : I64 a.c) (hb : I64 b.c) (w : World) : Calls Tryz.prog 36 #[a.v, b.v] w fun r w' => r = .returned (.int .i64 (cmpVV a b)) ∧ Below w.heap.size w w' := by
  have HA : ∀ V, Hid (Calls Tryz.prog 48 #[a.v] V fun r w' => r = .returned (cleanV a).v ∧ Below V.heap.size V w') := fun V => taken_any a ha V
  have HB : ∀ V, Hid (Calls Tryz.prog 48 #[b.v] V fun r w' => r = .returned (cleanV b).v ∧ Below V.heap.size V w') := fun V => taken_any b hb V
  have hp := clean_right a
  have hq := clean_right b
  have bp := clean_bd ha
  have bq := clean_bd hb
  unfold cmpVV
  generalize cleanV a = p at *
  generalize cleanV b = q at *
  have HF : ∀ K V, Row V K 25 (p.cells ++ q.cells) → Hid (Calls Tryz.prog 62 #[.slice (some ⟨K, 0, none⟩) 2 2] V fun r w' => r = .returned (.tuple #[(ferr p q).1.v, .bool (ferr p q).2]) ∧ Below V.heap.size V w') := fun K V hK => first_any p q K V hK
  by_cases hf : (ferr p q).2 = true
  · rw [if_pos hf]
    simp only [hf] at HF
    generalize (ferr p q).1 = f at HF
    exact cmp_fail a.k a.c a.e a.s a.b a.x b.k b.c b.e b.s b.b b.x p.k p.c p.e p.s p.b p.x q.k q.c q.e q.s q.b q.x f.k f.c f.e f.s f.b f.x HA HB HF w
  · rw [if_neg hf]
    obtain ⟨p4, q4, hfe⟩ := no_err hf
    rw [hfe] at HF
    have HX : ∀ V, Hid (Calls Tryz.prog 75 #[p.v, q.v] V fun r w' => r = .returned (filledV p q).v ∧ Below V.heap.size V w') := fun V => filled_any p q (right_zero hp) V
    have HY : ∀ V, Hid (Calls Tryz.prog 75 #[q.v, p.v] V fun r w' => r = .returned (filledV q p).v ∧ Below V.heap.size V w') := fun V => filled_any q p (right_zero hq) V
    have hx := filled_right hp hq q4
    have hy := filled_right hq hp p4
    have bx := filled_bd (q := q) bp
    have by' := filled_bd (q := p) bq
    generalize filledV p q = x at *
    generalize filledV q p = y at *
    unfold cmpK
    by_cases hk : (x.k != y.k) = true
    · rw [if_pos hk]
      exact cmp_kinds a.k a.c a.e a.s a.b a.x b.k b.c b.e b.s b.b b.x p.k p.c p.e p.s p.b p.x q.k q.c q.e q.s q.b q.x x.k x.c x.e x.s x.b x.x y.k y.c y.e y.s y.b y.x HA HB HF HX HY (by simpa using hk) w
    · rw [if_neg hk]
      have hk' : (x.k != y.k) = false := by simpa using hk
      have hxy : x.k = y.k := by simpa using hk'
      by_cases h2 : (x.k == 2) = true
      · rw [if_pos h2]
        exact cmp_texts a.k a.c a.e a.s a.b a.x b.k b.c b.e b.s b.b b.x p.k p.c p.e p.s p.b p.x q.k q.c q.e q.s q.b q.x x.k x.c x.e x.s x.b x.x y.k y.c y.e y.s y.b y.x HA HB HF HX HY (loS x.s) (loS y.s) (fun V => plower_any x.s (by have := right_text_size hx; omega) V) (fun V => plower_any y.s (by have := right_text_size hy; omega) V) hk' h2 w
      · rw [if_neg h2]
        have h2' : (x.k == 2) = false := by simpa using h2
        by_cases h3 : (x.k == 3) = true
        · rw [if_pos h3]
          have h3' : x.k = 3 := by simpa using h3
          obtain ⟨cm, hm, bm⟩ := num_bool hx h3'
          obtain ⟨cn, hn, bn⟩ := num_bool hy (hxy ▸ h3')
          have HNX : ∀ V, Hid (Calls Tryz.prog 11 #[x.v] V fun r w' => r = .returned (numV x).v ∧ Below V.heap.size V w') := fun V => vnum_any x bx V
          have HNY : ∀ V, Hid (Calls Tryz.prog 11 #[y.v] V fun r w' => r = .returned (numV y).v ∧ Below V.heap.size V w') := fun V => vnum_any y by' V
          rw [hm] at HNX ⊢
          rw [hn] at HNY ⊢
          exact cmp_bools a.k a.c a.e a.s a.b a.x b.k b.c b.e b.s b.b b.x p.k p.c p.e p.s p.b p.x q.k q.c q.e q.s q.b q.x x.k x.c x.e x.s x.b x.x y.k y.c y.e y.s y.b y.x HA HB HF HX HY 1 cm 0 .empty false 0 1 cn 0 .empty false 0 _ HNX HNY (fun V => decCmp_any cm 0 cn 0 bm bn V) hk' h2' h3 w
        · rw [if_neg h3]
          have h3' : (x.k == 3) = false := by simpa using h3
          by_cases h1 : (x.k == 1) = true
          · rw [if_pos h1]
            exact cmp_nums a.k a.c a.e a.s a.b a.x b.k b.c b.e b.s b.b b.x p.k p.c p.e p.s p.b p.x q.k q.c q.e q.s q.b q.x x.k x.c x.e x.s x.b x.x y.k y.c y.e y.s y.b y.x HA HB HF HX HY _ (fun V => decCmp_any _ _ _ _ bx by' V) hk' h2' h3' h1 w
          · rw [if_neg h1]
            have h1' : (x.k == 1) = false := by simpa using h1
            exact cmp_none a.k a.c a.e a.s a.b a.x b.k b.c b.e b.s b.b b.x p.k p.c p.e p.s p.b p.x q.k q.c q.e q.s q.b q.x x.k x.c x.e x.s x.b x.x y.k y.c y.e y.s y.b y.x HA HB HF HX HY hk' h2' h3' h1' w
end Go.Proofs.YtnhflnpjepiceaaGreatDoor
