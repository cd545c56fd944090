import Derived.Test.YtnhflnpjepiceaaGreatDoorVrk
import Derived.Test.YtnhflnpjepiceaaGreatDoorVnmM
import Derived.Test.YtnhflnpjepiceaaGreatDoorOrdM
import Derived.Test.YtnhflnpjepiceaaGreatDoorWprM
import Derived.Test.YtnhflnpjepiceaaGreatDoorWdgM
import Derived.Test.YtnhflnpjepiceaaGreatDoorDpaM
/- val: Bin: texts put together -/
namespace Go.Proofs.YtnhflnpjepiceaaGreatDoor
open Go.RowKit

set_option maxRecDepth 100000 in
set_option maxHeartbeats 8000000 in
theorem bin_cat (kA cA eA : Int) (sA : ByteArray) (bA : Bool) (xA : Int) (kB cB eB : Int) (sB : ByteArray) (bB : Bool) (xB : Int) (kP cP eP : Int) (sP : ByteArray) (bP : Bool) (xP : Int) (kQ cQ eQ : Int) (sQ : ByteArray) (bQ : Bool) (xQ : Int) (kO cO eO : Int) (sO : ByteArray) (bO : Bool) (xO : Int)
    (HA : ∀ V, Hid (Calls Tryz.prog 48 #[.agg #[.int .i64 kA, .int .i64 cA, .int .i64 eA, .string sA, .bool bA, .int .i64 xA]] V fun r w' => r = .returned (.agg #[.int .i64 kP, .int .i64 cP, .int .i64 eP, .string sP, .bool bP, .int .i64 xP]) ∧ Below V.heap.size V w')) (HB : ∀ V, Hid (Calls Tryz.prog 48 #[.agg #[.int .i64 kB, .int .i64 cB, .int .i64 eB, .string sB, .bool bB, .int .i64 xB]] V fun r w' => r = .returned (.agg #[.int .i64 kQ, .int .i64 cQ, .int .i64 eQ, .string sQ, .bool bQ, .int .i64 xQ]) ∧ Below V.heap.size V w'))
    (HF : ∀ K V, Row V K 25 (c12 kP cP eP sP bP xP kQ cQ eQ sQ bQ xQ) → Hid (Calls Tryz.prog 62 #[.slice (some ⟨K, 0, none⟩) 2 2] V fun r w' => r = .returned (.tuple #[.agg #[.int .i64 0, .int .i64 0, .int .i64 0, .string .empty, .bool false, .int .i64 0], .bool false]) ∧ Below V.heap.size V w'))
    (s1 s2 : ByteArray) (hs1 : s1.size ≤ 1000) (hs2 : s2.size ≤ 1000)
    (HT1 : ∀ V, Env V → Hid (Calls Tryz.prog 13 #[.agg #[.int .i64 kP, .int .i64 cP, .int .i64 eP, .string sP, .bool bP, .int .i64 xP]] V fun r w' => r = .returned (.agg #[.int .i64 2, .int .i64 0, .int .i64 0, .string s1, .bool false, .int .i64 0]) ∧ Below V.heap.size V w'))
    (HT2 : ∀ V, Env V → Hid (Calls Tryz.prog 13 #[.agg #[.int .i64 kQ, .int .i64 cQ, .int .i64 eQ, .string sQ, .bool bQ, .int .i64 xQ]] V fun r w' => r = .returned (.agg #[.int .i64 2, .int .i64 0, .int .i64 0, .string s2, .bool false, .int .i64 0]) ∧ Below V.heap.size V w'))
    (HST : ∀ V, Hid (Calls Tryz.prog 25 #[.string (s1 ++ s2)] V fun r w' => r = .returned (.agg #[.int .i64 kO, .int .i64 cO, .int .i64 eO, .string sO, .bool bO, .int .i64 xO]) ∧ Below V.heap.size V w')) (w : World) (hE : Env w) :
    Calls Tryz.prog 34 #[.int .i64 6, .agg #[.int .i64 kA, .int .i64 cA, .int .i64 eA, .string sA, .bool bA, .int .i64 xA], .agg #[.int .i64 kB, .int .i64 cB, .int .i64 eB, .string sB, .bool bB, .int .i64 xB]] w fun r w' => r = .returned (.agg #[.int .i64 kO, .int .i64 cO, .int .i64 eO, .string sO, .bool bO, .int .i64 xO]) ∧ Below w.heap.size w w' := by
  have h0 := P3.start w #[.int .i64 kA, .int .i64 cA, .int .i64 eA, .string sA, .bool bA, .int .i64 xA] #[.int .i64 kB, .int .i64 cB, .int .i64 eB, .string sB, .bool bB, .int .i64 xB] #[.int .i64 0, .int .i64 0, .int .i64 0, .string ⟨#[]⟩, .bool false, .int .i64 0]
  go_enter Tryz.func34, Tryz.ntmps34
  go_upto_region 1 with fail
  generalize ((w.alloc (.cells #[.int .i64 kA, .int .i64 cA, .int .i64 eA, .string sA, .bool bA, .int .i64 xA] 25)).alloc (.cells #[.int .i64 kB, .int .i64 cB, .int .i64 eB, .string sB, .bool bB, .int .i64 xB] 25)).alloc (.cells #[.int .i64 0, .int .i64 0, .int .i64 0, .string ⟨#[]⟩, .bool false, .int .i64 0] 25) = W at *
  have hS : Below W.heap.size W W.drew := (Below.refl _ W).drew
  have cAt := fun wx (hx : Below W.heap.size W wx) => h0.next hx
  refine wp_region_M (fun wx : World => Below W.heap.size W wx) (fun j => decide (j < 4)) 6 rfl (by kernel_rfl) ?_
  refine wpM_held 0 (v := .agg #[.int .i64 kA, .int .i64 cA, .int .i64 eA, .string sA, .bool bA, .int .i64 xA]) rfl (by kernel_rfl) (by kernel_rfl) rfl (fun _ _ _ h => h) rfl (by intro wx hx; obtain ⟨z0, z1, z2, z3, z4, z5⟩ := (cAt wx hx).1.six; go_simp <;> rfl) hS ?_
  refine wpM_held 2 (v := .agg #[.int .i64 kB, .int .i64 cB, .int .i64 eB, .string sB, .bool bB, .int .i64 xB]) rfl (by kernel_rfl) (by kernel_rfl) rfl (fun _ _ _ h => h) rfl (by intro wx hx; obtain ⟨z0, z1, z2, z3, z4, z5⟩ := (cAt wx hx).2.1.six; go_simp <;> rfl) hS ?_
  refine wpM_one 1 rfl (by kernel_rfl) rfl ?_
  go_wp2_with fail
  refine Calls.mono (HA _).out ?_
  rintro _ wa ⟨rfl, lwa⟩
  have hSa : Below W.heap.size W wa := hS.trans (lwa.mono hS.size)
  go_wp2_with fail
  refine ⟨fun _ => hSa, ?_⟩
  refine wpM_one 3 rfl (by kernel_rfl) rfl ?_
  go_wp2_with fail
  refine Calls.mono (HB _).out ?_
  rintro _ wb ⟨rfl, lwb⟩
  have hSb : Below W.heap.size W wb := hSa.trans (lwb.mono hSa.size)
  have hb := h0.next hSb
  obtain ⟨m0, m1, m2, m3, m4, m5⟩ := hb.1.six
  obtain ⟨n0, n1, n2, n3, n4, n5⟩ := hb.2.1.six
  have mf := hb.1.frozen
  have nf := hb.2.1.frozen
  have ml := hb.1.lt
  have nl := hb.2.1.lt
  go_wp2_with fail
  refine ⟨fun _ => hSb, ?_⟩
  refine wpM_one 4 rfl (by kernel_rfl) rfl ?_
  go_wp2_with fail
  refine ⟨fun h => absurd h (by decide), ?_⟩
  refine wpM_one 5 rfl (by kernel_rfl) rfl ?_
  go_wp2_with fail
  refine ⟨fun h => absurd h (by decide), ?_⟩
  refine wpM_done (by kernel_rfl) ?_
  have h1 := (hb.setP (.int .i64 kP) (.int .i64 cP) (.int .i64 eP) (.string sP) (.bool bP) (.int .i64 xP)).setR (.int .i64 kQ) (.int .i64 cQ) (.int .i64 eQ) (.string sQ) (.bool bQ) (.int .i64 xQ)
  clear hS cAt lwa hSa lwb hSb m0 m1 m2 m3 m4 m5 n0 n1 n2 n3 n4 n5 mf nf ml nl hb h0
  generalize ((((((((((((wb.setCell ⟨w.heap.size, 0, none⟩ (.int .i64 kP)).setCell ⟨w.heap.size, 1, none⟩ (.int .i64 cP)).setCell ⟨w.heap.size, 2, none⟩ (.int .i64 eP)).setCell ⟨w.heap.size, 3, none⟩ (.string sP)).setCell ⟨w.heap.size, 4, none⟩ (.bool bP)).setCell ⟨w.heap.size, 5, none⟩ (.int .i64 xP)).setCell ⟨w.heap.size + 1, 0, none⟩ (.int .i64 kQ)).setCell ⟨w.heap.size + 1, 1, none⟩ (.int .i64 cQ)).setCell ⟨w.heap.size + 1, 2, none⟩ (.int .i64 eQ)).setCell ⟨w.heap.size + 1, 3, none⟩ (.string sQ)).setCell ⟨w.heap.size + 1, 4, none⟩ (.bool bQ)).setCell ⟨w.heap.size + 1, 5, none⟩ (.int .i64 xQ)) = W1 at *
  have hK := Row.new W1 25 (c12 kP cP eP sP bP xP kQ cQ eQ sQ bQ xQ)
  have hA1 : Below W1.heap.size W1 (W1.alloc (.cells (c12 kP cP eP sP bP xP kQ cQ eQ sQ bQ xQ) 25)) := (Below.refl _ W1).alloc (Nat.le_refl _) _
  have HFa := (HF _ _ hK)
  have h2 := h1.next hA1
  unfold c12 at hK hA1 HFa h2
  obtain ⟨m0, m1, m2, m3, m4, m5⟩ := h1.1.six
  obtain ⟨n0, n1, n2, n3, n4, n5⟩ := h1.2.1.six
  go_wp2_with fail
  refine Calls.mono HFa.out ?_
  rintro _ w3 ⟨rfl, lw3⟩
  have tk := Row.new w3 25 #[.int .i64 0, .int .i64 0, .int .i64 0, .string .empty, .bool false, .int .i64 0]
  have h3 := (h2.next lw3).next ((Below.refl _ w3).alloc (Nat.le_refl _) (.cells #[.int .i64 0, .int .i64 0, .int .i64 0, .string .empty, .bool false, .int .i64 0] 25))
  clear hK hA1 HFa h2 lw3 m0 m1 m2 m3 m4 m5 n0 n1 n2 n3 n4 n5 h1 HF HA HB
  go_upto_region 3 with fail
  generalize w3.alloc (.cells #[.int .i64 0, .int .i64 0, .int .i64 0, .string .empty, .bool false, .int .i64 0] 25) = W3 at *
  have hE3 : Env W3 := hE.next h3.2.2.2
  clear tk
  go_upto_region 17 with fail
  have hS : Below W3.heap.size W3 W3.drew := (Below.refl _ W3).drew
  have cAt := fun wx (hx : Below W3.heap.size W3 wx) => h3.next hx
  refine wp_region_M (fun wx : World => Below W3.heap.size W3 wx) (fun j => decide (j < 8)) 9 rfl (by kernel_rfl) ?_
  refine wpM_held 0 (v := .agg #[.int .i64 kP, .int .i64 cP, .int .i64 eP, .string sP, .bool bP, .int .i64 xP]) rfl (by kernel_rfl) (by kernel_rfl) rfl (fun _ _ _ h => h) rfl (by intro wx hx; obtain ⟨z0, z1, z2, z3, z4, z5⟩ := (cAt wx hx).1.six; go_simp <;> rfl) hS ?_
  refine wpM_held 3 (v := .agg #[.int .i64 kQ, .int .i64 cQ, .int .i64 eQ, .string sQ, .bool bQ, .int .i64 xQ]) rfl (by kernel_rfl) (by kernel_rfl) rfl (fun _ _ _ h => h) rfl (by intro wx hx; obtain ⟨z0, z1, z2, z3, z4, z5⟩ := (cAt wx hx).2.1.six; go_simp <;> rfl) hS ?_
  refine wpM_one 1 rfl (by kernel_rfl) rfl ?_
  go_wp2_with fail
  refine Calls.mono (HT1 _ (hE3.next hS)).out ?_
  rintro _ wa ⟨rfl, lwa⟩
  have hSa : Below W3.heap.size W3 wa := hS.trans (lwa.mono hS.size)
  go_wp2_with fail
  refine ⟨fun _ => hSa, ?_⟩
  refine wpM_held 2 (v := .string s1) rfl (by kernel_rfl) (by kernel_rfl) rfl (fun _ _ _ h => h) rfl (by intro wx hx; have hf := field25 2 0 0 0 s1 false wx; go_simp <;> rfl) hSa ?_
  refine wpM_one 4 rfl (by kernel_rfl) rfl ?_
  go_wp2_with fail
  refine Calls.mono (HT2 _ (hE3.next hSa)).out ?_
  rintro _ wb ⟨rfl, lwb⟩
  have hSb : Below W3.heap.size W3 wb := hSa.trans (lwb.mono hSa.size)
  go_wp2_with fail
  refine ⟨fun _ => hSb, ?_⟩
  refine wpM_held 5 (v := .string s2) rfl (by kernel_rfl) (by kernel_rfl) rfl (fun _ _ _ h => h) rfl (by intro wx hx; have hf := field25 2 0 0 0 s2 false wx; go_simp <;> rfl) hSb ?_
  refine wpM_one 6 rfl (by kernel_rfl) rfl ?_
  go_wp2_with fail
  refine ⟨fun _ => hSb, ?_⟩
  refine wpM_one 7 rfl (by kernel_rfl) rfl ?_
  go_wp2_with fail
  refine Calls.mono (HST _).out ?_
  rintro _ wc ⟨rfl, lwc⟩
  have hSc : Below W3.heap.size W3 wc := hSb.trans (lwc.mono hSb.size)
  go_wp2_with fail
  refine ⟨fun _ => hSc, ?_⟩
  have h5 := h3.next hSc
  obtain ⟨y0, y1, y2, y3, y4, y5⟩ := h5.2.2.1.six
  have zf := h5.2.2.1.frozen
  have wl := h5.2.2.1.lt
  refine wpM_one 8 rfl (by kernel_rfl) rfl ?_
  go_wp2_with fail
  refine ⟨fun h => absurd h (by decide), ?_⟩
  refine wpM_done (by kernel_rfl) ?_
  clear lwa lwb lwc hSa hSb hSc hS cAt h3 HT1 HT2 HST
  go_wp2
  exact bodyPost_ret (ret_one rfl (g := w.heap.size + 1 + 1) rfl ((h5.setT _ _ _ _ _ _).res rfl)) rfl ⟨rfl, (h5.setT _ _ _ _ _ _).2.2.2⟩
end Go.Proofs.YtnhflnpjepiceaaGreatDoor
/- val: Neg and Pct. -/
namespace Go.Proofs.YtnhflnpjepiceaaGreatDoor
open Go.RowKit

set_option maxRecDepth 100000 in
set_option maxHeartbeats 2000000 in
theorem vneg_err (kA cA eA : Int) (sA : ByteArray) (bA : Bool) (xA : Int) (cP eP : Int) (sP : ByteArray) (bP : Bool) (xP : Int)
    (HA : ∀ V, Hid (Calls Tryz.prog 11 #[.agg #[.int .i64 kA, .int .i64 cA, .int .i64 eA, .string sA, .bool bA, .int .i64 xA]] V fun r w' => r = .returned (.agg #[.int .i64 4, .int .i64 cP, .int .i64 eP, .string sP, .bool bP, .int .i64 xP]) ∧ Below V.heap.size V w')) (w : World) :
    Calls Tryz.prog 38 #[.agg #[.int .i64 kA, .int .i64 cA, .int .i64 eA, .string sA, .bool bA, .int .i64 xA]] w fun r w' => r = .returned (.agg #[.int .i64 4, .int .i64 cP, .int .i64 eP, .string sP, .bool bP, .int .i64 xP]) ∧ Below w.heap.size w w' := by
  have h0 := PR.start w #[.int .i64 kA, .int .i64 cA, .int .i64 eA, .string sA, .bool bA, .int .i64 xA] #[.int .i64 0, .int .i64 0, .int .i64 0, .string ⟨#[]⟩, .bool false, .int .i64 0]
  go_enter Tryz.func38, Tryz.ntmps38
  go_wp2_with fail
  generalize (w.alloc (.cells #[.int .i64 kA, .int .i64 cA, .int .i64 eA, .string sA, .bool bA, .int .i64 xA] 25)).alloc (.cells #[.int .i64 0, .int .i64 0, .int .i64 0, .string ⟨#[]⟩, .bool false, .int .i64 0] 25) = W at *
  refine Calls.mono (HA _).out ?_
  rintro _ w1 ⟨rfl, b1⟩
  have h1 := h0.next b1
  obtain ⟨m0, m1, m2, m3, m4, m5⟩ := h1.1.six
  have mf := h1.1.frozen
  have ml := h1.1.lt
  have h2 := h1.setP (.int .i64 4) (.int .i64 cP) (.int .i64 eP) (.string sP) (.bool bP) (.int .i64 xP)
  go_upto_region 2 with fail
  generalize (((((((w1.setCell ⟨w.heap.size, 0, none⟩ (.int .i64 4)).setCell ⟨w.heap.size, 1, none⟩ (.int .i64 cP)).setCell ⟨w.heap.size, 2, none⟩ (.int .i64 eP)).setCell ⟨w.heap.size, 3, none⟩ (.string sP)).setCell ⟨w.heap.size, 4, none⟩ (.bool bP)).setCell ⟨w.heap.size, 5, none⟩ (.int .i64 xP))) = w2 at *
  clear m0 m1 m2 m3 m4 m5 mf ml h1 h0 b1 HA
  obtain ⟨m0, m1, m2, m3, m4, m5⟩ := h2.1.six
  obtain ⟨y0, y1, y2, y3, y4, y5⟩ := h2.2.1.six
  have zf := h2.2.1.frozen
  have wl := h2.2.1.lt
  go_wp2
  exact bodyPost_ret (ret_one rfl (g := w.heap.size + 1) rfl ((h2.setR _ _ _ _ _ _).res rfl)) rfl ⟨rfl, (h2.setR _ _ _ _ _ _).2.2⟩
set_option maxRecDepth 100000 in
set_option maxHeartbeats 2000000 in
theorem vneg_ok (kA cA eA : Int) (sA : ByteArray) (bA : Bool) (xA : Int) (kP cP eP : Int) (sP : ByteArray) (bP : Bool) (xP : Int) (kO cO eO : Int) (sO : ByteArray) (bO : Bool) (xO : Int) (hk : (kP == 4) = false) (c5 e5 er : Int)
    (HA : ∀ V, Hid (Calls Tryz.prog 11 #[.agg #[.int .i64 kA, .int .i64 cA, .int .i64 eA, .string sA, .bool bA, .int .i64 xA]] V fun r w' => r = .returned (.agg #[.int .i64 kP, .int .i64 cP, .int .i64 eP, .string sP, .bool bP, .int .i64 xP]) ∧ Below V.heap.size V w'))
    (HN : ∀ V, Hid (Calls Tryz.prog 84 #[.agg #[.int .i64 cP, .int .i64 eP]] V fun r w' => r = .returned (.tuple #[.agg #[.int .i64 c5, .int .i64 e5], .int .i64 er]) ∧ Below V.heap.size V w'))
    (HO : ∀ V, Hid (Calls Tryz.prog 23 #[.agg #[.int .i64 c5, .int .i64 e5], .int .i64 er] V fun r w' => r = .returned (.agg #[.int .i64 kO, .int .i64 cO, .int .i64 eO, .string sO, .bool bO, .int .i64 xO]) ∧ Below V.heap.size V w')) (w : World) :
    Calls Tryz.prog 38 #[.agg #[.int .i64 kA, .int .i64 cA, .int .i64 eA, .string sA, .bool bA, .int .i64 xA]] w fun r w' => r = .returned (.agg #[.int .i64 kO, .int .i64 cO, .int .i64 eO, .string sO, .bool bO, .int .i64 xO]) ∧ Below w.heap.size w w' := by
  have h0 := PR.start w #[.int .i64 kA, .int .i64 cA, .int .i64 eA, .string sA, .bool bA, .int .i64 xA] #[.int .i64 0, .int .i64 0, .int .i64 0, .string ⟨#[]⟩, .bool false, .int .i64 0]
  go_enter Tryz.func38, Tryz.ntmps38
  go_wp2_with fail
  generalize (w.alloc (.cells #[.int .i64 kA, .int .i64 cA, .int .i64 eA, .string sA, .bool bA, .int .i64 xA] 25)).alloc (.cells #[.int .i64 0, .int .i64 0, .int .i64 0, .string ⟨#[]⟩, .bool false, .int .i64 0] 25) = W at *
  refine Calls.mono (HA _).out ?_
  rintro _ w1 ⟨rfl, b1⟩
  have h1 := h0.next b1
  obtain ⟨m0, m1, m2, m3, m4, m5⟩ := h1.1.six
  have mf := h1.1.frozen
  have ml := h1.1.lt
  have h2 := h1.setP (.int .i64 kP) (.int .i64 cP) (.int .i64 eP) (.string sP) (.bool bP) (.int .i64 xP)
  go_upto_region 2 with fail
  generalize (((((((w1.setCell ⟨w.heap.size, 0, none⟩ (.int .i64 kP)).setCell ⟨w.heap.size, 1, none⟩ (.int .i64 cP)).setCell ⟨w.heap.size, 2, none⟩ (.int .i64 eP)).setCell ⟨w.heap.size, 3, none⟩ (.string sP)).setCell ⟨w.heap.size, 4, none⟩ (.bool bP)).setCell ⟨w.heap.size, 5, none⟩ (.int .i64 xP))) = w2 at *
  clear m0 m1 m2 m3 m4 m5 mf ml h1 h0 b1 HA
  obtain ⟨m0, m1, m2, m3, m4, m5⟩ := h2.1.six
  go_wp2_with fail
  refine Calls.mono (HN _).out ?_
  rintro _ w3 ⟨rfl, b3⟩
  have h3 := h2.next b3
  clear m0 m1 m2 m3 m4 m5 h2 b3 HN
  go_wp2_with fail
  refine Calls.mono (HO _).out ?_
  rintro _ w4 ⟨rfl, b4⟩
  have h4 := h3.next b4
  clear h3 b4 HO
  obtain ⟨y0, y1, y2, y3, y4, y5⟩ := h4.2.1.six
  have zf := h4.2.1.frozen
  have wl := h4.2.1.lt
  go_wp2
  exact bodyPost_ret (ret_one rfl (g := w.heap.size + 1) rfl ((h4.setR _ _ _ _ _ _).res rfl)) rfl ⟨rfl, (h4.setR _ _ _ _ _ _).2.2⟩
set_option maxRecDepth 100000 in
set_option maxHeartbeats 2000000 in
theorem vpct_any (kA cA eA : Int) (sA : ByteArray) (bA : Bool) (xA : Int) (kO cO eO : Int) (sO : ByteArray) (bO : Bool) (xO : Int)
    (HP : ∀ V, Hid (Calls Tryz.prog 23 #[.agg #[.int .i64 1, .int .i64 (-2)], .int .i64 0] V fun r w' => r = .returned (.agg #[.int .i64 1, .int .i64 1, .int .i64 (-2), .string .empty, .bool false, .int .i64 0]) ∧ Below V.heap.size V w'))
    (HR : ∀ V, Hid (Calls Tryz.prog 63 #[.func (.func 66) #[] #[], .agg #[.int .i64 kA, .int .i64 cA, .int .i64 eA, .string sA, .bool bA, .int .i64 xA], .agg #[.int .i64 1, .int .i64 1, .int .i64 (-2), .string .empty, .bool false, .int .i64 0]] V fun r w' => r = .returned (.agg #[.int .i64 kO, .int .i64 cO, .int .i64 eO, .string sO, .bool bO, .int .i64 xO]) ∧ Below V.heap.size V w')) (w : World) :
    Calls Tryz.prog 40 #[.agg #[.int .i64 kA, .int .i64 cA, .int .i64 eA, .string sA, .bool bA, .int .i64 xA]] w fun r w' => r = .returned (.agg #[.int .i64 kO, .int .i64 cO, .int .i64 eO, .string sO, .bool bO, .int .i64 xO]) ∧ Below w.heap.size w w' := by
  have h0 := PR.start w #[.int .i64 kA, .int .i64 cA, .int .i64 eA, .string sA, .bool bA, .int .i64 xA] #[.int .i64 0, .int .i64 0, .int .i64 0, .string ⟨#[]⟩, .bool false, .int .i64 0]
  go_enter Tryz.func40, Tryz.ntmps40
  go_upto_region 1 with fail
  generalize (w.alloc (.cells #[.int .i64 kA, .int .i64 cA, .int .i64 eA, .string sA, .bool bA, .int .i64 xA] 25)).alloc (.cells #[.int .i64 0, .int .i64 0, .int .i64 0, .string ⟨#[]⟩, .bool false, .int .i64 0] 25) = W at *
  have hS : Below W.heap.size W W.drew := (Below.refl _ W).drew
  have cAt := fun wx (hx : Below W.heap.size W wx) => h0.next hx
  refine wp_region_M (fun wx : World => Below W.heap.size W wx) (fun j => decide (j < 4)) 5 rfl (by kernel_rfl) ?_
  refine wpM_held 0 (v := .agg #[.int .i64 kA, .int .i64 cA, .int .i64 eA, .string sA, .bool bA, .int .i64 xA]) rfl (by kernel_rfl) (by kernel_rfl) rfl (fun _ _ _ h => h) rfl (by intro wx hx; obtain ⟨z0, z1, z2, z3, z4, z5⟩ := (cAt wx hx).1.six; go_simp <;> rfl) hS ?_
  refine wpM_held 1 (v := .agg #[.int .i64 1, .int .i64 (-2)]) rfl (by kernel_rfl) (by kernel_rfl) rfl (fun _ _ _ h => h) rfl (by intro wx hx; go_simp <;> rfl) hS ?_
  refine wpM_one 2 rfl (by kernel_rfl) rfl ?_
  go_wp2_with fail
  refine Calls.mono (HP _).out ?_
  rintro _ wa ⟨rfl, lwa⟩
  have hSa : Below W.heap.size W wa := hS.trans (lwa.mono hS.size)
  go_wp2_with fail
  refine ⟨fun _ => hSa, ?_⟩
  refine wpM_one 3 rfl (by kernel_rfl) rfl ?_
  go_wp2_with fail
  refine Calls.mono (HR _).out ?_
  rintro _ wb ⟨rfl, lwb⟩
  have hSb : Below W.heap.size W wb := hSa.trans (lwb.mono hSa.size)
  have h5 := h0.next hSb
  obtain ⟨y0, y1, y2, y3, y4, y5⟩ := h5.2.1.six
  have zf := h5.2.1.frozen
  have wl := h5.2.1.lt
  go_wp2_with fail
  refine ⟨fun _ => hSb, ?_⟩
  refine wpM_one 4 rfl (by kernel_rfl) rfl ?_
  go_wp2_with fail
  refine ⟨fun h => absurd h (by decide), ?_⟩
  refine wpM_done (by kernel_rfl) ?_
  clear lwa lwb hSa hSb hS cAt h0 HP HR
  go_wp2
  exact bodyPost_ret (ret_one rfl (g := w.heap.size + 1) rfl ((h5.setR _ _ _ _ _ _).res rfl)) rfl ⟨rfl, (h5.setR _ _ _ _ _ _).2.2⟩
end Go.Proofs.YtnhflnpjepiceaaGreatDoor
/- val: reckoned, of one more way -/
namespace Go.Proofs.YtnhflnpjepiceaaGreatDoor
open Go.RowKit

set_option maxRecDepth 100000 in
set_option maxHeartbeats 8000000 in
theorem reck_ok67 (kA cA eA : Int) (sA : ByteArray) (bA : Bool) (xA : Int) (kB cB eB : Int) (sB : ByteArray) (bB : Bool) (xB : Int) (kP cP eP : Int) (sP : ByteArray) (bP : Bool) (xP : Int) (kQ cQ eQ : Int) (sQ : ByteArray) (bQ : Bool) (xQ : Int) (kO cO eO : Int) (sO : ByteArray) (bO : Bool) (xO : Int) (c5 e5 er : Int)
    (HA : ∀ V, Hid (Calls Tryz.prog 11 #[.agg #[.int .i64 kA, .int .i64 cA, .int .i64 eA, .string sA, .bool bA, .int .i64 xA]] V fun r w' => r = .returned (.agg #[.int .i64 kP, .int .i64 cP, .int .i64 eP, .string sP, .bool bP, .int .i64 xP]) ∧ Below V.heap.size V w')) (HB : ∀ V, Hid (Calls Tryz.prog 11 #[.agg #[.int .i64 kB, .int .i64 cB, .int .i64 eB, .string sB, .bool bB, .int .i64 xB]] V fun r w' => r = .returned (.agg #[.int .i64 kQ, .int .i64 cQ, .int .i64 eQ, .string sQ, .bool bQ, .int .i64 xQ]) ∧ Below V.heap.size V w'))
    (HF : ∀ K V, Row V K 25 (c12 kP cP eP sP bP xP kQ cQ eQ sQ bQ xQ) → Hid (Calls Tryz.prog 62 #[.slice (some ⟨K, 0, none⟩) 2 2] V fun r w' => r = .returned (.tuple #[.agg #[.int .i64 0, .int .i64 0, .int .i64 0, .string .empty, .bool false, .int .i64 0], .bool false]) ∧ Below V.heap.size V w'))
    (HW : ∀ V, Hid (Calls Tryz.prog 67 #[.agg #[.int .i64 cP, .int .i64 eP], .agg #[.int .i64 cQ, .int .i64 eQ]] V fun r w' => r = .returned (.tuple #[.agg #[.int .i64 c5, .int .i64 e5], .int .i64 er]) ∧ Below V.heap.size V w')) (HO : ∀ V, Hid (Calls Tryz.prog 23 #[.agg #[.int .i64 c5, .int .i64 e5], .int .i64 er] V fun r w' => r = .returned (.agg #[.int .i64 kO, .int .i64 cO, .int .i64 eO, .string sO, .bool bO, .int .i64 xO]) ∧ Below V.heap.size V w')) (w : World) :
    Calls Tryz.prog 63 #[.func (.func 67) #[] #[], .agg #[.int .i64 kA, .int .i64 cA, .int .i64 eA, .string sA, .bool bA, .int .i64 xA], .agg #[.int .i64 kB, .int .i64 cB, .int .i64 eB, .string sB, .bool bB, .int .i64 xB]] w fun r w' => r = .returned (.agg #[.int .i64 kO, .int .i64 cO, .int .i64 eO, .string sO, .bool bO, .int .i64 xO]) ∧ Below w.heap.size w w' := by
  have h0 := P3.start w #[.int .i64 kA, .int .i64 cA, .int .i64 eA, .string sA, .bool bA, .int .i64 xA] #[.int .i64 kB, .int .i64 cB, .int .i64 eB, .string sB, .bool bB, .int .i64 xB] #[.int .i64 0, .int .i64 0, .int .i64 0, .string ⟨#[]⟩, .bool false, .int .i64 0]
  go_enter Tryz.func63, Tryz.ntmps63
  go_upto_region 1 with fail
  generalize ((w.alloc (.cells #[.int .i64 kA, .int .i64 cA, .int .i64 eA, .string sA, .bool bA, .int .i64 xA] 25)).alloc (.cells #[.int .i64 kB, .int .i64 cB, .int .i64 eB, .string sB, .bool bB, .int .i64 xB] 25)).alloc (.cells #[.int .i64 0, .int .i64 0, .int .i64 0, .string ⟨#[]⟩, .bool false, .int .i64 0] 25) = W at *
  have hS : Below W.heap.size W W.drew := (Below.refl _ W).drew
  have cAt := fun wx (hx : Below W.heap.size W wx) => h0.next hx
  refine wp_region_M (fun wx : World => Below W.heap.size W wx) (fun j => decide (j < 4)) 6 rfl (by kernel_rfl) ?_
  refine wpM_held 0 (v := .agg #[.int .i64 kA, .int .i64 cA, .int .i64 eA, .string sA, .bool bA, .int .i64 xA]) rfl (by kernel_rfl) (by kernel_rfl) rfl (fun _ _ _ h => h) rfl (by intro wx hx; obtain ⟨z0, z1, z2, z3, z4, z5⟩ := (cAt wx hx).1.six; go_simp <;> rfl) hS ?_
  refine wpM_held 2 (v := .agg #[.int .i64 kB, .int .i64 cB, .int .i64 eB, .string sB, .bool bB, .int .i64 xB]) rfl (by kernel_rfl) (by kernel_rfl) rfl (fun _ _ _ h => h) rfl (by intro wx hx; obtain ⟨z0, z1, z2, z3, z4, z5⟩ := (cAt wx hx).2.1.six; go_simp <;> rfl) hS ?_
  refine wpM_one 1 rfl (by kernel_rfl) rfl ?_
  go_wp2_with fail
  refine Calls.mono (HA _).out ?_
  rintro _ wa ⟨rfl, lwa⟩
  have hSa : Below W.heap.size W wa := hS.trans (lwa.mono hS.size)
  go_wp2_with fail
  refine ⟨fun _ => hSa, ?_⟩
  refine wpM_one 3 rfl (by kernel_rfl) rfl ?_
  go_wp2_with fail
  refine Calls.mono (HB _).out ?_
  rintro _ wb ⟨rfl, lwb⟩
  have hSb : Below W.heap.size W wb := hSa.trans (lwb.mono hSa.size)
  have hb := h0.next hSb
  obtain ⟨m0, m1, m2, m3, m4, m5⟩ := hb.1.six
  obtain ⟨n0, n1, n2, n3, n4, n5⟩ := hb.2.1.six
  have mf := hb.1.frozen
  have nf := hb.2.1.frozen
  have ml := hb.1.lt
  have nl := hb.2.1.lt
  go_wp2_with fail
  refine ⟨fun _ => hSb, ?_⟩
  refine wpM_one 4 rfl (by kernel_rfl) rfl ?_
  go_wp2_with fail
  refine ⟨fun h => absurd h (by decide), ?_⟩
  refine wpM_one 5 rfl (by kernel_rfl) rfl ?_
  go_wp2_with fail
  refine ⟨fun h => absurd h (by decide), ?_⟩
  refine wpM_done (by kernel_rfl) ?_
  have h1 := (hb.setP (.int .i64 kP) (.int .i64 cP) (.int .i64 eP) (.string sP) (.bool bP) (.int .i64 xP)).setR (.int .i64 kQ) (.int .i64 cQ) (.int .i64 eQ) (.string sQ) (.bool bQ) (.int .i64 xQ)
  clear hS cAt lwa hSa lwb hSb m0 m1 m2 m3 m4 m5 n0 n1 n2 n3 n4 n5 mf nf ml nl hb h0
  generalize ((((((((((((wb.setCell ⟨w.heap.size, 0, none⟩ (.int .i64 kP)).setCell ⟨w.heap.size, 1, none⟩ (.int .i64 cP)).setCell ⟨w.heap.size, 2, none⟩ (.int .i64 eP)).setCell ⟨w.heap.size, 3, none⟩ (.string sP)).setCell ⟨w.heap.size, 4, none⟩ (.bool bP)).setCell ⟨w.heap.size, 5, none⟩ (.int .i64 xP)).setCell ⟨w.heap.size + 1, 0, none⟩ (.int .i64 kQ)).setCell ⟨w.heap.size + 1, 1, none⟩ (.int .i64 cQ)).setCell ⟨w.heap.size + 1, 2, none⟩ (.int .i64 eQ)).setCell ⟨w.heap.size + 1, 3, none⟩ (.string sQ)).setCell ⟨w.heap.size + 1, 4, none⟩ (.bool bQ)).setCell ⟨w.heap.size + 1, 5, none⟩ (.int .i64 xQ)) = W1 at *
  have hK := Row.new W1 25 (c12 kP cP eP sP bP xP kQ cQ eQ sQ bQ xQ)
  have hA1 : Below W1.heap.size W1 (W1.alloc (.cells (c12 kP cP eP sP bP xP kQ cQ eQ sQ bQ xQ) 25)) := (Below.refl _ W1).alloc (Nat.le_refl _) _
  have HFa := (HF _ _ hK)
  have h2 := h1.next hA1
  unfold c12 at hK hA1 HFa h2
  obtain ⟨m0, m1, m2, m3, m4, m5⟩ := h1.1.six
  obtain ⟨n0, n1, n2, n3, n4, n5⟩ := h1.2.1.six
  go_wp2_with fail
  refine Calls.mono HFa.out ?_
  rintro _ w3 ⟨rfl, lw3⟩
  have tk := Row.new w3 25 #[.int .i64 0, .int .i64 0, .int .i64 0, .string .empty, .bool false, .int .i64 0]
  have h3 := (h2.next lw3).next ((Below.refl _ w3).alloc (Nat.le_refl _) (.cells #[.int .i64 0, .int .i64 0, .int .i64 0, .string .empty, .bool false, .int .i64 0] 25))
  clear hK hA1 HFa h2 lw3 m0 m1 m2 m3 m4 m5 n0 n1 n2 n3 n4 n5 h1 HF HA HB
  go_upto_region 3 with fail
  generalize w3.alloc (.cells #[.int .i64 0, .int .i64 0, .int .i64 0, .string .empty, .bool false, .int .i64 0] 25) = W3 at *
  obtain ⟨m0, m1, m2, m3, m4, m5⟩ := h3.1.six
  obtain ⟨n0, n1, n2, n3, n4, n5⟩ := h3.2.1.six
  go_wp2_with fail
  refine Calls.mono (HW _).out ?_
  rintro _ w5 ⟨rfl, lw5⟩
  have h5 := h3.next lw5
  clear lw5 h3 tk m0 m1 m2 m3 m4 m5 n0 n1 n2 n3 n4 n5 HW
  go_wp2_with fail
  refine Calls.mono (HO _).out ?_
  rintro _ w6 ⟨rfl, lw6⟩
  have h6 := h5.next lw6
  obtain ⟨y0, y1, y2, y3, y4, y5⟩ := h6.2.2.1.six
  have zf := h6.2.2.1.frozen
  have wl := h6.2.2.1.lt
  clear lw6 h5 HO
  go_wp2
  exact bodyPost_ret (ret_one rfl (g := w.heap.size + 1 + 1) rfl ((h6.setT _ _ _ _ _ _).res rfl)) rfl ⟨rfl, (h6.setT _ _ _ _ _ _).2.2.2⟩
end Go.Proofs.YtnhflnpjepiceaaGreatDoor
/- val: Bin, of one operator -/
namespace Go.Proofs.YtnhflnpjepiceaaGreatDoor
open Go.RowKit

set_option maxRecDepth 100000 in
set_option maxHeartbeats 8000000 in
theorem bin_op1 (kA cA eA : Int) (sA : ByteArray) (bA : Bool) (xA : Int) (kB cB eB : Int) (sB : ByteArray) (bB : Bool) (xB : Int) (kP cP eP : Int) (sP : ByteArray) (bP : Bool) (xP : Int) (kQ cQ eQ : Int) (sQ : ByteArray) (bQ : Bool) (xQ : Int) (kO cO eO : Int) (sO : ByteArray) (bO : Bool) (xO : Int)
    (HA : ∀ V, Hid (Calls Tryz.prog 48 #[.agg #[.int .i64 kA, .int .i64 cA, .int .i64 eA, .string sA, .bool bA, .int .i64 xA]] V fun r w' => r = .returned (.agg #[.int .i64 kP, .int .i64 cP, .int .i64 eP, .string sP, .bool bP, .int .i64 xP]) ∧ Below V.heap.size V w')) (HB : ∀ V, Hid (Calls Tryz.prog 48 #[.agg #[.int .i64 kB, .int .i64 cB, .int .i64 eB, .string sB, .bool bB, .int .i64 xB]] V fun r w' => r = .returned (.agg #[.int .i64 kQ, .int .i64 cQ, .int .i64 eQ, .string sQ, .bool bQ, .int .i64 xQ]) ∧ Below V.heap.size V w'))
    (HF : ∀ K V, Row V K 25 (c12 kP cP eP sP bP xP kQ cQ eQ sQ bQ xQ) → Hid (Calls Tryz.prog 62 #[.slice (some ⟨K, 0, none⟩) 2 2] V fun r w' => r = .returned (.tuple #[.agg #[.int .i64 0, .int .i64 0, .int .i64 0, .string .empty, .bool false, .int .i64 0], .bool false]) ∧ Below V.heap.size V w'))
    (HR : ∀ V, Hid (Calls Tryz.prog 63 #[.func (.func 64) #[] #[], .agg #[.int .i64 kP, .int .i64 cP, .int .i64 eP, .string sP, .bool bP, .int .i64 xP], .agg #[.int .i64 kQ, .int .i64 cQ, .int .i64 eQ, .string sQ, .bool bQ, .int .i64 xQ]] V fun r w' => r = .returned (.agg #[.int .i64 kO, .int .i64 cO, .int .i64 eO, .string sO, .bool bO, .int .i64 xO]) ∧ Below V.heap.size V w')) (w : World) :
    Calls Tryz.prog 34 #[.int .i64 1, .agg #[.int .i64 kA, .int .i64 cA, .int .i64 eA, .string sA, .bool bA, .int .i64 xA], .agg #[.int .i64 kB, .int .i64 cB, .int .i64 eB, .string sB, .bool bB, .int .i64 xB]] w fun r w' => r = .returned (.agg #[.int .i64 kO, .int .i64 cO, .int .i64 eO, .string sO, .bool bO, .int .i64 xO]) ∧ Below w.heap.size w w' := by
  have h0 := P3.start w #[.int .i64 kA, .int .i64 cA, .int .i64 eA, .string sA, .bool bA, .int .i64 xA] #[.int .i64 kB, .int .i64 cB, .int .i64 eB, .string sB, .bool bB, .int .i64 xB] #[.int .i64 0, .int .i64 0, .int .i64 0, .string ⟨#[]⟩, .bool false, .int .i64 0]
  go_enter Tryz.func34, Tryz.ntmps34
  go_upto_region 1 with fail
  generalize ((w.alloc (.cells #[.int .i64 kA, .int .i64 cA, .int .i64 eA, .string sA, .bool bA, .int .i64 xA] 25)).alloc (.cells #[.int .i64 kB, .int .i64 cB, .int .i64 eB, .string sB, .bool bB, .int .i64 xB] 25)).alloc (.cells #[.int .i64 0, .int .i64 0, .int .i64 0, .string ⟨#[]⟩, .bool false, .int .i64 0] 25) = W at *
  have hS : Below W.heap.size W W.drew := (Below.refl _ W).drew
  have cAt := fun wx (hx : Below W.heap.size W wx) => h0.next hx
  refine wp_region_M (fun wx : World => Below W.heap.size W wx) (fun j => decide (j < 4)) 6 rfl (by kernel_rfl) ?_
  refine wpM_held 0 (v := .agg #[.int .i64 kA, .int .i64 cA, .int .i64 eA, .string sA, .bool bA, .int .i64 xA]) rfl (by kernel_rfl) (by kernel_rfl) rfl (fun _ _ _ h => h) rfl (by intro wx hx; obtain ⟨z0, z1, z2, z3, z4, z5⟩ := (cAt wx hx).1.six; go_simp <;> rfl) hS ?_
  refine wpM_held 2 (v := .agg #[.int .i64 kB, .int .i64 cB, .int .i64 eB, .string sB, .bool bB, .int .i64 xB]) rfl (by kernel_rfl) (by kernel_rfl) rfl (fun _ _ _ h => h) rfl (by intro wx hx; obtain ⟨z0, z1, z2, z3, z4, z5⟩ := (cAt wx hx).2.1.six; go_simp <;> rfl) hS ?_
  refine wpM_one 1 rfl (by kernel_rfl) rfl ?_
  go_wp2_with fail
  refine Calls.mono (HA _).out ?_
  rintro _ wa ⟨rfl, lwa⟩
  have hSa : Below W.heap.size W wa := hS.trans (lwa.mono hS.size)
  go_wp2_with fail
  refine ⟨fun _ => hSa, ?_⟩
  refine wpM_one 3 rfl (by kernel_rfl) rfl ?_
  go_wp2_with fail
  refine Calls.mono (HB _).out ?_
  rintro _ wb ⟨rfl, lwb⟩
  have hSb : Below W.heap.size W wb := hSa.trans (lwb.mono hSa.size)
  have hb := h0.next hSb
  obtain ⟨m0, m1, m2, m3, m4, m5⟩ := hb.1.six
  obtain ⟨n0, n1, n2, n3, n4, n5⟩ := hb.2.1.six
  have mf := hb.1.frozen
  have nf := hb.2.1.frozen
  have ml := hb.1.lt
  have nl := hb.2.1.lt
  go_wp2_with fail
  refine ⟨fun _ => hSb, ?_⟩
  refine wpM_one 4 rfl (by kernel_rfl) rfl ?_
  go_wp2_with fail
  refine ⟨fun h => absurd h (by decide), ?_⟩
  refine wpM_one 5 rfl (by kernel_rfl) rfl ?_
  go_wp2_with fail
  refine ⟨fun h => absurd h (by decide), ?_⟩
  refine wpM_done (by kernel_rfl) ?_
  have h1 := (hb.setP (.int .i64 kP) (.int .i64 cP) (.int .i64 eP) (.string sP) (.bool bP) (.int .i64 xP)).setR (.int .i64 kQ) (.int .i64 cQ) (.int .i64 eQ) (.string sQ) (.bool bQ) (.int .i64 xQ)
  clear hS cAt lwa hSa lwb hSb m0 m1 m2 m3 m4 m5 n0 n1 n2 n3 n4 n5 mf nf ml nl hb h0
  generalize ((((((((((((wb.setCell ⟨w.heap.size, 0, none⟩ (.int .i64 kP)).setCell ⟨w.heap.size, 1, none⟩ (.int .i64 cP)).setCell ⟨w.heap.size, 2, none⟩ (.int .i64 eP)).setCell ⟨w.heap.size, 3, none⟩ (.string sP)).setCell ⟨w.heap.size, 4, none⟩ (.bool bP)).setCell ⟨w.heap.size, 5, none⟩ (.int .i64 xP)).setCell ⟨w.heap.size + 1, 0, none⟩ (.int .i64 kQ)).setCell ⟨w.heap.size + 1, 1, none⟩ (.int .i64 cQ)).setCell ⟨w.heap.size + 1, 2, none⟩ (.int .i64 eQ)).setCell ⟨w.heap.size + 1, 3, none⟩ (.string sQ)).setCell ⟨w.heap.size + 1, 4, none⟩ (.bool bQ)).setCell ⟨w.heap.size + 1, 5, none⟩ (.int .i64 xQ)) = W1 at *
  have hK := Row.new W1 25 (c12 kP cP eP sP bP xP kQ cQ eQ sQ bQ xQ)
  have hA1 : Below W1.heap.size W1 (W1.alloc (.cells (c12 kP cP eP sP bP xP kQ cQ eQ sQ bQ xQ) 25)) := (Below.refl _ W1).alloc (Nat.le_refl _) _
  have HFa := (HF _ _ hK)
  have h2 := h1.next hA1
  unfold c12 at hK hA1 HFa h2
  obtain ⟨m0, m1, m2, m3, m4, m5⟩ := h1.1.six
  obtain ⟨n0, n1, n2, n3, n4, n5⟩ := h1.2.1.six
  go_wp2_with fail
  refine Calls.mono HFa.out ?_
  rintro _ w3 ⟨rfl, lw3⟩
  have tk := Row.new w3 25 #[.int .i64 0, .int .i64 0, .int .i64 0, .string .empty, .bool false, .int .i64 0]
  have h3 := (h2.next lw3).next ((Below.refl _ w3).alloc (Nat.le_refl _) (.cells #[.int .i64 0, .int .i64 0, .int .i64 0, .string .empty, .bool false, .int .i64 0] 25))
  clear hK hA1 HFa h2 lw3 m0 m1 m2 m3 m4 m5 n0 n1 n2 n3 n4 n5 h1 HF HA HB
  go_upto_region 3 with fail
  generalize w3.alloc (.cells #[.int .i64 0, .int .i64 0, .int .i64 0, .string .empty, .bool false, .int .i64 0] 25) = W3 at *
  obtain ⟨m0, m1, m2, m3, m4, m5⟩ := h3.1.six
  obtain ⟨n0, n1, n2, n3, n4, n5⟩ := h3.2.1.six
  go_wp2_with fail
  refine Calls.mono (HR _).out ?_
  rintro _ w5 ⟨rfl, lw5⟩
  have h5 := h3.next lw5
  obtain ⟨y0, y1, y2, y3, y4, y5⟩ := h5.2.2.1.six
  have zf := h5.2.2.1.frozen
  have wl := h5.2.2.1.lt
  clear lw5 h3 tk m0 m1 m2 m3 m4 m5 n0 n1 n2 n3 n4 n5 HR
  go_wp2
  exact bodyPost_ret (ret_one rfl (g := w.heap.size + 1 + 1) rfl ((h5.setT _ _ _ _ _ _).res rfl)) rfl ⟨rfl, (h5.setT _ _ _ _ _ _).2.2.2⟩
end Go.Proofs.YtnhflnpjepiceaaGreatDoor
/- val: Bin, of one operator -/
namespace Go.Proofs.YtnhflnpjepiceaaGreatDoor
open Go.RowKit

set_option maxRecDepth 100000 in
set_option maxHeartbeats 8000000 in
theorem bin_op4 (kA cA eA : Int) (sA : ByteArray) (bA : Bool) (xA : Int) (kB cB eB : Int) (sB : ByteArray) (bB : Bool) (xB : Int) (kP cP eP : Int) (sP : ByteArray) (bP : Bool) (xP : Int) (kQ cQ eQ : Int) (sQ : ByteArray) (bQ : Bool) (xQ : Int) (kO cO eO : Int) (sO : ByteArray) (bO : Bool) (xO : Int)
    (HA : ∀ V, Hid (Calls Tryz.prog 48 #[.agg #[.int .i64 kA, .int .i64 cA, .int .i64 eA, .string sA, .bool bA, .int .i64 xA]] V fun r w' => r = .returned (.agg #[.int .i64 kP, .int .i64 cP, .int .i64 eP, .string sP, .bool bP, .int .i64 xP]) ∧ Below V.heap.size V w')) (HB : ∀ V, Hid (Calls Tryz.prog 48 #[.agg #[.int .i64 kB, .int .i64 cB, .int .i64 eB, .string sB, .bool bB, .int .i64 xB]] V fun r w' => r = .returned (.agg #[.int .i64 kQ, .int .i64 cQ, .int .i64 eQ, .string sQ, .bool bQ, .int .i64 xQ]) ∧ Below V.heap.size V w'))
    (HF : ∀ K V, Row V K 25 (c12 kP cP eP sP bP xP kQ cQ eQ sQ bQ xQ) → Hid (Calls Tryz.prog 62 #[.slice (some ⟨K, 0, none⟩) 2 2] V fun r w' => r = .returned (.tuple #[.agg #[.int .i64 0, .int .i64 0, .int .i64 0, .string .empty, .bool false, .int .i64 0], .bool false]) ∧ Below V.heap.size V w'))
    (HR : ∀ V, Hid (Calls Tryz.prog 63 #[.func (.func 67) #[] #[], .agg #[.int .i64 kP, .int .i64 cP, .int .i64 eP, .string sP, .bool bP, .int .i64 xP], .agg #[.int .i64 kQ, .int .i64 cQ, .int .i64 eQ, .string sQ, .bool bQ, .int .i64 xQ]] V fun r w' => r = .returned (.agg #[.int .i64 kO, .int .i64 cO, .int .i64 eO, .string sO, .bool bO, .int .i64 xO]) ∧ Below V.heap.size V w')) (w : World) :
    Calls Tryz.prog 34 #[.int .i64 4, .agg #[.int .i64 kA, .int .i64 cA, .int .i64 eA, .string sA, .bool bA, .int .i64 xA], .agg #[.int .i64 kB, .int .i64 cB, .int .i64 eB, .string sB, .bool bB, .int .i64 xB]] w fun r w' => r = .returned (.agg #[.int .i64 kO, .int .i64 cO, .int .i64 eO, .string sO, .bool bO, .int .i64 xO]) ∧ Below w.heap.size w w' := by
  have h0 := P3.start w #[.int .i64 kA, .int .i64 cA, .int .i64 eA, .string sA, .bool bA, .int .i64 xA] #[.int .i64 kB, .int .i64 cB, .int .i64 eB, .string sB, .bool bB, .int .i64 xB] #[.int .i64 0, .int .i64 0, .int .i64 0, .string ⟨#[]⟩, .bool false, .int .i64 0]
  go_enter Tryz.func34, Tryz.ntmps34
  go_upto_region 1 with fail
  generalize ((w.alloc (.cells #[.int .i64 kA, .int .i64 cA, .int .i64 eA, .string sA, .bool bA, .int .i64 xA] 25)).alloc (.cells #[.int .i64 kB, .int .i64 cB, .int .i64 eB, .string sB, .bool bB, .int .i64 xB] 25)).alloc (.cells #[.int .i64 0, .int .i64 0, .int .i64 0, .string ⟨#[]⟩, .bool false, .int .i64 0] 25) = W at *
  have hS : Below W.heap.size W W.drew := (Below.refl _ W).drew
  have cAt := fun wx (hx : Below W.heap.size W wx) => h0.next hx
  refine wp_region_M (fun wx : World => Below W.heap.size W wx) (fun j => decide (j < 4)) 6 rfl (by kernel_rfl) ?_
  refine wpM_held 0 (v := .agg #[.int .i64 kA, .int .i64 cA, .int .i64 eA, .string sA, .bool bA, .int .i64 xA]) rfl (by kernel_rfl) (by kernel_rfl) rfl (fun _ _ _ h => h) rfl (by intro wx hx; obtain ⟨z0, z1, z2, z3, z4, z5⟩ := (cAt wx hx).1.six; go_simp <;> rfl) hS ?_
  refine wpM_held 2 (v := .agg #[.int .i64 kB, .int .i64 cB, .int .i64 eB, .string sB, .bool bB, .int .i64 xB]) rfl (by kernel_rfl) (by kernel_rfl) rfl (fun _ _ _ h => h) rfl (by intro wx hx; obtain ⟨z0, z1, z2, z3, z4, z5⟩ := (cAt wx hx).2.1.six; go_simp <;> rfl) hS ?_
  refine wpM_one 1 rfl (by kernel_rfl) rfl ?_
  go_wp2_with fail
  refine Calls.mono (HA _).out ?_
  rintro _ wa ⟨rfl, lwa⟩
  have hSa : Below W.heap.size W wa := hS.trans (lwa.mono hS.size)
  go_wp2_with fail
  refine ⟨fun _ => hSa, ?_⟩
  refine wpM_one 3 rfl (by kernel_rfl) rfl ?_
  go_wp2_with fail
  refine Calls.mono (HB _).out ?_
  rintro _ wb ⟨rfl, lwb⟩
  have hSb : Below W.heap.size W wb := hSa.trans (lwb.mono hSa.size)
  have hb := h0.next hSb
  obtain ⟨m0, m1, m2, m3, m4, m5⟩ := hb.1.six
  obtain ⟨n0, n1, n2, n3, n4, n5⟩ := hb.2.1.six
  have mf := hb.1.frozen
  have nf := hb.2.1.frozen
  have ml := hb.1.lt
  have nl := hb.2.1.lt
  go_wp2_with fail
  refine ⟨fun _ => hSb, ?_⟩
  refine wpM_one 4 rfl (by kernel_rfl) rfl ?_
  go_wp2_with fail
  refine ⟨fun h => absurd h (by decide), ?_⟩
  refine wpM_one 5 rfl (by kernel_rfl) rfl ?_
  go_wp2_with fail
  refine ⟨fun h => absurd h (by decide), ?_⟩
  refine wpM_done (by kernel_rfl) ?_
  have h1 := (hb.setP (.int .i64 kP) (.int .i64 cP) (.int .i64 eP) (.string sP) (.bool bP) (.int .i64 xP)).setR (.int .i64 kQ) (.int .i64 cQ) (.int .i64 eQ) (.string sQ) (.bool bQ) (.int .i64 xQ)
  clear hS cAt lwa hSa lwb hSb m0 m1 m2 m3 m4 m5 n0 n1 n2 n3 n4 n5 mf nf ml nl hb h0
  generalize ((((((((((((wb.setCell ⟨w.heap.size, 0, none⟩ (.int .i64 kP)).setCell ⟨w.heap.size, 1, none⟩ (.int .i64 cP)).setCell ⟨w.heap.size, 2, none⟩ (.int .i64 eP)).setCell ⟨w.heap.size, 3, none⟩ (.string sP)).setCell ⟨w.heap.size, 4, none⟩ (.bool bP)).setCell ⟨w.heap.size, 5, none⟩ (.int .i64 xP)).setCell ⟨w.heap.size + 1, 0, none⟩ (.int .i64 kQ)).setCell ⟨w.heap.size + 1, 1, none⟩ (.int .i64 cQ)).setCell ⟨w.heap.size + 1, 2, none⟩ (.int .i64 eQ)).setCell ⟨w.heap.size + 1, 3, none⟩ (.string sQ)).setCell ⟨w.heap.size + 1, 4, none⟩ (.bool bQ)).setCell ⟨w.heap.size + 1, 5, none⟩ (.int .i64 xQ)) = W1 at *
  have hK := Row.new W1 25 (c12 kP cP eP sP bP xP kQ cQ eQ sQ bQ xQ)
  have hA1 : Below W1.heap.size W1 (W1.alloc (.cells (c12 kP cP eP sP bP xP kQ cQ eQ sQ bQ xQ) 25)) := (Below.refl _ W1).alloc (Nat.le_refl _) _
  have HFa := (HF _ _ hK)
  have h2 := h1.next hA1
  unfold c12 at hK hA1 HFa h2
  obtain ⟨m0, m1, m2, m3, m4, m5⟩ := h1.1.six
  obtain ⟨n0, n1, n2, n3, n4, n5⟩ := h1.2.1.six
  go_wp2_with fail
  refine Calls.mono HFa.out ?_
  rintro _ w3 ⟨rfl, lw3⟩
  have tk := Row.new w3 25 #[.int .i64 0, .int .i64 0, .int .i64 0, .string .empty, .bool false, .int .i64 0]
  have h3 := (h2.next lw3).next ((Below.refl _ w3).alloc (Nat.le_refl _) (.cells #[.int .i64 0, .int .i64 0, .int .i64 0, .string .empty, .bool false, .int .i64 0] 25))
  clear hK hA1 HFa h2 lw3 m0 m1 m2 m3 m4 m5 n0 n1 n2 n3 n4 n5 h1 HF HA HB
  go_upto_region 3 with fail
  generalize w3.alloc (.cells #[.int .i64 0, .int .i64 0, .int .i64 0, .string .empty, .bool false, .int .i64 0] 25) = W3 at *
  obtain ⟨m0, m1, m2, m3, m4, m5⟩ := h3.1.six
  obtain ⟨n0, n1, n2, n3, n4, n5⟩ := h3.2.1.six
  go_wp2_with fail
  refine Calls.mono (HR _).out ?_
  rintro _ w5 ⟨rfl, lw5⟩
  have h5 := h3.next lw5
  obtain ⟨y0, y1, y2, y3, y4, y5⟩ := h5.2.2.1.six
  have zf := h5.2.2.1.frozen
  have wl := h5.2.2.1.lt
  clear lw5 h3 tk m0 m1 m2 m3 m4 m5 n0 n1 n2 n3 n4 n5 HR
  go_wp2
  exact bodyPost_ret (ret_one rfl (g := w.heap.size + 1 + 1) rfl ((h5.setT _ _ _ _ _ _).res rfl)) rfl ⟨rfl, (h5.setT _ _ _ _ _ _).2.2.2⟩
end Go.Proofs.YtnhflnpjepiceaaGreatDoor
/- val: the chapter's examples: alive. -/
namespace Go.Proofs.YtnhflnpjepiceaaGreatDoor
open Go.RowKit

set_option maxRecDepth 100000 in
set_option maxHeartbeats 400000 in
theorem lawNum_any (c : Int) (w : World) : Calls Tryz.prog 59 #[.int .i64 c] w fun r w' => r = .returned (vN c 0).v ∧ Below w.heap.size w w' := by
  go_enter Tryz.func59, Tryz.ntmps59
  go_wp2
  refine bodyPost_ret (ret_one rfl (g := w.heap.size) rfl (load25 (Row.new w 25 _) rfl)) rfl ⟨rfl, ?_⟩
  exact (Below.refl _ w).alloc (Nat.le_refl _) _
theorem tx_two : textB ⟨#[50]⟩ = true := by kernel_rfl
theorem num_two : numV (vT ⟨#[50]⟩) = vN 2 0 := by
  unfold numV
  rw [clean_of (right_T tx_two)]
  kernel_rfl
theorem num_true : numV (vB true) = vN 1 0 := by
  unfold numV
  rw [clean_of (right_B true)]
  rfl
theorem num_num {c e : Int} (h : rightB c e = true) : numV (vN c e) = vN c e := by
  unfold numV
  rw [clean_of (right_N h)]
  rfl
theorem add_three : twoV 0 0 (sumW (decW 2 0) (decW 1 0)) = .tuple #[.agg #[.int .i64 3, .int .i64 0], .int .i64 0] := by kernel_rfl
theorem of_three : ofW 3 0 0 = vN 3 0 := by simp [ofW, rightB]
theorem i64_small {c : Int} (h : -1000 ≤ c ∧ c ≤ 1000) : I64 c := ⟨by omega, by omega⟩
theorem va_add (w : World) : Calls Tryz.prog 34 #[.int .i64 1, (vT ⟨#[50]⟩).v, (vB true).v] w fun r w' => r = .returned (vN 3 0).v ∧ Below w.heap.size w w' := by
  refine bin_op1 2 0 0 ⟨#[50]⟩ false 0 3 0 0 .empty true 0 2 0 0 ⟨#[50]⟩ false 0 3 0 0 .empty true 0 1 3 0 .empty false 0 ?_ ?_ ?_ ?_ w
  · intro V
    have h := taken_any (vT ⟨#[50]⟩) (i64_small (by decide)) V
    rw [clean_of (right_T tx_two)] at h
    exact h
  · intro V
    have h := taken_any (vB true) (i64_small (by decide)) V
    rw [clean_of (right_B true)] at h
    exact h
  · intro K V hK
    exact first_any (vT ⟨#[50]⟩) (vB true) K V hK
  · intro V
    refine reck_ok64 2 0 0 ⟨#[50]⟩ false 0 3 0 0 .empty true 0 1 2 0 .empty false 0 1 1 0 .empty false 0 1 3 0 .empty false 0 3 0 0 ?_ ?_ ?_ ?_ ?_ V
    · intro V
      have h := vnum_any (vT ⟨#[50]⟩) (i64_small (by decide)) V
      rw [num_two] at h
      exact h
    · intro V
      have h := vnum_any (vB true) (i64_small (by decide)) V
      rw [num_true] at h
      exact h
    · intro K V hK
      exact first_any (vN 2 0) (vN 1 0) K V hK
    · intro V
      have h := add_any 2 0 1 0 (i64_small (by decide)) (i64_small (by decide)) V
      rw [add_three] at h
      exact h
    · intro V
      have h := of_val 3 0 0 (i64_small (by decide)) V
      rw [of_three] at h
      exact h
theorem of_div : ofW 0 0 31 = vX 1 := by simp [ofW]
theorem va_div (w : World) : Calls Tryz.prog 34 #[.int .i64 4, (vN 1 0).v, (vN 0 0).v] w fun r w' => r = .returned (vX 1).v ∧ Below w.heap.size w w' := by
  have r1 : rightB 1 0 = true := by decide
  refine bin_op4 1 1 0 .empty false 0 1 0 0 .empty false 0 1 1 0 .empty false 0 1 0 0 .empty false 0 4 0 0 .empty false 1 ?_ ?_ ?_ ?_ w
  · intro V
    have h := taken_any (vN 1 0) (i64_small (by decide)) V
    rw [clean_of (right_N r1)] at h
    exact h
  · intro V
    have h := taken_any (vN 0 0) (i64_small (by decide)) V
    rw [clean_of (right_N zero_right)] at h
    exact h
  · intro K V hK
    exact first_any (vN 1 0) (vN 0 0) K V hK
  · intro V
    refine reck_ok67 1 1 0 .empty false 0 1 0 0 .empty false 0 1 1 0 .empty false 0 1 0 0 .empty false 0 4 0 0 .empty false 1 0 0 31 ?_ ?_ ?_ ?_ ?_ V
    · intro V
      have h := vnum_any (vN 1 0) (i64_small (by decide)) V
      rw [num_num r1] at h
      exact h
    · intro V
      have h := vnum_any (vN 0 0) (i64_small (by decide)) V
      rw [num_num zero_right] at h
      exact h
    · intro K V hK
      exact first_any (vN 1 0) (vN 0 0) K V hK
    · intro V
      exact div_zero 1 0 0 (i64_small (by decide)) ⟨by decide, by decide⟩ ⟨by decide, by decide⟩ V
    · intro V
      have h := of_val 0 0 31 (i64_small (by decide)) V
      rw [of_div] at h
      exact h
theorem tx_a : textB ⟨#[97]⟩ = true := by kernel_rfl
theorem tx_A : textB ⟨#[65]⟩ = true := by kernel_rfl
theorem tx_12 : textB ⟨#[49, 50]⟩ = true := by kernel_rfl
theorem tx_x : textB ⟨#[120]⟩ = true := by kernel_rfl
theorem va_cmp (w : World) : Calls Tryz.prog 36 #[(vT ⟨#[97]⟩).v, (vT ⟨#[65]⟩).v] w fun r w' => r = .returned (.int .i64 0) ∧ Below w.heap.size w w' := by
  have h := vcmp_any (vT ⟨#[97]⟩) (vT ⟨#[65]⟩) (i64_small (by decide)) (i64_small (by decide)) w
  have e : cmpVV (vT ⟨#[97]⟩) (vT ⟨#[65]⟩) = 0 := by
    unfold cmpVV
    rw [clean_of (right_T tx_a), clean_of (right_T tx_A)]
    kernel_rfl
  rw [e] at h
  exact h
theorem va_typed (w : World) (hE : Env w) : Calls Tryz.prog 30 #[.string ⟨#[39, 49, 50]⟩] w fun r w' => r = .returned (vT ⟨#[49, 50]⟩).v ∧ Below w.heap.size w w' := by
  have h := vtyped_any [39, 49, 50] (by decide) w hE
  have e : typedV [39, 49, 50] = vT ⟨#[49, 50]⟩ := by kernel_rfl
  rw [e] at h
  exact h
theorem va_show (w : World) (hE : Env w) : Calls Tryz.prog 17 #[(vX 6).v] w fun r w' => r = .returned (.string ⟨#[35, 78, 47, 65]⟩) ∧ Below w.heap.size w w' := by
  have h := vshow_any (vX 6) (i64_small (by decide)) w hE
  have e : showV (vX 6) = ⟨#[35, 78, 47, 65]⟩ := by
    unfold showV
    rw [clean_of (right_X (by decide))]
    rfl
  rw [e] at h
  exact h
theorem va_str {s : ByteArray} (h : textB s = true) (w : World) : Calls Tryz.prog 25 #[.string s] w fun r w' => r = .returned (vT s).v ∧ Below w.heap.size w w' := by
  have h1 := str_any s w
  unfold strW at h1
  rw [h] at h1
  exact h1
theorem va_err {x : Int} (h : codeB x = true) (w : World) : Calls Tryz.prog 27 #[.int .i64 x] w fun r w' => r = .returned (vX x).v ∧ Below w.heap.size w w' := by
  have h1 := err_any x w
  unfold errW at h1
  rw [h] at h1
  exact h1
set_option maxRecDepth 100000 in
set_option maxHeartbeats 8000000 in
theorem valive_any (w : World) (hE : Env w) : Calls Tryz.prog 19 #[] w fun r w' => r = .returned (.bool true) ∧ Below w.heap.size w w' := by
  have S1 : ∀ V, Hid (Calls Tryz.prog 25 #[.string ⟨#[50]⟩] V fun r w' => r = .returned (.agg #[.int .i64 2, .int .i64 0, .int .i64 0, .string ⟨#[50]⟩, .bool false, .int .i64 0]) ∧ Below V.heap.size V w') := fun V => va_str tx_two V
  have S2 : ∀ V, Hid (Calls Tryz.prog 32 #[.bool true] V fun r w' => r = .returned (.agg #[.int .i64 3, .int .i64 0, .int .i64 0, .string .empty, .bool true, .int .i64 0]) ∧ Below V.heap.size V w') := fun V => truth_any true V
  have S3 : ∀ V, Hid (Calls Tryz.prog 34 #[.int .i64 1, .agg #[.int .i64 2, .int .i64 0, .int .i64 0, .string ⟨#[50]⟩, .bool false, .int .i64 0], .agg #[.int .i64 3, .int .i64 0, .int .i64 0, .string .empty, .bool true, .int .i64 0]] V fun r w' => r = .returned (.agg #[.int .i64 1, .int .i64 3, .int .i64 0, .string .empty, .bool false, .int .i64 0]) ∧ Below V.heap.size V w') := fun V => va_add V
  have S4 : ∀ V, Hid (Calls Tryz.prog 59 #[.int .i64 3] V fun r w' => r = .returned (.agg #[.int .i64 1, .int .i64 3, .int .i64 0, .string .empty, .bool false, .int .i64 0]) ∧ Below V.heap.size V w') := fun V => lawNum_any 3 V
  have S5 : ∀ V, Hid (Calls Tryz.prog 59 #[.int .i64 1] V fun r w' => r = .returned (.agg #[.int .i64 1, .int .i64 1, .int .i64 0, .string .empty, .bool false, .int .i64 0]) ∧ Below V.heap.size V w') := fun V => lawNum_any 1 V
  have S6 : ∀ V, Hid (Calls Tryz.prog 59 #[.int .i64 0] V fun r w' => r = .returned (.agg #[.int .i64 1, .int .i64 0, .int .i64 0, .string .empty, .bool false, .int .i64 0]) ∧ Below V.heap.size V w') := fun V => lawNum_any 0 V
  have S7 : ∀ V, Hid (Calls Tryz.prog 34 #[.int .i64 4, .agg #[.int .i64 1, .int .i64 1, .int .i64 0, .string .empty, .bool false, .int .i64 0], .agg #[.int .i64 1, .int .i64 0, .int .i64 0, .string .empty, .bool false, .int .i64 0]] V fun r w' => r = .returned (.agg #[.int .i64 4, .int .i64 0, .int .i64 0, .string .empty, .bool false, .int .i64 1]) ∧ Below V.heap.size V w') := fun V => va_div V
  have S8 : ∀ V, Hid (Calls Tryz.prog 27 #[.int .i64 1] V fun r w' => r = .returned (.agg #[.int .i64 4, .int .i64 0, .int .i64 0, .string .empty, .bool false, .int .i64 1]) ∧ Below V.heap.size V w') := fun V => va_err (by decide) V
  have S9 : ∀ V, Hid (Calls Tryz.prog 25 #[.string ⟨#[97]⟩] V fun r w' => r = .returned (.agg #[.int .i64 2, .int .i64 0, .int .i64 0, .string ⟨#[97]⟩, .bool false, .int .i64 0]) ∧ Below V.heap.size V w') := fun V => va_str tx_a V
  have S10 : ∀ V, Hid (Calls Tryz.prog 25 #[.string ⟨#[65]⟩] V fun r w' => r = .returned (.agg #[.int .i64 2, .int .i64 0, .int .i64 0, .string ⟨#[65]⟩, .bool false, .int .i64 0]) ∧ Below V.heap.size V w') := fun V => va_str tx_A V
  have S11 : ∀ V, Hid (Calls Tryz.prog 36 #[.agg #[.int .i64 2, .int .i64 0, .int .i64 0, .string ⟨#[97]⟩, .bool false, .int .i64 0], .agg #[.int .i64 2, .int .i64 0, .int .i64 0, .string ⟨#[65]⟩, .bool false, .int .i64 0]] V fun r w' => r = .returned (.int .i64 0) ∧ Below V.heap.size V w') := fun V => va_cmp V
  have S12 : ∀ V, Env V → Hid (Calls Tryz.prog 30 #[.string ⟨#[39, 49, 50]⟩] V fun r w' => r = .returned (.agg #[.int .i64 2, .int .i64 0, .int .i64 0, .string ⟨#[49, 50]⟩, .bool false, .int .i64 0]) ∧ Below V.heap.size V w') := fun V hV => va_typed V hV
  have S13 : ∀ V, Hid (Calls Tryz.prog 25 #[.string ⟨#[49, 50]⟩] V fun r w' => r = .returned (.agg #[.int .i64 2, .int .i64 0, .int .i64 0, .string ⟨#[49, 50]⟩, .bool false, .int .i64 0]) ∧ Below V.heap.size V w') := fun V => va_str tx_12 V
  have S14 : ∀ V, Hid (Calls Tryz.prog 25 #[.string ⟨#[120]⟩] V fun r w' => r = .returned (.agg #[.int .i64 2, .int .i64 0, .int .i64 0, .string ⟨#[120]⟩, .bool false, .int .i64 0]) ∧ Below V.heap.size V w') := fun V => va_str tx_x V
  have S15 : ∀ V, Hid (Calls Tryz.prog 27 #[.int .i64 6] V fun r w' => r = .returned (.agg #[.int .i64 4, .int .i64 0, .int .i64 0, .string .empty, .bool false, .int .i64 6]) ∧ Below V.heap.size V w') := fun V => va_err (by decide) V
  have S16 : ∀ V, Env V → Hid (Calls Tryz.prog 17 #[.agg #[.int .i64 4, .int .i64 0, .int .i64 0, .string .empty, .bool false, .int .i64 6]] V fun r w' => r = .returned (.string ⟨#[35, 78, 47, 65]⟩) ∧ Below V.heap.size V w') := fun V hV => va_show V hV
  have hf := field25 2 0 0 0 ⟨#[120]⟩ false
  have l0 := Below.refl w.heap.size w
  go_enter Tryz.func19, Tryz.ntmps19
  go_wp2_with fail
  refine Calls.mono (S1 _).out ?_
  rintro _ w1 ⟨rfl, b1⟩
  have l1 := l0.trans (b1.mono l0.size)
  clear b1 S1
  go_wp2_with fail
  refine Calls.mono (S2 _).out ?_
  rintro _ w2 ⟨rfl, b2⟩
  have l2 := l1.trans (b2.mono l1.size)
  clear b2 S2
  go_wp2_with fail
  refine Calls.mono (S3 _).out ?_
  rintro _ w3 ⟨rfl, b3⟩
  have l3 := l2.trans (b3.mono l2.size)
  clear b3 S3
  go_wp2_with fail
  refine Calls.mono (S4 _).out ?_
  rintro _ w4 ⟨rfl, b4⟩
  have l4 := l3.trans (b4.mono l3.size)
  clear b4 S4
  go_wp2_with fail
  refine Calls.mono (S5 _).out ?_
  rintro _ w5 ⟨rfl, b5⟩
  have l5 := l4.trans (b5.mono l4.size)
  clear b5 S5
  go_wp2_with fail
  refine Calls.mono (S6 _).out ?_
  rintro _ w6 ⟨rfl, b6⟩
  have l6 := l5.trans (b6.mono l5.size)
  clear b6 S6
  go_wp2_with fail
  refine Calls.mono (S7 _).out ?_
  rintro _ w7 ⟨rfl, b7⟩
  have l7 := l6.trans (b7.mono l6.size)
  clear b7 S7
  go_wp2_with fail
  refine Calls.mono (S8 _).out ?_
  rintro _ w8 ⟨rfl, b8⟩
  have l8 := l7.trans (b8.mono l7.size)
  clear b8 S8
  go_wp2_with fail
  refine Calls.mono (S9 _).out ?_
  rintro _ w9 ⟨rfl, b9⟩
  have l9 := l8.trans (b9.mono l8.size)
  clear b9 S9
  go_wp2_with fail
  refine Calls.mono (S10 _).out ?_
  rintro _ w10 ⟨rfl, b10⟩
  have l10 := l9.trans (b10.mono l9.size)
  clear b10 S10
  go_wp2_with fail
  refine Calls.mono (S11 _).out ?_
  rintro _ w11 ⟨rfl, b11⟩
  have l11 := l10.trans (b11.mono l10.size)
  clear b11 S11
  go_wp2_with fail
  refine Calls.mono (S12 _ (hE.next l11)).out ?_
  rintro _ w12 ⟨rfl, b12⟩
  have l12 := l11.trans (b12.mono l11.size)
  clear b12 S12
  go_wp2_with fail
  refine Calls.mono (S13 _).out ?_
  rintro _ w13 ⟨rfl, b13⟩
  have l13 := l12.trans (b13.mono l12.size)
  clear b13 S13
  go_wp2_with fail
  refine Calls.mono (S14 _).out ?_
  rintro _ w14 ⟨rfl, b14⟩
  have l14 := l13.trans (b14.mono l13.size)
  clear b14 S14
  go_wp2_with fail
  refine Calls.mono (S15 _).out ?_
  rintro _ w15 ⟨rfl, b15⟩
  have l15 := l14.trans (b15.mono l14.size)
  clear b15 S15
  go_wp2_with fail
  refine Calls.mono (S16 _ (hE.next l15)).out ?_
  rintro _ w16 ⟨rfl, b16⟩
  have l16 := l15.trans (b16.mono l15.size)
  clear b16 S16
  go_wp2
  go_ret
  exact ⟨rfl, l16⟩
end Go.Proofs.YtnhflnpjepiceaaGreatDoor
/- Pure: what Print writes is read as the number. -/
namespace Go.Proofs.YtnhflnpjepiceaaGreatDoor
open Go.RowKit

def nI (b : UInt8) : Int := (b.toNat : Int)
theorem outB_low : ∀ (l : List UInt8) (t : Int), t ≤ -2 → outB (Pl t l) = l.map nI
  | [], _, _ => rfl
  | a :: r, t, h => by
    simp only [Pl, outB, List.map_cons]
    rw [if_neg (by omega), outB_low r (t - 1) (by omega)]
    rfl
theorem outB_Pl : ∀ (l : List UInt8) (k : Nat), outB (Pl ((k : Int) - 1) l) = (l.take k).map nI ++ (if k < l.length then 46 :: (l.drop k).map nI else [])
  | [], k => by simp [Pl, outB]
  | a :: r, 0 => by
    simp only [Pl, outB]
    rw [if_pos (by omega), outB_low r _ (by omega)]
    simp [nI]
  | a :: r, k + 1 => by
    have ih := outB_Pl r k
    simp only [Pl, outB]
    rw [if_neg (by omega), show ((k + 1 : Nat) : Int) - 1 - 1 = (k : Int) - 1 by omega, ih]
    simp [nI]
/-- How many digits stand ahead of the point. -/
def whN (y : Wd) : Nat := (topP y.n y.e + 1).toNat
theorem topP_nn (n : Nat) (e : Int) : 0 ≤ topP n e := by
  obtain ⟨t1, t2⟩ := topP_spec n e
  omega
theorem whN_len (y : Wd) (h : y.n ≤ 9223372036854775808) : ((dlist y.n y.e).length : Int) = (whN y : Int) - (if y.e < 0 then y.e else 0) ∧ 1 ≤ whN y ∧ whN y ≤ (dlist y.n y.e).length := by
  have h1 := dec_len y.n (by omega)
  have h2 := dlist_len y.n y.e h1.1
  have h3 := topP_nn y.n y.e
  unfold whN
  split at h2
  · rename_i h4; rw [if_pos h4]; omega
  · rename_i h4; rw [if_neg h4]; omega
/-- A number's text. -/
def txtL (y : Wd) : List UInt8 := (if y.neg then [45] else []) ++ ((dlist y.n y.e).take (whN y) ++ (if y.e < 0 then 46 :: (dlist y.n y.e).drop (whN y) else []))
theorem strOf_nI (l : List UInt8) : (l.map nI).map (fun n => UInt8.ofNat n.toNat) = l := by
  rw [List.map_map]
  conv => rhs; rw [← List.map_id l]
  congr 1
  funext b
  simp [nI]
theorem print_txt (c e : Int) (hc : I64 c) (he : within e) : printS c e = bs (txtL (decW c e)) := by
  have hS := sh_dec c e he.1 he.2 hc.1 hc.2
  unfold printS txtL
  generalize decW c e = y at *
  have hw := whN_len y hS.big
  have ht := topP_nn y.n y.e
  have hP : outB (digsW y) = ((dlist y.n y.e).take (whN y) ++ (if y.e < 0 then 46 :: (dlist y.n y.e).drop (whN y) else [])).map nI := by
    unfold digsW
    have := outB_Pl (dlist y.n y.e) (whN y)
    rw [show ((whN y : Nat) : Int) - 1 = topP y.n y.e by unfold whN; omega] at this
    rw [this, List.map_append]
    congr 1
    by_cases h : y.e < 0
    · rw [if_pos h] at hw ⊢
      rw [if_pos (by omega)]; rfl
    · rw [if_neg h] at hw ⊢
      rw [if_neg (by omega)]; rfl
  have hs : signL y.neg = (if y.neg then [45] else [] : List UInt8).map nI := by unfold signL; cases y.neg <;> rfl
  refine bs_ext ?_
  rw [strOfNums_data, hP, hs, ← List.map_append, strOf_nI]
theorem dig_has {b : UInt8} (h : 48 ≤ b.toNat ∧ b.toNat ≤ 57) : digL.contains b = true := by
  have : b.toNat = 48 ∨ b.toNat = 49 ∨ b.toNat = 50 ∨ b.toNat = 51 ∨ b.toNat = 52 ∨ b.toNat = 53 ∨ b.toNat = 54 ∨ b.toNat = 55 ∨ b.toNat = 56 ∨ b.toNat = 57 := by omega
  rcases this with h | h | h | h | h | h | h | h | h | h <;> (rw [← UInt8.ofNat_toNat (x := b), h]; rfl)
theorem ahead_digT (a b : List UInt8) (ha : Dig a) (hb : b = [] ∨ ∃ r, b = 46 :: r) : aheadL (a ++ b) digL = a ∧ behL (a ++ b) digL = b := by
  have h1 : ∀ x ∈ a, digL.contains x = true := fun x hx => dig_has (ha x hx)
  unfold aheadL behL
  rw [List.takeWhile_append_of_pos h1, List.dropWhile_append_of_pos h1]
  rcases hb with rfl | ⟨r, rfl⟩
  · simp
  · rw [List.takeWhile_cons, List.dropWhile_cons]
    have : digL.contains (46 : UInt8) = false := by decide
    rw [this]
    simp
theorem read_txt (neg : Bool) (wh pt : List UInt8) (b : Bool) (hw : wh ≠ []) (dw : Dig wh) (dp : Dig pt) (hp : b = true → pt ≠ []) (hb : b = false → pt = []) :
    readR ((if neg then [45] else []) ++ (wh ++ (if b then 46 :: pt else []))) = (⟨neg, wh, pt, 0⟩, true) := by
  have hq : (if b then 46 :: pt else [] : List UInt8) = [] ∨ ∃ r, (if b then 46 :: pt else [] : List UInt8) = 46 :: r := by
    cases b
    · exact .inl rfl
    · exact .inr ⟨pt, rfl⟩
  obtain ⟨k1, k2⟩ := ahead_digT wh _ dw hq
  have hpre : Lib.hasPrefix ((if neg then [45] else []) ++ (wh ++ (if b then 46 :: pt else []))) [45] = neg ∧ Lib.trimPrefix ((if neg then [45] else []) ++ (wh ++ (if b then 46 :: pt else []))) [45] = wh ++ (if b then 46 :: pt else []) := by
    generalize (if b then 46 :: pt else [] : List UInt8) = tl at *
    cases neg
    · obtain ⟨a, r, rfl⟩ := List.exists_cons_of_ne_nil hw
      have ha := dw a (by simp)
      have hne : ((45 : UInt8) == a) = false := by
        simp only [beq_eq_false_iff_ne]
        rintro rfl
        exact absurd ha (by decide)
      have h0 : Lib.hasPrefix (a :: r ++ tl) [45] = false := by simp [Lib.hasPrefix, List.isPrefixOf, hne]
      refine ⟨by simpa using h0, ?_⟩
      unfold Lib.trimPrefix
      simp only [Bool.false_eq_true, if_false, List.nil_append, h0]
    · simp [Lib.hasPrefix, Lib.trimPrefix, List.isPrefixOf]
  have hpart : partR (if b then 46 :: pt else []) = (pt, [], true) := by
    cases b
    · rw [hb rfl]; rfl
    · obtain ⟨m1, m2⟩ := ahead_digT pt [] dp (.inl rfl)
      rw [List.append_nil] at m1 m2
      have h0 : Lib.hasPrefix (46 :: pt) [46] = true := by simp [Lib.hasPrefix, List.isPrefixOf]
      have h1 : Lib.trimPrefix (46 :: pt) [46] = pt := by simp [Lib.trimPrefix, h0]
      unfold partR
      simp only [if_true, h0, h1, m1, m2]
      have : pt.isEmpty = false := by simpa using hp rfl
      rw [this]; rfl
  unfold readR
  rw [hpre.1, hpre.2, k1, k2, hpart]
  have : wh.isEmpty = false := by simpa using hw
  simp only [this, expO, List.isEmpty_nil, if_true]
  rfl
theorem parse_txt (c e : Int) (hc : I64 c) (he : within e) : decPv (txtL (decW c e)) = decV (tell c e) ∧ 1 ≤ (txtL (decW c e)).length ∧ (txtL (decW c e)).length ≤ 40 ∧ ∀ b ∈ txtL (decW c e), b = 45 ∨ b = 46 ∨ (48 ≤ b.toNat ∧ b.toNat ≤ 57) := by
  have hS := sh_dec c e he.1 he.2 hc.1 hc.2
  have hV := sc_dec (-18) c e he.1
  have htell : tell (sc (decW c e)) (decW c e).e = tell c e := tell_same (m := -18) he.1 hS.lo hV
  rw [tell_sc] at htell
  generalize decW c e = y at *
  obtain ⟨w1, w2, w3⟩ := whN_len y hS.big
  have hd := dlist_dig y.n y.e
  have hdw : Dig ((dlist y.n y.e).take (whN y)) := fun b hb => hd b (List.mem_of_mem_take hb)
  have hdp : Dig ((dlist y.n y.e).drop (whN y)) := fun b hb => hd b (List.mem_of_mem_drop hb)
  have hL := dec_len y.n (by have := hS.big; omega)
  have hl := dlist_len y.n y.e hL.1
  obtain ⟨t1, t2⟩ := topP_spec y.n y.e
  have hlo := hS.lo
  have hhi := hS.hi
  have htl : (txtL y).length ≤ 40 ∧ 1 ≤ (txtL y).length := by
    unfold txtL
    rw [List.length_append, List.length_append, List.length_take]
    have h1 : (if y.neg then [45] else [] : List UInt8).length ≤ 1 := by cases y.neg <;> simp
    by_cases hn : y.e < 0
    · rw [if_pos hn] at w1 hl ⊢
      rw [List.length_cons, List.length_drop]
      omega
    · rw [if_neg hn] at w1 hl ⊢
      simp only [List.length_nil]
      omega
  refine ⟨?_, htl.2, htl.1, ?_⟩
  · have hwne : (dlist y.n y.e).take (whN y) ≠ [] := by
      intro h
      have := congrArg List.length h
      rw [List.length_take, List.length_nil] at this
      omega
    have hread : readR (txtL y) = (⟨y.neg, (dlist y.n y.e).take (whN y), (dlist y.n y.e).drop (whN y), 0⟩, true) := by
      have hif : (if y.e < 0 then 46 :: (dlist y.n y.e).drop (whN y) else []) = (if decide (y.e < 0) = true then 46 :: (dlist y.n y.e).drop (whN y) else []) := by simp
      unfold txtL
      rw [hif]
      refine read_txt y.neg _ _ (decide (y.e < 0)) hwne hdw hdp ?_ ?_
      · intro h hx
        have h := of_decide_eq_true h
        have := congrArg List.length hx
        rw [List.length_drop, List.length_nil] at this
        rw [if_pos h] at w1
        omega
      · intro h
        have h := of_decide_eq_false h
        rw [if_neg h] at w1
        exact List.drop_eq_nil_of_le (by omega)
    have hlen : (((dlist y.n y.e).take (whN y)).length : Int) = whN y := by rw [List.length_take]; omega
    obtain ⟨z, z1, z2⟩ := back_told y.neg y.n y.e (whN y) hhi hS.big (by rw [w1]; omega)
    have hdigs : (⟨y.neg, (dlist y.n y.e).take (whN y), (dlist y.n y.e).drop (whN y), 0⟩ : Wr).digs = dgsL (dlist y.n y.e) (whN y) := by
      unfold Wr.digs
      simp only
      rw [List.take_append_drop, hlen, Int.zero_add]
    have hfold : foldS (readR (txtL y)).1.digs = some z := by
      rw [hread]
      simp only
      rw [hdigs]
      exact z1
    have hpd : parsedD (txtL y) = tellW y.neg y.n y.e := by
      unfold parsedD
      rw [hfold]
      simp only
      rw [hread]
      exact z2
    unfold decPv
    rw [hpd, htell, decide_eq_false (by omega), hread]
    rfl
  · intro b hb
    unfold txtL at hb
    rcases List.mem_append.1 hb with hb | hb
    · cases hn : y.neg
      · rw [hn] at hb; simp at hb
      · rw [hn] at hb; simp at hb; exact .inl hb
    · rcases List.mem_append.1 hb with hb | hb
      · exact .inr (.inr (hdw b hb))
      · by_cases hn : y.e < 0
        · rw [if_pos hn] at hb
          rcases List.mem_cons.1 hb with hb | hb
          · exact .inr (.inl hb)
          · exact .inr (.inr (hdp b hb))
        · rw [if_neg hn] at hb; simp at hb
end Go.Proofs.YtnhflnpjepiceaaGreatDoor
/- val: what is shown is typed again as what it is: ValBack's law. -/
namespace Go.Proofs.YtnhflnpjepiceaaGreatDoor
open Go.RowKit

end Go.Proofs.YtnhflnpjepiceaaGreatDoor
/- val: Bin where one is an error, and where it holds two against each other -/
namespace Go.Proofs.YtnhflnpjepiceaaGreatDoor
open Go.RowKit

set_option maxRecDepth 100000 in
set_option maxHeartbeats 8000000 in
theorem bin_fail (kA cA eA : Int) (sA : ByteArray) (bA : Bool) (xA : Int) (kB cB eB : Int) (sB : ByteArray) (bB : Bool) (xB : Int) (kP cP eP : Int) (sP : ByteArray) (bP : Bool) (xP : Int) (kQ cQ eQ : Int) (sQ : ByteArray) (bQ : Bool) (xQ : Int) (kF cF eF : Int) (sF : ByteArray) (bF : Bool) (xF : Int) (op : Int)
    (HA : ∀ V, Hid (Calls Tryz.prog 48 #[.agg #[.int .i64 kA, .int .i64 cA, .int .i64 eA, .string sA, .bool bA, .int .i64 xA]] V fun r w' => r = .returned (.agg #[.int .i64 kP, .int .i64 cP, .int .i64 eP, .string sP, .bool bP, .int .i64 xP]) ∧ Below V.heap.size V w')) (HB : ∀ V, Hid (Calls Tryz.prog 48 #[.agg #[.int .i64 kB, .int .i64 cB, .int .i64 eB, .string sB, .bool bB, .int .i64 xB]] V fun r w' => r = .returned (.agg #[.int .i64 kQ, .int .i64 cQ, .int .i64 eQ, .string sQ, .bool bQ, .int .i64 xQ]) ∧ Below V.heap.size V w'))
    (HF : ∀ K V, Row V K 25 (c12 kP cP eP sP bP xP kQ cQ eQ sQ bQ xQ) → Hid (Calls Tryz.prog 62 #[.slice (some ⟨K, 0, none⟩) 2 2] V fun r w' => r = .returned (.tuple #[.agg #[.int .i64 kF, .int .i64 cF, .int .i64 eF, .string sF, .bool bF, .int .i64 xF], .bool true]) ∧ Below V.heap.size V w')) (w : World) :
    Calls Tryz.prog 34 #[.int .i64 op, .agg #[.int .i64 kA, .int .i64 cA, .int .i64 eA, .string sA, .bool bA, .int .i64 xA], .agg #[.int .i64 kB, .int .i64 cB, .int .i64 eB, .string sB, .bool bB, .int .i64 xB]] w fun r w' => r = .returned (.agg #[.int .i64 kF, .int .i64 cF, .int .i64 eF, .string sF, .bool bF, .int .i64 xF]) ∧ Below w.heap.size w w' := by
  have h0 := P3.start w #[.int .i64 kA, .int .i64 cA, .int .i64 eA, .string sA, .bool bA, .int .i64 xA] #[.int .i64 kB, .int .i64 cB, .int .i64 eB, .string sB, .bool bB, .int .i64 xB] #[.int .i64 0, .int .i64 0, .int .i64 0, .string ⟨#[]⟩, .bool false, .int .i64 0]
  go_enter Tryz.func34, Tryz.ntmps34
  go_upto_region 1 with fail
  generalize ((w.alloc (.cells #[.int .i64 kA, .int .i64 cA, .int .i64 eA, .string sA, .bool bA, .int .i64 xA] 25)).alloc (.cells #[.int .i64 kB, .int .i64 cB, .int .i64 eB, .string sB, .bool bB, .int .i64 xB] 25)).alloc (.cells #[.int .i64 0, .int .i64 0, .int .i64 0, .string ⟨#[]⟩, .bool false, .int .i64 0] 25) = W at *
  have hS : Below W.heap.size W W.drew := (Below.refl _ W).drew
  have cAt := fun wx (hx : Below W.heap.size W wx) => h0.next hx
  refine wp_region_M (fun wx : World => Below W.heap.size W wx) (fun j => decide (j < 4)) 6 rfl (by kernel_rfl) ?_
  refine wpM_held 0 (v := .agg #[.int .i64 kA, .int .i64 cA, .int .i64 eA, .string sA, .bool bA, .int .i64 xA]) rfl (by kernel_rfl) (by kernel_rfl) rfl (fun _ _ _ h => h) rfl (by intro wx hx; obtain ⟨z0, z1, z2, z3, z4, z5⟩ := (cAt wx hx).1.six; go_simp <;> rfl) hS ?_
  refine wpM_held 2 (v := .agg #[.int .i64 kB, .int .i64 cB, .int .i64 eB, .string sB, .bool bB, .int .i64 xB]) rfl (by kernel_rfl) (by kernel_rfl) rfl (fun _ _ _ h => h) rfl (by intro wx hx; obtain ⟨z0, z1, z2, z3, z4, z5⟩ := (cAt wx hx).2.1.six; go_simp <;> rfl) hS ?_
  refine wpM_one 1 rfl (by kernel_rfl) rfl ?_
  go_wp2_with fail
  refine Calls.mono (HA _).out ?_
  rintro _ wa ⟨rfl, lwa⟩
  have hSa : Below W.heap.size W wa := hS.trans (lwa.mono hS.size)
  go_wp2_with fail
  refine ⟨fun _ => hSa, ?_⟩
  refine wpM_one 3 rfl (by kernel_rfl) rfl ?_
  go_wp2_with fail
  refine Calls.mono (HB _).out ?_
  rintro _ wb ⟨rfl, lwb⟩
  have hSb : Below W.heap.size W wb := hSa.trans (lwb.mono hSa.size)
  have hb := h0.next hSb
  obtain ⟨m0, m1, m2, m3, m4, m5⟩ := hb.1.six
  obtain ⟨n0, n1, n2, n3, n4, n5⟩ := hb.2.1.six
  have mf := hb.1.frozen
  have nf := hb.2.1.frozen
  have ml := hb.1.lt
  have nl := hb.2.1.lt
  go_wp2_with fail
  refine ⟨fun _ => hSb, ?_⟩
  refine wpM_one 4 rfl (by kernel_rfl) rfl ?_
  go_wp2_with fail
  refine ⟨fun h => absurd h (by decide), ?_⟩
  refine wpM_one 5 rfl (by kernel_rfl) rfl ?_
  go_wp2_with fail
  refine ⟨fun h => absurd h (by decide), ?_⟩
  refine wpM_done (by kernel_rfl) ?_
  have h1 := (hb.setP (.int .i64 kP) (.int .i64 cP) (.int .i64 eP) (.string sP) (.bool bP) (.int .i64 xP)).setR (.int .i64 kQ) (.int .i64 cQ) (.int .i64 eQ) (.string sQ) (.bool bQ) (.int .i64 xQ)
  clear hS cAt lwa hSa lwb hSb m0 m1 m2 m3 m4 m5 n0 n1 n2 n3 n4 n5 mf nf ml nl hb h0
  generalize ((((((((((((wb.setCell ⟨w.heap.size, 0, none⟩ (.int .i64 kP)).setCell ⟨w.heap.size, 1, none⟩ (.int .i64 cP)).setCell ⟨w.heap.size, 2, none⟩ (.int .i64 eP)).setCell ⟨w.heap.size, 3, none⟩ (.string sP)).setCell ⟨w.heap.size, 4, none⟩ (.bool bP)).setCell ⟨w.heap.size, 5, none⟩ (.int .i64 xP)).setCell ⟨w.heap.size + 1, 0, none⟩ (.int .i64 kQ)).setCell ⟨w.heap.size + 1, 1, none⟩ (.int .i64 cQ)).setCell ⟨w.heap.size + 1, 2, none⟩ (.int .i64 eQ)).setCell ⟨w.heap.size + 1, 3, none⟩ (.string sQ)).setCell ⟨w.heap.size + 1, 4, none⟩ (.bool bQ)).setCell ⟨w.heap.size + 1, 5, none⟩ (.int .i64 xQ)) = W1 at *
  have hK := Row.new W1 25 (c12 kP cP eP sP bP xP kQ cQ eQ sQ bQ xQ)
  have hA1 : Below W1.heap.size W1 (W1.alloc (.cells (c12 kP cP eP sP bP xP kQ cQ eQ sQ bQ xQ) 25)) := (Below.refl _ W1).alloc (Nat.le_refl _) _
  have HFa := (HF _ _ hK)
  have h2 := h1.next hA1
  unfold c12 at hK hA1 HFa h2
  obtain ⟨m0, m1, m2, m3, m4, m5⟩ := h1.1.six
  obtain ⟨n0, n1, n2, n3, n4, n5⟩ := h1.2.1.six
  go_wp2_with fail
  refine Calls.mono HFa.out ?_
  rintro _ w3 ⟨rfl, lw3⟩
  have tk := Row.new w3 25 #[.int .i64 kF, .int .i64 cF, .int .i64 eF, .string sF, .bool bF, .int .i64 xF]
  have h3 := (h2.next lw3).next ((Below.refl _ w3).alloc (Nat.le_refl _) (.cells #[.int .i64 kF, .int .i64 cF, .int .i64 eF, .string sF, .bool bF, .int .i64 xF] 25))
  clear hK hA1 HFa h2 lw3 m0 m1 m2 m3 m4 m5 n0 n1 n2 n3 n4 n5 h1 HF HA HB
  go_upto_region 3 with fail
  generalize w3.alloc (.cells #[.int .i64 kF, .int .i64 cF, .int .i64 eF, .string sF, .bool bF, .int .i64 xF] 25) = W3 at *
  obtain ⟨t0, t1, t2, t3, t4, t5⟩ := tk.six
  obtain ⟨y0, y1, y2, y3, y4, y5⟩ := h3.2.2.1.six
  have zf := h3.2.2.1.frozen
  have wl := h3.2.2.1.lt
  go_wp2
  exact bodyPost_ret (ret_one rfl (g := w.heap.size + 1 + 1) rfl ((h3.setT _ _ _ _ _ _).res rfl)) rfl ⟨rfl, (h3.setT _ _ _ _ _ _).2.2.2⟩
set_option maxRecDepth 100000 in
set_option maxHeartbeats 8000000 in
theorem bin_cmp (op : Int) (kA cA eA : Int) (sA : ByteArray) (bA : Bool) (xA : Int) (kB cB eB : Int) (sB : ByteArray) (bB : Bool) (xB : Int) (kP cP eP : Int) (sP : ByteArray) (bP : Bool) (xP : Int) (kQ cQ eQ : Int) (sQ : ByteArray) (bQ : Bool) (xQ : Int) (kO cO eO : Int) (sO : ByteArray) (bO : Bool) (xO : Int) (o : Int)
    (HA : ∀ V, Hid (Calls Tryz.prog 48 #[.agg #[.int .i64 kA, .int .i64 cA, .int .i64 eA, .string sA, .bool bA, .int .i64 xA]] V fun r w' => r = .returned (.agg #[.int .i64 kP, .int .i64 cP, .int .i64 eP, .string sP, .bool bP, .int .i64 xP]) ∧ Below V.heap.size V w')) (HB : ∀ V, Hid (Calls Tryz.prog 48 #[.agg #[.int .i64 kB, .int .i64 cB, .int .i64 eB, .string sB, .bool bB, .int .i64 xB]] V fun r w' => r = .returned (.agg #[.int .i64 kQ, .int .i64 cQ, .int .i64 eQ, .string sQ, .bool bQ, .int .i64 xQ]) ∧ Below V.heap.size V w'))
    (HF : ∀ K V, Row V K 25 (c12 kP cP eP sP bP xP kQ cQ eQ sQ bQ xQ) → Hid (Calls Tryz.prog 62 #[.slice (some ⟨K, 0, none⟩) 2 2] V fun r w' => r = .returned (.tuple #[.agg #[.int .i64 0, .int .i64 0, .int .i64 0, .string .empty, .bool false, .int .i64 0], .bool false]) ∧ Below V.heap.size V w'))
    (HC : ∀ V, Hid (Calls Tryz.prog 36 #[.agg #[.int .i64 kP, .int .i64 cP, .int .i64 eP, .string sP, .bool bP, .int .i64 xP], .agg #[.int .i64 kQ, .int .i64 cQ, .int .i64 eQ, .string sQ, .bool bQ, .int .i64 xQ]] V fun r w' => r = .returned (.int .i64 o) ∧ Below V.heap.size V w')) (HG : ∀ V, Hid (Calls Tryz.prog 69 #[.int .i64 op, .int .i64 o] V fun r w' => r = .returned (.agg #[.int .i64 kO, .int .i64 cO, .int .i64 eO, .string sO, .bool bO, .int .i64 xO]) ∧ Below V.heap.size V w')) (o1 : (op == 1) = false) (o2 : (op == 2) = false) (o3 : (op == 3) = false) (o4 : (op == 4) = false) (o5 : (op == 5) = false) (o6 : (op == 6) = false) (w : World) :
    Calls Tryz.prog 34 #[.int .i64 op, .agg #[.int .i64 kA, .int .i64 cA, .int .i64 eA, .string sA, .bool bA, .int .i64 xA], .agg #[.int .i64 kB, .int .i64 cB, .int .i64 eB, .string sB, .bool bB, .int .i64 xB]] w fun r w' => r = .returned (.agg #[.int .i64 kO, .int .i64 cO, .int .i64 eO, .string sO, .bool bO, .int .i64 xO]) ∧ Below w.heap.size w w' := by
  have h0 := P3.start w #[.int .i64 kA, .int .i64 cA, .int .i64 eA, .string sA, .bool bA, .int .i64 xA] #[.int .i64 kB, .int .i64 cB, .int .i64 eB, .string sB, .bool bB, .int .i64 xB] #[.int .i64 0, .int .i64 0, .int .i64 0, .string ⟨#[]⟩, .bool false, .int .i64 0]
  go_enter Tryz.func34, Tryz.ntmps34
  go_upto_region 1 with fail
  generalize ((w.alloc (.cells #[.int .i64 kA, .int .i64 cA, .int .i64 eA, .string sA, .bool bA, .int .i64 xA] 25)).alloc (.cells #[.int .i64 kB, .int .i64 cB, .int .i64 eB, .string sB, .bool bB, .int .i64 xB] 25)).alloc (.cells #[.int .i64 0, .int .i64 0, .int .i64 0, .string ⟨#[]⟩, .bool false, .int .i64 0] 25) = W at *
  have hS : Below W.heap.size W W.drew := (Below.refl _ W).drew
  have cAt := fun wx (hx : Below W.heap.size W wx) => h0.next hx
  refine wp_region_M (fun wx : World => Below W.heap.size W wx) (fun j => decide (j < 4)) 6 rfl (by kernel_rfl) ?_
  refine wpM_held 0 (v := .agg #[.int .i64 kA, .int .i64 cA, .int .i64 eA, .string sA, .bool bA, .int .i64 xA]) rfl (by kernel_rfl) (by kernel_rfl) rfl (fun _ _ _ h => h) rfl (by intro wx hx; obtain ⟨z0, z1, z2, z3, z4, z5⟩ := (cAt wx hx).1.six; go_simp <;> rfl) hS ?_
  refine wpM_held 2 (v := .agg #[.int .i64 kB, .int .i64 cB, .int .i64 eB, .string sB, .bool bB, .int .i64 xB]) rfl (by kernel_rfl) (by kernel_rfl) rfl (fun _ _ _ h => h) rfl (by intro wx hx; obtain ⟨z0, z1, z2, z3, z4, z5⟩ := (cAt wx hx).2.1.six; go_simp <;> rfl) hS ?_
  refine wpM_one 1 rfl (by kernel_rfl) rfl ?_
  go_wp2_with fail
  refine Calls.mono (HA _).out ?_
  rintro _ wa ⟨rfl, lwa⟩
  have hSa : Below W.heap.size W wa := hS.trans (lwa.mono hS.size)
  go_wp2_with fail
  refine ⟨fun _ => hSa, ?_⟩
  refine wpM_one 3 rfl (by kernel_rfl) rfl ?_
  go_wp2_with fail
  refine Calls.mono (HB _).out ?_
  rintro _ wb ⟨rfl, lwb⟩
  have hSb : Below W.heap.size W wb := hSa.trans (lwb.mono hSa.size)
  have hb := h0.next hSb
  obtain ⟨m0, m1, m2, m3, m4, m5⟩ := hb.1.six
  obtain ⟨n0, n1, n2, n3, n4, n5⟩ := hb.2.1.six
  have mf := hb.1.frozen
  have nf := hb.2.1.frozen
  have ml := hb.1.lt
  have nl := hb.2.1.lt
  go_wp2_with fail
  refine ⟨fun _ => hSb, ?_⟩
  refine wpM_one 4 rfl (by kernel_rfl) rfl ?_
  go_wp2_with fail
  refine ⟨fun h => absurd h (by decide), ?_⟩
  refine wpM_one 5 rfl (by kernel_rfl) rfl ?_
  go_wp2_with fail
  refine ⟨fun h => absurd h (by decide), ?_⟩
  refine wpM_done (by kernel_rfl) ?_
  have h1 := (hb.setP (.int .i64 kP) (.int .i64 cP) (.int .i64 eP) (.string sP) (.bool bP) (.int .i64 xP)).setR (.int .i64 kQ) (.int .i64 cQ) (.int .i64 eQ) (.string sQ) (.bool bQ) (.int .i64 xQ)
  clear hS cAt lwa hSa lwb hSb m0 m1 m2 m3 m4 m5 n0 n1 n2 n3 n4 n5 mf nf ml nl hb h0
  generalize ((((((((((((wb.setCell ⟨w.heap.size, 0, none⟩ (.int .i64 kP)).setCell ⟨w.heap.size, 1, none⟩ (.int .i64 cP)).setCell ⟨w.heap.size, 2, none⟩ (.int .i64 eP)).setCell ⟨w.heap.size, 3, none⟩ (.string sP)).setCell ⟨w.heap.size, 4, none⟩ (.bool bP)).setCell ⟨w.heap.size, 5, none⟩ (.int .i64 xP)).setCell ⟨w.heap.size + 1, 0, none⟩ (.int .i64 kQ)).setCell ⟨w.heap.size + 1, 1, none⟩ (.int .i64 cQ)).setCell ⟨w.heap.size + 1, 2, none⟩ (.int .i64 eQ)).setCell ⟨w.heap.size + 1, 3, none⟩ (.string sQ)).setCell ⟨w.heap.size + 1, 4, none⟩ (.bool bQ)).setCell ⟨w.heap.size + 1, 5, none⟩ (.int .i64 xQ)) = W1 at *
  have hK := Row.new W1 25 (c12 kP cP eP sP bP xP kQ cQ eQ sQ bQ xQ)
  have hA1 : Below W1.heap.size W1 (W1.alloc (.cells (c12 kP cP eP sP bP xP kQ cQ eQ sQ bQ xQ) 25)) := (Below.refl _ W1).alloc (Nat.le_refl _) _
  have HFa := (HF _ _ hK)
  have h2 := h1.next hA1
  unfold c12 at hK hA1 HFa h2
  obtain ⟨m0, m1, m2, m3, m4, m5⟩ := h1.1.six
  obtain ⟨n0, n1, n2, n3, n4, n5⟩ := h1.2.1.six
  go_wp2_with fail
  refine Calls.mono HFa.out ?_
  rintro _ w3 ⟨rfl, lw3⟩
  have tk := Row.new w3 25 #[.int .i64 0, .int .i64 0, .int .i64 0, .string .empty, .bool false, .int .i64 0]
  have h3 := (h2.next lw3).next ((Below.refl _ w3).alloc (Nat.le_refl _) (.cells #[.int .i64 0, .int .i64 0, .int .i64 0, .string .empty, .bool false, .int .i64 0] 25))
  clear hK hA1 HFa h2 lw3 m0 m1 m2 m3 m4 m5 n0 n1 n2 n3 n4 n5 h1 HF HA HB
  go_upto_region 3 with fail
  generalize w3.alloc (.cells #[.int .i64 0, .int .i64 0, .int .i64 0, .string .empty, .bool false, .int .i64 0] 25) = W3 at *
  obtain ⟨m0, m1, m2, m3, m4, m5⟩ := h3.1.six
  obtain ⟨n0, n1, n2, n3, n4, n5⟩ := h3.2.1.six
  go_wp2_with fail
  refine Calls.mono (HC _).out ?_
  rintro _ w5 ⟨rfl, lw5⟩
  have h5 := h3.next lw5
  clear lw5 h3 tk m0 m1 m2 m3 m4 m5 n0 n1 n2 n3 n4 n5 HC
  go_wp2_with fail
  refine Calls.mono (HG _).out ?_
  rintro _ w6 ⟨rfl, lw6⟩
  have h6 := h5.next lw6
  obtain ⟨y0, y1, y2, y3, y4, y5⟩ := h6.2.2.1.six
  have zf := h6.2.2.1.frozen
  have wl := h6.2.2.1.lt
  clear lw6 h5 HG
  go_wp2
  exact bodyPost_ret (ret_one rfl (g := w.heap.size + 1 + 1) rfl ((h6.setT _ _ _ _ _ _).res rfl)) rfl ⟨rfl, (h6.setT _ _ _ _ _ _).2.2.2⟩
end Go.Proofs.YtnhflnpjepiceaaGreatDoor
/- val: Bin, of one operator -/
namespace Go.Proofs.YtnhflnpjepiceaaGreatDoor
open Go.RowKit

set_option maxRecDepth 100000 in
set_option maxHeartbeats 8000000 in
theorem bin_op2 (kA cA eA : Int) (sA : ByteArray) (bA : Bool) (xA : Int) (kB cB eB : Int) (sB : ByteArray) (bB : Bool) (xB : Int) (kP cP eP : Int) (sP : ByteArray) (bP : Bool) (xP : Int) (kQ cQ eQ : Int) (sQ : ByteArray) (bQ : Bool) (xQ : Int) (kO cO eO : Int) (sO : ByteArray) (bO : Bool) (xO : Int)
    (HA : ∀ V, Hid (Calls Tryz.prog 48 #[.agg #[.int .i64 kA, .int .i64 cA, .int .i64 eA, .string sA, .bool bA, .int .i64 xA]] V fun r w' => r = .returned (.agg #[.int .i64 kP, .int .i64 cP, .int .i64 eP, .string sP, .bool bP, .int .i64 xP]) ∧ Below V.heap.size V w')) (HB : ∀ V, Hid (Calls Tryz.prog 48 #[.agg #[.int .i64 kB, .int .i64 cB, .int .i64 eB, .string sB, .bool bB, .int .i64 xB]] V fun r w' => r = .returned (.agg #[.int .i64 kQ, .int .i64 cQ, .int .i64 eQ, .string sQ, .bool bQ, .int .i64 xQ]) ∧ Below V.heap.size V w'))
    (HF : ∀ K V, Row V K 25 (c12 kP cP eP sP bP xP kQ cQ eQ sQ bQ xQ) → Hid (Calls Tryz.prog 62 #[.slice (some ⟨K, 0, none⟩) 2 2] V fun r w' => r = .returned (.tuple #[.agg #[.int .i64 0, .int .i64 0, .int .i64 0, .string .empty, .bool false, .int .i64 0], .bool false]) ∧ Below V.heap.size V w'))
    (HR : ∀ V, Hid (Calls Tryz.prog 63 #[.func (.func 65) #[] #[], .agg #[.int .i64 kP, .int .i64 cP, .int .i64 eP, .string sP, .bool bP, .int .i64 xP], .agg #[.int .i64 kQ, .int .i64 cQ, .int .i64 eQ, .string sQ, .bool bQ, .int .i64 xQ]] V fun r w' => r = .returned (.agg #[.int .i64 kO, .int .i64 cO, .int .i64 eO, .string sO, .bool bO, .int .i64 xO]) ∧ Below V.heap.size V w')) (w : World) :
    Calls Tryz.prog 34 #[.int .i64 2, .agg #[.int .i64 kA, .int .i64 cA, .int .i64 eA, .string sA, .bool bA, .int .i64 xA], .agg #[.int .i64 kB, .int .i64 cB, .int .i64 eB, .string sB, .bool bB, .int .i64 xB]] w fun r w' => r = .returned (.agg #[.int .i64 kO, .int .i64 cO, .int .i64 eO, .string sO, .bool bO, .int .i64 xO]) ∧ Below w.heap.size w w' := by
  have h0 := P3.start w #[.int .i64 kA, .int .i64 cA, .int .i64 eA, .string sA, .bool bA, .int .i64 xA] #[.int .i64 kB, .int .i64 cB, .int .i64 eB, .string sB, .bool bB, .int .i64 xB] #[.int .i64 0, .int .i64 0, .int .i64 0, .string ⟨#[]⟩, .bool false, .int .i64 0]
  go_enter Tryz.func34, Tryz.ntmps34
  go_upto_region 1 with fail
  generalize ((w.alloc (.cells #[.int .i64 kA, .int .i64 cA, .int .i64 eA, .string sA, .bool bA, .int .i64 xA] 25)).alloc (.cells #[.int .i64 kB, .int .i64 cB, .int .i64 eB, .string sB, .bool bB, .int .i64 xB] 25)).alloc (.cells #[.int .i64 0, .int .i64 0, .int .i64 0, .string ⟨#[]⟩, .bool false, .int .i64 0] 25) = W at *
  have hS : Below W.heap.size W W.drew := (Below.refl _ W).drew
  have cAt := fun wx (hx : Below W.heap.size W wx) => h0.next hx
  refine wp_region_M (fun wx : World => Below W.heap.size W wx) (fun j => decide (j < 4)) 6 rfl (by kernel_rfl) ?_
  refine wpM_held 0 (v := .agg #[.int .i64 kA, .int .i64 cA, .int .i64 eA, .string sA, .bool bA, .int .i64 xA]) rfl (by kernel_rfl) (by kernel_rfl) rfl (fun _ _ _ h => h) rfl (by intro wx hx; obtain ⟨z0, z1, z2, z3, z4, z5⟩ := (cAt wx hx).1.six; go_simp <;> rfl) hS ?_
  refine wpM_held 2 (v := .agg #[.int .i64 kB, .int .i64 cB, .int .i64 eB, .string sB, .bool bB, .int .i64 xB]) rfl (by kernel_rfl) (by kernel_rfl) rfl (fun _ _ _ h => h) rfl (by intro wx hx; obtain ⟨z0, z1, z2, z3, z4, z5⟩ := (cAt wx hx).2.1.six; go_simp <;> rfl) hS ?_
  refine wpM_one 1 rfl (by kernel_rfl) rfl ?_
  go_wp2_with fail
  refine Calls.mono (HA _).out ?_
  rintro _ wa ⟨rfl, lwa⟩
  have hSa : Below W.heap.size W wa := hS.trans (lwa.mono hS.size)
  go_wp2_with fail
  refine ⟨fun _ => hSa, ?_⟩
  refine wpM_one 3 rfl (by kernel_rfl) rfl ?_
  go_wp2_with fail
  refine Calls.mono (HB _).out ?_
  rintro _ wb ⟨rfl, lwb⟩
  have hSb : Below W.heap.size W wb := hSa.trans (lwb.mono hSa.size)
  have hb := h0.next hSb
  obtain ⟨m0, m1, m2, m3, m4, m5⟩ := hb.1.six
  obtain ⟨n0, n1, n2, n3, n4, n5⟩ := hb.2.1.six
  have mf := hb.1.frozen
  have nf := hb.2.1.frozen
  have ml := hb.1.lt
  have nl := hb.2.1.lt
  go_wp2_with fail
  refine ⟨fun _ => hSb, ?_⟩
  refine wpM_one 4 rfl (by kernel_rfl) rfl ?_
  go_wp2_with fail
  refine ⟨fun h => absurd h (by decide), ?_⟩
  refine wpM_one 5 rfl (by kernel_rfl) rfl ?_
  go_wp2_with fail
  refine ⟨fun h => absurd h (by decide), ?_⟩
  refine wpM_done (by kernel_rfl) ?_
  have h1 := (hb.setP (.int .i64 kP) (.int .i64 cP) (.int .i64 eP) (.string sP) (.bool bP) (.int .i64 xP)).setR (.int .i64 kQ) (.int .i64 cQ) (.int .i64 eQ) (.string sQ) (.bool bQ) (.int .i64 xQ)
  clear hS cAt lwa hSa lwb hSb m0 m1 m2 m3 m4 m5 n0 n1 n2 n3 n4 n5 mf nf ml nl hb h0
  generalize ((((((((((((wb.setCell ⟨w.heap.size, 0, none⟩ (.int .i64 kP)).setCell ⟨w.heap.size, 1, none⟩ (.int .i64 cP)).setCell ⟨w.heap.size, 2, none⟩ (.int .i64 eP)).setCell ⟨w.heap.size, 3, none⟩ (.string sP)).setCell ⟨w.heap.size, 4, none⟩ (.bool bP)).setCell ⟨w.heap.size, 5, none⟩ (.int .i64 xP)).setCell ⟨w.heap.size + 1, 0, none⟩ (.int .i64 kQ)).setCell ⟨w.heap.size + 1, 1, none⟩ (.int .i64 cQ)).setCell ⟨w.heap.size + 1, 2, none⟩ (.int .i64 eQ)).setCell ⟨w.heap.size + 1, 3, none⟩ (.string sQ)).setCell ⟨w.heap.size + 1, 4, none⟩ (.bool bQ)).setCell ⟨w.heap.size + 1, 5, none⟩ (.int .i64 xQ)) = W1 at *
  have hK := Row.new W1 25 (c12 kP cP eP sP bP xP kQ cQ eQ sQ bQ xQ)
  have hA1 : Below W1.heap.size W1 (W1.alloc (.cells (c12 kP cP eP sP bP xP kQ cQ eQ sQ bQ xQ) 25)) := (Below.refl _ W1).alloc (Nat.le_refl _) _
  have HFa := (HF _ _ hK)
  have h2 := h1.next hA1
  unfold c12 at hK hA1 HFa h2
  obtain ⟨m0, m1, m2, m3, m4, m5⟩ := h1.1.six
  obtain ⟨n0, n1, n2, n3, n4, n5⟩ := h1.2.1.six
  go_wp2_with fail
  refine Calls.mono HFa.out ?_
  rintro _ w3 ⟨rfl, lw3⟩
  have tk := Row.new w3 25 #[.int .i64 0, .int .i64 0, .int .i64 0, .string .empty, .bool false, .int .i64 0]
  have h3 := (h2.next lw3).next ((Below.refl _ w3).alloc (Nat.le_refl _) (.cells #[.int .i64 0, .int .i64 0, .int .i64 0, .string .empty, .bool false, .int .i64 0] 25))
  clear hK hA1 HFa h2 lw3 m0 m1 m2 m3 m4 m5 n0 n1 n2 n3 n4 n5 h1 HF HA HB
  go_upto_region 3 with fail
  generalize w3.alloc (.cells #[.int .i64 0, .int .i64 0, .int .i64 0, .string .empty, .bool false, .int .i64 0] 25) = W3 at *
  obtain ⟨m0, m1, m2, m3, m4, m5⟩ := h3.1.six
  obtain ⟨n0, n1, n2, n3, n4, n5⟩ := h3.2.1.six
  go_wp2_with fail
  refine Calls.mono (HR _).out ?_
  rintro _ w5 ⟨rfl, lw5⟩
  have h5 := h3.next lw5
  obtain ⟨y0, y1, y2, y3, y4, y5⟩ := h5.2.2.1.six
  have zf := h5.2.2.1.frozen
  have wl := h5.2.2.1.lt
  clear lw5 h3 tk m0 m1 m2 m3 m4 m5 n0 n1 n2 n3 n4 n5 HR
  go_wp2
  exact bodyPost_ret (ret_one rfl (g := w.heap.size + 1 + 1) rfl ((h5.setT _ _ _ _ _ _).res rfl)) rfl ⟨rfl, (h5.setT _ _ _ _ _ _).2.2.2⟩
end Go.Proofs.YtnhflnpjepiceaaGreatDoor
/- val: Bin, of one operator -/
namespace Go.Proofs.YtnhflnpjepiceaaGreatDoor
open Go.RowKit

set_option maxRecDepth 100000 in
set_option maxHeartbeats 8000000 in
theorem bin_op3 (kA cA eA : Int) (sA : ByteArray) (bA : Bool) (xA : Int) (kB cB eB : Int) (sB : ByteArray) (bB : Bool) (xB : Int) (kP cP eP : Int) (sP : ByteArray) (bP : Bool) (xP : Int) (kQ cQ eQ : Int) (sQ : ByteArray) (bQ : Bool) (xQ : Int) (kO cO eO : Int) (sO : ByteArray) (bO : Bool) (xO : Int)
    (HA : ∀ V, Hid (Calls Tryz.prog 48 #[.agg #[.int .i64 kA, .int .i64 cA, .int .i64 eA, .string sA, .bool bA, .int .i64 xA]] V fun r w' => r = .returned (.agg #[.int .i64 kP, .int .i64 cP, .int .i64 eP, .string sP, .bool bP, .int .i64 xP]) ∧ Below V.heap.size V w')) (HB : ∀ V, Hid (Calls Tryz.prog 48 #[.agg #[.int .i64 kB, .int .i64 cB, .int .i64 eB, .string sB, .bool bB, .int .i64 xB]] V fun r w' => r = .returned (.agg #[.int .i64 kQ, .int .i64 cQ, .int .i64 eQ, .string sQ, .bool bQ, .int .i64 xQ]) ∧ Below V.heap.size V w'))
    (HF : ∀ K V, Row V K 25 (c12 kP cP eP sP bP xP kQ cQ eQ sQ bQ xQ) → Hid (Calls Tryz.prog 62 #[.slice (some ⟨K, 0, none⟩) 2 2] V fun r w' => r = .returned (.tuple #[.agg #[.int .i64 0, .int .i64 0, .int .i64 0, .string .empty, .bool false, .int .i64 0], .bool false]) ∧ Below V.heap.size V w'))
    (HR : ∀ V, Hid (Calls Tryz.prog 63 #[.func (.func 66) #[] #[], .agg #[.int .i64 kP, .int .i64 cP, .int .i64 eP, .string sP, .bool bP, .int .i64 xP], .agg #[.int .i64 kQ, .int .i64 cQ, .int .i64 eQ, .string sQ, .bool bQ, .int .i64 xQ]] V fun r w' => r = .returned (.agg #[.int .i64 kO, .int .i64 cO, .int .i64 eO, .string sO, .bool bO, .int .i64 xO]) ∧ Below V.heap.size V w')) (w : World) :
    Calls Tryz.prog 34 #[.int .i64 3, .agg #[.int .i64 kA, .int .i64 cA, .int .i64 eA, .string sA, .bool bA, .int .i64 xA], .agg #[.int .i64 kB, .int .i64 cB, .int .i64 eB, .string sB, .bool bB, .int .i64 xB]] w fun r w' => r = .returned (.agg #[.int .i64 kO, .int .i64 cO, .int .i64 eO, .string sO, .bool bO, .int .i64 xO]) ∧ Below w.heap.size w w' := by
  have h0 := P3.start w #[.int .i64 kA, .int .i64 cA, .int .i64 eA, .string sA, .bool bA, .int .i64 xA] #[.int .i64 kB, .int .i64 cB, .int .i64 eB, .string sB, .bool bB, .int .i64 xB] #[.int .i64 0, .int .i64 0, .int .i64 0, .string ⟨#[]⟩, .bool false, .int .i64 0]
  go_enter Tryz.func34, Tryz.ntmps34
  go_upto_region 1 with fail
  generalize ((w.alloc (.cells #[.int .i64 kA, .int .i64 cA, .int .i64 eA, .string sA, .bool bA, .int .i64 xA] 25)).alloc (.cells #[.int .i64 kB, .int .i64 cB, .int .i64 eB, .string sB, .bool bB, .int .i64 xB] 25)).alloc (.cells #[.int .i64 0, .int .i64 0, .int .i64 0, .string ⟨#[]⟩, .bool false, .int .i64 0] 25) = W at *
  have hS : Below W.heap.size W W.drew := (Below.refl _ W).drew
  have cAt := fun wx (hx : Below W.heap.size W wx) => h0.next hx
  refine wp_region_M (fun wx : World => Below W.heap.size W wx) (fun j => decide (j < 4)) 6 rfl (by kernel_rfl) ?_
  refine wpM_held 0 (v := .agg #[.int .i64 kA, .int .i64 cA, .int .i64 eA, .string sA, .bool bA, .int .i64 xA]) rfl (by kernel_rfl) (by kernel_rfl) rfl (fun _ _ _ h => h) rfl (by intro wx hx; obtain ⟨z0, z1, z2, z3, z4, z5⟩ := (cAt wx hx).1.six; go_simp <;> rfl) hS ?_
  refine wpM_held 2 (v := .agg #[.int .i64 kB, .int .i64 cB, .int .i64 eB, .string sB, .bool bB, .int .i64 xB]) rfl (by kernel_rfl) (by kernel_rfl) rfl (fun _ _ _ h => h) rfl (by intro wx hx; obtain ⟨z0, z1, z2, z3, z4, z5⟩ := (cAt wx hx).2.1.six; go_simp <;> rfl) hS ?_
  refine wpM_one 1 rfl (by kernel_rfl) rfl ?_
  go_wp2_with fail
  refine Calls.mono (HA _).out ?_
  rintro _ wa ⟨rfl, lwa⟩
  have hSa : Below W.heap.size W wa := hS.trans (lwa.mono hS.size)
  go_wp2_with fail
  refine ⟨fun _ => hSa, ?_⟩
  refine wpM_one 3 rfl (by kernel_rfl) rfl ?_
  go_wp2_with fail
  refine Calls.mono (HB _).out ?_
  rintro _ wb ⟨rfl, lwb⟩
  have hSb : Below W.heap.size W wb := hSa.trans (lwb.mono hSa.size)
  have hb := h0.next hSb
  obtain ⟨m0, m1, m2, m3, m4, m5⟩ := hb.1.six
  obtain ⟨n0, n1, n2, n3, n4, n5⟩ := hb.2.1.six
  have mf := hb.1.frozen
  have nf := hb.2.1.frozen
  have ml := hb.1.lt
  have nl := hb.2.1.lt
  go_wp2_with fail
  refine ⟨fun _ => hSb, ?_⟩
  refine wpM_one 4 rfl (by kernel_rfl) rfl ?_
  go_wp2_with fail
  refine ⟨fun h => absurd h (by decide), ?_⟩
  refine wpM_one 5 rfl (by kernel_rfl) rfl ?_
  go_wp2_with fail
  refine ⟨fun h => absurd h (by decide), ?_⟩
  refine wpM_done (by kernel_rfl) ?_
  have h1 := (hb.setP (.int .i64 kP) (.int .i64 cP) (.int .i64 eP) (.string sP) (.bool bP) (.int .i64 xP)).setR (.int .i64 kQ) (.int .i64 cQ) (.int .i64 eQ) (.string sQ) (.bool bQ) (.int .i64 xQ)
  clear hS cAt lwa hSa lwb hSb m0 m1 m2 m3 m4 m5 n0 n1 n2 n3 n4 n5 mf nf ml nl hb h0
  generalize ((((((((((((wb.setCell ⟨w.heap.size, 0, none⟩ (.int .i64 kP)).setCell ⟨w.heap.size, 1, none⟩ (.int .i64 cP)).setCell ⟨w.heap.size, 2, none⟩ (.int .i64 eP)).setCell ⟨w.heap.size, 3, none⟩ (.string sP)).setCell ⟨w.heap.size, 4, none⟩ (.bool bP)).setCell ⟨w.heap.size, 5, none⟩ (.int .i64 xP)).setCell ⟨w.heap.size + 1, 0, none⟩ (.int .i64 kQ)).setCell ⟨w.heap.size + 1, 1, none⟩ (.int .i64 cQ)).setCell ⟨w.heap.size + 1, 2, none⟩ (.int .i64 eQ)).setCell ⟨w.heap.size + 1, 3, none⟩ (.string sQ)).setCell ⟨w.heap.size + 1, 4, none⟩ (.bool bQ)).setCell ⟨w.heap.size + 1, 5, none⟩ (.int .i64 xQ)) = W1 at *
  have hK := Row.new W1 25 (c12 kP cP eP sP bP xP kQ cQ eQ sQ bQ xQ)
  have hA1 : Below W1.heap.size W1 (W1.alloc (.cells (c12 kP cP eP sP bP xP kQ cQ eQ sQ bQ xQ) 25)) := (Below.refl _ W1).alloc (Nat.le_refl _) _
  have HFa := (HF _ _ hK)
  have h2 := h1.next hA1
  unfold c12 at hK hA1 HFa h2
  obtain ⟨m0, m1, m2, m3, m4, m5⟩ := h1.1.six
  obtain ⟨n0, n1, n2, n3, n4, n5⟩ := h1.2.1.six
  go_wp2_with fail
  refine Calls.mono HFa.out ?_
  rintro _ w3 ⟨rfl, lw3⟩
  have tk := Row.new w3 25 #[.int .i64 0, .int .i64 0, .int .i64 0, .string .empty, .bool false, .int .i64 0]
  have h3 := (h2.next lw3).next ((Below.refl _ w3).alloc (Nat.le_refl _) (.cells #[.int .i64 0, .int .i64 0, .int .i64 0, .string .empty, .bool false, .int .i64 0] 25))
  clear hK hA1 HFa h2 lw3 m0 m1 m2 m3 m4 m5 n0 n1 n2 n3 n4 n5 h1 HF HA HB
  go_upto_region 3 with fail
  generalize w3.alloc (.cells #[.int .i64 0, .int .i64 0, .int .i64 0, .string .empty, .bool false, .int .i64 0] 25) = W3 at *
  obtain ⟨m0, m1, m2, m3, m4, m5⟩ := h3.1.six
  obtain ⟨n0, n1, n2, n3, n4, n5⟩ := h3.2.1.six
  go_wp2_with fail
  refine Calls.mono (HR _).out ?_
  rintro _ w5 ⟨rfl, lw5⟩
  have h5 := h3.next lw5
  obtain ⟨y0, y1, y2, y3, y4, y5⟩ := h5.2.2.1.six
  have zf := h5.2.2.1.frozen
  have wl := h5.2.2.1.lt
  clear lw5 h3 tk m0 m1 m2 m3 m4 m5 n0 n1 n2 n3 n4 n5 HR
  go_wp2
  exact bodyPost_ret (ret_one rfl (g := w.heap.size + 1 + 1) rfl ((h5.setT _ _ _ _ _ _).res rfl)) rfl ⟨rfl, (h5.setT _ _ _ _ _ _).2.2.2⟩
end Go.Proofs.YtnhflnpjepiceaaGreatDoor
/- val: Bin, of one operator -/
namespace Go.Proofs.YtnhflnpjepiceaaGreatDoor
open Go.RowKit

set_option maxRecDepth 100000 in
set_option maxHeartbeats 8000000 in
theorem bin_op5 (kA cA eA : Int) (sA : ByteArray) (bA : Bool) (xA : Int) (kB cB eB : Int) (sB : ByteArray) (bB : Bool) (xB : Int) (kP cP eP : Int) (sP : ByteArray) (bP : Bool) (xP : Int) (kQ cQ eQ : Int) (sQ : ByteArray) (bQ : Bool) (xQ : Int) (kO cO eO : Int) (sO : ByteArray) (bO : Bool) (xO : Int)
    (HA : ∀ V, Hid (Calls Tryz.prog 48 #[.agg #[.int .i64 kA, .int .i64 cA, .int .i64 eA, .string sA, .bool bA, .int .i64 xA]] V fun r w' => r = .returned (.agg #[.int .i64 kP, .int .i64 cP, .int .i64 eP, .string sP, .bool bP, .int .i64 xP]) ∧ Below V.heap.size V w')) (HB : ∀ V, Hid (Calls Tryz.prog 48 #[.agg #[.int .i64 kB, .int .i64 cB, .int .i64 eB, .string sB, .bool bB, .int .i64 xB]] V fun r w' => r = .returned (.agg #[.int .i64 kQ, .int .i64 cQ, .int .i64 eQ, .string sQ, .bool bQ, .int .i64 xQ]) ∧ Below V.heap.size V w'))
    (HF : ∀ K V, Row V K 25 (c12 kP cP eP sP bP xP kQ cQ eQ sQ bQ xQ) → Hid (Calls Tryz.prog 62 #[.slice (some ⟨K, 0, none⟩) 2 2] V fun r w' => r = .returned (.tuple #[.agg #[.int .i64 0, .int .i64 0, .int .i64 0, .string .empty, .bool false, .int .i64 0], .bool false]) ∧ Below V.heap.size V w'))
    (HR : ∀ V, Hid (Calls Tryz.prog 63 #[.func (.func 68) #[] #[], .agg #[.int .i64 kP, .int .i64 cP, .int .i64 eP, .string sP, .bool bP, .int .i64 xP], .agg #[.int .i64 kQ, .int .i64 cQ, .int .i64 eQ, .string sQ, .bool bQ, .int .i64 xQ]] V fun r w' => r = .returned (.agg #[.int .i64 kO, .int .i64 cO, .int .i64 eO, .string sO, .bool bO, .int .i64 xO]) ∧ Below V.heap.size V w')) (w : World) :
    Calls Tryz.prog 34 #[.int .i64 5, .agg #[.int .i64 kA, .int .i64 cA, .int .i64 eA, .string sA, .bool bA, .int .i64 xA], .agg #[.int .i64 kB, .int .i64 cB, .int .i64 eB, .string sB, .bool bB, .int .i64 xB]] w fun r w' => r = .returned (.agg #[.int .i64 kO, .int .i64 cO, .int .i64 eO, .string sO, .bool bO, .int .i64 xO]) ∧ Below w.heap.size w w' := by
  have h0 := P3.start w #[.int .i64 kA, .int .i64 cA, .int .i64 eA, .string sA, .bool bA, .int .i64 xA] #[.int .i64 kB, .int .i64 cB, .int .i64 eB, .string sB, .bool bB, .int .i64 xB] #[.int .i64 0, .int .i64 0, .int .i64 0, .string ⟨#[]⟩, .bool false, .int .i64 0]
  go_enter Tryz.func34, Tryz.ntmps34
  go_upto_region 1 with fail
  generalize ((w.alloc (.cells #[.int .i64 kA, .int .i64 cA, .int .i64 eA, .string sA, .bool bA, .int .i64 xA] 25)).alloc (.cells #[.int .i64 kB, .int .i64 cB, .int .i64 eB, .string sB, .bool bB, .int .i64 xB] 25)).alloc (.cells #[.int .i64 0, .int .i64 0, .int .i64 0, .string ⟨#[]⟩, .bool false, .int .i64 0] 25) = W at *
  have hS : Below W.heap.size W W.drew := (Below.refl _ W).drew
  have cAt := fun wx (hx : Below W.heap.size W wx) => h0.next hx
  refine wp_region_M (fun wx : World => Below W.heap.size W wx) (fun j => decide (j < 4)) 6 rfl (by kernel_rfl) ?_
  refine wpM_held 0 (v := .agg #[.int .i64 kA, .int .i64 cA, .int .i64 eA, .string sA, .bool bA, .int .i64 xA]) rfl (by kernel_rfl) (by kernel_rfl) rfl (fun _ _ _ h => h) rfl (by intro wx hx; obtain ⟨z0, z1, z2, z3, z4, z5⟩ := (cAt wx hx).1.six; go_simp <;> rfl) hS ?_
  refine wpM_held 2 (v := .agg #[.int .i64 kB, .int .i64 cB, .int .i64 eB, .string sB, .bool bB, .int .i64 xB]) rfl (by kernel_rfl) (by kernel_rfl) rfl (fun _ _ _ h => h) rfl (by intro wx hx; obtain ⟨z0, z1, z2, z3, z4, z5⟩ := (cAt wx hx).2.1.six; go_simp <;> rfl) hS ?_
  refine wpM_one 1 rfl (by kernel_rfl) rfl ?_
  go_wp2_with fail
  refine Calls.mono (HA _).out ?_
  rintro _ wa ⟨rfl, lwa⟩
  have hSa : Below W.heap.size W wa := hS.trans (lwa.mono hS.size)
  go_wp2_with fail
  refine ⟨fun _ => hSa, ?_⟩
  refine wpM_one 3 rfl (by kernel_rfl) rfl ?_
  go_wp2_with fail
  refine Calls.mono (HB _).out ?_
  rintro _ wb ⟨rfl, lwb⟩
  have hSb : Below W.heap.size W wb := hSa.trans (lwb.mono hSa.size)
  have hb := h0.next hSb
  obtain ⟨m0, m1, m2, m3, m4, m5⟩ := hb.1.six
  obtain ⟨n0, n1, n2, n3, n4, n5⟩ := hb.2.1.six
  have mf := hb.1.frozen
  have nf := hb.2.1.frozen
  have ml := hb.1.lt
  have nl := hb.2.1.lt
  go_wp2_with fail
  refine ⟨fun _ => hSb, ?_⟩
  refine wpM_one 4 rfl (by kernel_rfl) rfl ?_
  go_wp2_with fail
  refine ⟨fun h => absurd h (by decide), ?_⟩
  refine wpM_one 5 rfl (by kernel_rfl) rfl ?_
  go_wp2_with fail
  refine ⟨fun h => absurd h (by decide), ?_⟩
  refine wpM_done (by kernel_rfl) ?_
  have h1 := (hb.setP (.int .i64 kP) (.int .i64 cP) (.int .i64 eP) (.string sP) (.bool bP) (.int .i64 xP)).setR (.int .i64 kQ) (.int .i64 cQ) (.int .i64 eQ) (.string sQ) (.bool bQ) (.int .i64 xQ)
  clear hS cAt lwa hSa lwb hSb m0 m1 m2 m3 m4 m5 n0 n1 n2 n3 n4 n5 mf nf ml nl hb h0
  generalize ((((((((((((wb.setCell ⟨w.heap.size, 0, none⟩ (.int .i64 kP)).setCell ⟨w.heap.size, 1, none⟩ (.int .i64 cP)).setCell ⟨w.heap.size, 2, none⟩ (.int .i64 eP)).setCell ⟨w.heap.size, 3, none⟩ (.string sP)).setCell ⟨w.heap.size, 4, none⟩ (.bool bP)).setCell ⟨w.heap.size, 5, none⟩ (.int .i64 xP)).setCell ⟨w.heap.size + 1, 0, none⟩ (.int .i64 kQ)).setCell ⟨w.heap.size + 1, 1, none⟩ (.int .i64 cQ)).setCell ⟨w.heap.size + 1, 2, none⟩ (.int .i64 eQ)).setCell ⟨w.heap.size + 1, 3, none⟩ (.string sQ)).setCell ⟨w.heap.size + 1, 4, none⟩ (.bool bQ)).setCell ⟨w.heap.size + 1, 5, none⟩ (.int .i64 xQ)) = W1 at *
  have hK := Row.new W1 25 (c12 kP cP eP sP bP xP kQ cQ eQ sQ bQ xQ)
  have hA1 : Below W1.heap.size W1 (W1.alloc (.cells (c12 kP cP eP sP bP xP kQ cQ eQ sQ bQ xQ) 25)) := (Below.refl _ W1).alloc (Nat.le_refl _) _
  have HFa := (HF _ _ hK)
  have h2 := h1.next hA1
  unfold c12 at hK hA1 HFa h2
  obtain ⟨m0, m1, m2, m3, m4, m5⟩ := h1.1.six
  obtain ⟨n0, n1, n2, n3, n4, n5⟩ := h1.2.1.six
  go_wp2_with fail
  refine Calls.mono HFa.out ?_
  rintro _ w3 ⟨rfl, lw3⟩
  have tk := Row.new w3 25 #[.int .i64 0, .int .i64 0, .int .i64 0, .string .empty, .bool false, .int .i64 0]
  have h3 := (h2.next lw3).next ((Below.refl _ w3).alloc (Nat.le_refl _) (.cells #[.int .i64 0, .int .i64 0, .int .i64 0, .string .empty, .bool false, .int .i64 0] 25))
  clear hK hA1 HFa h2 lw3 m0 m1 m2 m3 m4 m5 n0 n1 n2 n3 n4 n5 h1 HF HA HB
  go_upto_region 3 with fail
  generalize w3.alloc (.cells #[.int .i64 0, .int .i64 0, .int .i64 0, .string .empty, .bool false, .int .i64 0] 25) = W3 at *
  obtain ⟨m0, m1, m2, m3, m4, m5⟩ := h3.1.six
  obtain ⟨n0, n1, n2, n3, n4, n5⟩ := h3.2.1.six
  go_wp2_with fail
  refine Calls.mono (HR _).out ?_
  rintro _ w5 ⟨rfl, lw5⟩
  have h5 := h3.next lw5
  obtain ⟨y0, y1, y2, y3, y4, y5⟩ := h5.2.2.1.six
  have zf := h5.2.2.1.frozen
  have wl := h5.2.2.1.lt
  clear lw5 h3 tk m0 m1 m2 m3 m4 m5 n0 n1 n2 n3 n4 n5 HR
  go_wp2
  exact bodyPost_ret (ret_one rfl (g := w.heap.size + 1 + 1) rfl ((h5.setT _ _ _ _ _ _).res rfl)) rfl ⟨rfl, (h5.setT _ _ _ _ _ _).2.2.2⟩
end Go.Proofs.YtnhflnpjepiceaaGreatDoor
/- val: reckoned, of one more way -/
namespace Go.Proofs.YtnhflnpjepiceaaGreatDoor
open Go.RowKit

set_option maxRecDepth 100000 in
set_option maxHeartbeats 8000000 in
theorem reck_ok65 (kA cA eA : Int) (sA : ByteArray) (bA : Bool) (xA : Int) (kB cB eB : Int) (sB : ByteArray) (bB : Bool) (xB : Int) (kP cP eP : Int) (sP : ByteArray) (bP : Bool) (xP : Int) (kQ cQ eQ : Int) (sQ : ByteArray) (bQ : Bool) (xQ : Int) (kO cO eO : Int) (sO : ByteArray) (bO : Bool) (xO : Int) (c5 e5 er : Int)
    (HA : ∀ V, Hid (Calls Tryz.prog 11 #[.agg #[.int .i64 kA, .int .i64 cA, .int .i64 eA, .string sA, .bool bA, .int .i64 xA]] V fun r w' => r = .returned (.agg #[.int .i64 kP, .int .i64 cP, .int .i64 eP, .string sP, .bool bP, .int .i64 xP]) ∧ Below V.heap.size V w')) (HB : ∀ V, Hid (Calls Tryz.prog 11 #[.agg #[.int .i64 kB, .int .i64 cB, .int .i64 eB, .string sB, .bool bB, .int .i64 xB]] V fun r w' => r = .returned (.agg #[.int .i64 kQ, .int .i64 cQ, .int .i64 eQ, .string sQ, .bool bQ, .int .i64 xQ]) ∧ Below V.heap.size V w'))
    (HF : ∀ K V, Row V K 25 (c12 kP cP eP sP bP xP kQ cQ eQ sQ bQ xQ) → Hid (Calls Tryz.prog 62 #[.slice (some ⟨K, 0, none⟩) 2 2] V fun r w' => r = .returned (.tuple #[.agg #[.int .i64 0, .int .i64 0, .int .i64 0, .string .empty, .bool false, .int .i64 0], .bool false]) ∧ Below V.heap.size V w'))
    (HW : ∀ V, Hid (Calls Tryz.prog 65 #[.agg #[.int .i64 cP, .int .i64 eP], .agg #[.int .i64 cQ, .int .i64 eQ]] V fun r w' => r = .returned (.tuple #[.agg #[.int .i64 c5, .int .i64 e5], .int .i64 er]) ∧ Below V.heap.size V w')) (HO : ∀ V, Hid (Calls Tryz.prog 23 #[.agg #[.int .i64 c5, .int .i64 e5], .int .i64 er] V fun r w' => r = .returned (.agg #[.int .i64 kO, .int .i64 cO, .int .i64 eO, .string sO, .bool bO, .int .i64 xO]) ∧ Below V.heap.size V w')) (w : World) :
    Calls Tryz.prog 63 #[.func (.func 65) #[] #[], .agg #[.int .i64 kA, .int .i64 cA, .int .i64 eA, .string sA, .bool bA, .int .i64 xA], .agg #[.int .i64 kB, .int .i64 cB, .int .i64 eB, .string sB, .bool bB, .int .i64 xB]] w fun r w' => r = .returned (.agg #[.int .i64 kO, .int .i64 cO, .int .i64 eO, .string sO, .bool bO, .int .i64 xO]) ∧ Below w.heap.size w w' := by
  have h0 := P3.start w #[.int .i64 kA, .int .i64 cA, .int .i64 eA, .string sA, .bool bA, .int .i64 xA] #[.int .i64 kB, .int .i64 cB, .int .i64 eB, .string sB, .bool bB, .int .i64 xB] #[.int .i64 0, .int .i64 0, .int .i64 0, .string ⟨#[]⟩, .bool false, .int .i64 0]
  go_enter Tryz.func63, Tryz.ntmps63
  go_upto_region 1 with fail
  generalize ((w.alloc (.cells #[.int .i64 kA, .int .i64 cA, .int .i64 eA, .string sA, .bool bA, .int .i64 xA] 25)).alloc (.cells #[.int .i64 kB, .int .i64 cB, .int .i64 eB, .string sB, .bool bB, .int .i64 xB] 25)).alloc (.cells #[.int .i64 0, .int .i64 0, .int .i64 0, .string ⟨#[]⟩, .bool false, .int .i64 0] 25) = W at *
  have hS : Below W.heap.size W W.drew := (Below.refl _ W).drew
  have cAt := fun wx (hx : Below W.heap.size W wx) => h0.next hx
  refine wp_region_M (fun wx : World => Below W.heap.size W wx) (fun j => decide (j < 4)) 6 rfl (by kernel_rfl) ?_
  refine wpM_held 0 (v := .agg #[.int .i64 kA, .int .i64 cA, .int .i64 eA, .string sA, .bool bA, .int .i64 xA]) rfl (by kernel_rfl) (by kernel_rfl) rfl (fun _ _ _ h => h) rfl (by intro wx hx; obtain ⟨z0, z1, z2, z3, z4, z5⟩ := (cAt wx hx).1.six; go_simp <;> rfl) hS ?_
  refine wpM_held 2 (v := .agg #[.int .i64 kB, .int .i64 cB, .int .i64 eB, .string sB, .bool bB, .int .i64 xB]) rfl (by kernel_rfl) (by kernel_rfl) rfl (fun _ _ _ h => h) rfl (by intro wx hx; obtain ⟨z0, z1, z2, z3, z4, z5⟩ := (cAt wx hx).2.1.six; go_simp <;> rfl) hS ?_
  refine wpM_one 1 rfl (by kernel_rfl) rfl ?_
  go_wp2_with fail
  refine Calls.mono (HA _).out ?_
  rintro _ wa ⟨rfl, lwa⟩
  have hSa : Below W.heap.size W wa := hS.trans (lwa.mono hS.size)
  go_wp2_with fail
  refine ⟨fun _ => hSa, ?_⟩
  refine wpM_one 3 rfl (by kernel_rfl) rfl ?_
  go_wp2_with fail
  refine Calls.mono (HB _).out ?_
  rintro _ wb ⟨rfl, lwb⟩
  have hSb : Below W.heap.size W wb := hSa.trans (lwb.mono hSa.size)
  have hb := h0.next hSb
  obtain ⟨m0, m1, m2, m3, m4, m5⟩ := hb.1.six
  obtain ⟨n0, n1, n2, n3, n4, n5⟩ := hb.2.1.six
  have mf := hb.1.frozen
  have nf := hb.2.1.frozen
  have ml := hb.1.lt
  have nl := hb.2.1.lt
  go_wp2_with fail
  refine ⟨fun _ => hSb, ?_⟩
  refine wpM_one 4 rfl (by kernel_rfl) rfl ?_
  go_wp2_with fail
  refine ⟨fun h => absurd h (by decide), ?_⟩
  refine wpM_one 5 rfl (by kernel_rfl) rfl ?_
  go_wp2_with fail
  refine ⟨fun h => absurd h (by decide), ?_⟩
  refine wpM_done (by kernel_rfl) ?_
  have h1 := (hb.setP (.int .i64 kP) (.int .i64 cP) (.int .i64 eP) (.string sP) (.bool bP) (.int .i64 xP)).setR (.int .i64 kQ) (.int .i64 cQ) (.int .i64 eQ) (.string sQ) (.bool bQ) (.int .i64 xQ)
  clear hS cAt lwa hSa lwb hSb m0 m1 m2 m3 m4 m5 n0 n1 n2 n3 n4 n5 mf nf ml nl hb h0
  generalize ((((((((((((wb.setCell ⟨w.heap.size, 0, none⟩ (.int .i64 kP)).setCell ⟨w.heap.size, 1, none⟩ (.int .i64 cP)).setCell ⟨w.heap.size, 2, none⟩ (.int .i64 eP)).setCell ⟨w.heap.size, 3, none⟩ (.string sP)).setCell ⟨w.heap.size, 4, none⟩ (.bool bP)).setCell ⟨w.heap.size, 5, none⟩ (.int .i64 xP)).setCell ⟨w.heap.size + 1, 0, none⟩ (.int .i64 kQ)).setCell ⟨w.heap.size + 1, 1, none⟩ (.int .i64 cQ)).setCell ⟨w.heap.size + 1, 2, none⟩ (.int .i64 eQ)).setCell ⟨w.heap.size + 1, 3, none⟩ (.string sQ)).setCell ⟨w.heap.size + 1, 4, none⟩ (.bool bQ)).setCell ⟨w.heap.size + 1, 5, none⟩ (.int .i64 xQ)) = W1 at *
  have hK := Row.new W1 25 (c12 kP cP eP sP bP xP kQ cQ eQ sQ bQ xQ)
  have hA1 : Below W1.heap.size W1 (W1.alloc (.cells (c12 kP cP eP sP bP xP kQ cQ eQ sQ bQ xQ) 25)) := (Below.refl _ W1).alloc (Nat.le_refl _) _
  have HFa := (HF _ _ hK)
  have h2 := h1.next hA1
  unfold c12 at hK hA1 HFa h2
  obtain ⟨m0, m1, m2, m3, m4, m5⟩ := h1.1.six
  obtain ⟨n0, n1, n2, n3, n4, n5⟩ := h1.2.1.six
  go_wp2_with fail
  refine Calls.mono HFa.out ?_
  rintro _ w3 ⟨rfl, lw3⟩
  have tk := Row.new w3 25 #[.int .i64 0, .int .i64 0, .int .i64 0, .string .empty, .bool false, .int .i64 0]
  have h3 := (h2.next lw3).next ((Below.refl _ w3).alloc (Nat.le_refl _) (.cells #[.int .i64 0, .int .i64 0, .int .i64 0, .string .empty, .bool false, .int .i64 0] 25))
  clear hK hA1 HFa h2 lw3 m0 m1 m2 m3 m4 m5 n0 n1 n2 n3 n4 n5 h1 HF HA HB
  go_upto_region 3 with fail
  generalize w3.alloc (.cells #[.int .i64 0, .int .i64 0, .int .i64 0, .string .empty, .bool false, .int .i64 0] 25) = W3 at *
  obtain ⟨m0, m1, m2, m3, m4, m5⟩ := h3.1.six
  obtain ⟨n0, n1, n2, n3, n4, n5⟩ := h3.2.1.six
  go_wp2_with fail
  refine Calls.mono (HW _).out ?_
  rintro _ w5 ⟨rfl, lw5⟩
  have h5 := h3.next lw5
  clear lw5 h3 tk m0 m1 m2 m3 m4 m5 n0 n1 n2 n3 n4 n5 HW
  go_wp2_with fail
  refine Calls.mono (HO _).out ?_
  rintro _ w6 ⟨rfl, lw6⟩
  have h6 := h5.next lw6
  obtain ⟨y0, y1, y2, y3, y4, y5⟩ := h6.2.2.1.six
  have zf := h6.2.2.1.frozen
  have wl := h6.2.2.1.lt
  clear lw6 h5 HO
  go_wp2
  exact bodyPost_ret (ret_one rfl (g := w.heap.size + 1 + 1) rfl ((h6.setT _ _ _ _ _ _).res rfl)) rfl ⟨rfl, (h6.setT _ _ _ _ _ _).2.2.2⟩
end Go.Proofs.YtnhflnpjepiceaaGreatDoor
/- val: reckoned, of one more way -/
namespace Go.Proofs.YtnhflnpjepiceaaGreatDoor
open Go.RowKit

set_option maxRecDepth 100000 in
set_option maxHeartbeats 8000000 in
theorem reck_ok66 (kA cA eA : Int) (sA : ByteArray) (bA : Bool) (xA : Int) (kB cB eB : Int) (sB : ByteArray) (bB : Bool) (xB : Int) (kP cP eP : Int) (sP : ByteArray) (bP : Bool) (xP : Int) (kQ cQ eQ : Int) (sQ : ByteArray) (bQ : Bool) (xQ : Int) (kO cO eO : Int) (sO : ByteArray) (bO : Bool) (xO : Int) (c5 e5 er : Int)
    (HA : ∀ V, Hid (Calls Tryz.prog 11 #[.agg #[.int .i64 kA, .int .i64 cA, .int .i64 eA, .string sA, .bool bA, .int .i64 xA]] V fun r w' => r = .returned (.agg #[.int .i64 kP, .int .i64 cP, .int .i64 eP, .string sP, .bool bP, .int .i64 xP]) ∧ Below V.heap.size V w')) (HB : ∀ V, Hid (Calls Tryz.prog 11 #[.agg #[.int .i64 kB, .int .i64 cB, .int .i64 eB, .string sB, .bool bB, .int .i64 xB]] V fun r w' => r = .returned (.agg #[.int .i64 kQ, .int .i64 cQ, .int .i64 eQ, .string sQ, .bool bQ, .int .i64 xQ]) ∧ Below V.heap.size V w'))
    (HF : ∀ K V, Row V K 25 (c12 kP cP eP sP bP xP kQ cQ eQ sQ bQ xQ) → Hid (Calls Tryz.prog 62 #[.slice (some ⟨K, 0, none⟩) 2 2] V fun r w' => r = .returned (.tuple #[.agg #[.int .i64 0, .int .i64 0, .int .i64 0, .string .empty, .bool false, .int .i64 0], .bool false]) ∧ Below V.heap.size V w'))
    (HW : ∀ V, Hid (Calls Tryz.prog 66 #[.agg #[.int .i64 cP, .int .i64 eP], .agg #[.int .i64 cQ, .int .i64 eQ]] V fun r w' => r = .returned (.tuple #[.agg #[.int .i64 c5, .int .i64 e5], .int .i64 er]) ∧ Below V.heap.size V w')) (HO : ∀ V, Hid (Calls Tryz.prog 23 #[.agg #[.int .i64 c5, .int .i64 e5], .int .i64 er] V fun r w' => r = .returned (.agg #[.int .i64 kO, .int .i64 cO, .int .i64 eO, .string sO, .bool bO, .int .i64 xO]) ∧ Below V.heap.size V w')) (w : World) :
    Calls Tryz.prog 63 #[.func (.func 66) #[] #[], .agg #[.int .i64 kA, .int .i64 cA, .int .i64 eA, .string sA, .bool bA, .int .i64 xA], .agg #[.int .i64 kB, .int .i64 cB, .int .i64 eB, .string sB, .bool bB, .int .i64 xB]] w fun r w' => r = .returned (.agg #[.int .i64 kO, .int .i64 cO, .int .i64 eO, .string sO, .bool bO, .int .i64 xO]) ∧ Below w.heap.size w w' := by
  have h0 := P3.start w #[.int .i64 kA, .int .i64 cA, .int .i64 eA, .string sA, .bool bA, .int .i64 xA] #[.int .i64 kB, .int .i64 cB, .int .i64 eB, .string sB, .bool bB, .int .i64 xB] #[.int .i64 0, .int .i64 0, .int .i64 0, .string ⟨#[]⟩, .bool false, .int .i64 0]
  go_enter Tryz.func63, Tryz.ntmps63
  go_upto_region 1 with fail
  generalize ((w.alloc (.cells #[.int .i64 kA, .int .i64 cA, .int .i64 eA, .string sA, .bool bA, .int .i64 xA] 25)).alloc (.cells #[.int .i64 kB, .int .i64 cB, .int .i64 eB, .string sB, .bool bB, .int .i64 xB] 25)).alloc (.cells #[.int .i64 0, .int .i64 0, .int .i64 0, .string ⟨#[]⟩, .bool false, .int .i64 0] 25) = W at *
  have hS : Below W.heap.size W W.drew := (Below.refl _ W).drew
  have cAt := fun wx (hx : Below W.heap.size W wx) => h0.next hx
  refine wp_region_M (fun wx : World => Below W.heap.size W wx) (fun j => decide (j < 4)) 6 rfl (by kernel_rfl) ?_
  refine wpM_held 0 (v := .agg #[.int .i64 kA, .int .i64 cA, .int .i64 eA, .string sA, .bool bA, .int .i64 xA]) rfl (by kernel_rfl) (by kernel_rfl) rfl (fun _ _ _ h => h) rfl (by intro wx hx; obtain ⟨z0, z1, z2, z3, z4, z5⟩ := (cAt wx hx).1.six; go_simp <;> rfl) hS ?_
  refine wpM_held 2 (v := .agg #[.int .i64 kB, .int .i64 cB, .int .i64 eB, .string sB, .bool bB, .int .i64 xB]) rfl (by kernel_rfl) (by kernel_rfl) rfl (fun _ _ _ h => h) rfl (by intro wx hx; obtain ⟨z0, z1, z2, z3, z4, z5⟩ := (cAt wx hx).2.1.six; go_simp <;> rfl) hS ?_
  refine wpM_one 1 rfl (by kernel_rfl) rfl ?_
  go_wp2_with fail
  refine Calls.mono (HA _).out ?_
  rintro _ wa ⟨rfl, lwa⟩
  have hSa : Below W.heap.size W wa := hS.trans (lwa.mono hS.size)
  go_wp2_with fail
  refine ⟨fun _ => hSa, ?_⟩
  refine wpM_one 3 rfl (by kernel_rfl) rfl ?_
  go_wp2_with fail
  refine Calls.mono (HB _).out ?_
  rintro _ wb ⟨rfl, lwb⟩
  have hSb : Below W.heap.size W wb := hSa.trans (lwb.mono hSa.size)
  have hb := h0.next hSb
  obtain ⟨m0, m1, m2, m3, m4, m5⟩ := hb.1.six
  obtain ⟨n0, n1, n2, n3, n4, n5⟩ := hb.2.1.six
  have mf := hb.1.frozen
  have nf := hb.2.1.frozen
  have ml := hb.1.lt
  have nl := hb.2.1.lt
  go_wp2_with fail
  refine ⟨fun _ => hSb, ?_⟩
  refine wpM_one 4 rfl (by kernel_rfl) rfl ?_
  go_wp2_with fail
  refine ⟨fun h => absurd h (by decide), ?_⟩
  refine wpM_one 5 rfl (by kernel_rfl) rfl ?_
  go_wp2_with fail
  refine ⟨fun h => absurd h (by decide), ?_⟩
  refine wpM_done (by kernel_rfl) ?_
  have h1 := (hb.setP (.int .i64 kP) (.int .i64 cP) (.int .i64 eP) (.string sP) (.bool bP) (.int .i64 xP)).setR (.int .i64 kQ) (.int .i64 cQ) (.int .i64 eQ) (.string sQ) (.bool bQ) (.int .i64 xQ)
  clear hS cAt lwa hSa lwb hSb m0 m1 m2 m3 m4 m5 n0 n1 n2 n3 n4 n5 mf nf ml nl hb h0
  generalize ((((((((((((wb.setCell ⟨w.heap.size, 0, none⟩ (.int .i64 kP)).setCell ⟨w.heap.size, 1, none⟩ (.int .i64 cP)).setCell ⟨w.heap.size, 2, none⟩ (.int .i64 eP)).setCell ⟨w.heap.size, 3, none⟩ (.string sP)).setCell ⟨w.heap.size, 4, none⟩ (.bool bP)).setCell ⟨w.heap.size, 5, none⟩ (.int .i64 xP)).setCell ⟨w.heap.size + 1, 0, none⟩ (.int .i64 kQ)).setCell ⟨w.heap.size + 1, 1, none⟩ (.int .i64 cQ)).setCell ⟨w.heap.size + 1, 2, none⟩ (.int .i64 eQ)).setCell ⟨w.heap.size + 1, 3, none⟩ (.string sQ)).setCell ⟨w.heap.size + 1, 4, none⟩ (.bool bQ)).setCell ⟨w.heap.size + 1, 5, none⟩ (.int .i64 xQ)) = W1 at *
  have hK := Row.new W1 25 (c12 kP cP eP sP bP xP kQ cQ eQ sQ bQ xQ)
  have hA1 : Below W1.heap.size W1 (W1.alloc (.cells (c12 kP cP eP sP bP xP kQ cQ eQ sQ bQ xQ) 25)) := (Below.refl _ W1).alloc (Nat.le_refl _) _
  have HFa := (HF _ _ hK)
  have h2 := h1.next hA1
  unfold c12 at hK hA1 HFa h2
  obtain ⟨m0, m1, m2, m3, m4, m5⟩ := h1.1.six
  obtain ⟨n0, n1, n2, n3, n4, n5⟩ := h1.2.1.six
  go_wp2_with fail
  refine Calls.mono HFa.out ?_
  rintro _ w3 ⟨rfl, lw3⟩
  have tk := Row.new w3 25 #[.int .i64 0, .int .i64 0, .int .i64 0, .string .empty, .bool false, .int .i64 0]
  have h3 := (h2.next lw3).next ((Below.refl _ w3).alloc (Nat.le_refl _) (.cells #[.int .i64 0, .int .i64 0, .int .i64 0, .string .empty, .bool false, .int .i64 0] 25))
  clear hK hA1 HFa h2 lw3 m0 m1 m2 m3 m4 m5 n0 n1 n2 n3 n4 n5 h1 HF HA HB
  go_upto_region 3 with fail
  generalize w3.alloc (.cells #[.int .i64 0, .int .i64 0, .int .i64 0, .string .empty, .bool false, .int .i64 0] 25) = W3 at *
  obtain ⟨m0, m1, m2, m3, m4, m5⟩ := h3.1.six
  obtain ⟨n0, n1, n2, n3, n4, n5⟩ := h3.2.1.six
  go_wp2_with fail
  refine Calls.mono (HW _).out ?_
  rintro _ w5 ⟨rfl, lw5⟩
  have h5 := h3.next lw5
  clear lw5 h3 tk m0 m1 m2 m3 m4 m5 n0 n1 n2 n3 n4 n5 HW
  go_wp2_with fail
  refine Calls.mono (HO _).out ?_
  rintro _ w6 ⟨rfl, lw6⟩
  have h6 := h5.next lw6
  obtain ⟨y0, y1, y2, y3, y4, y5⟩ := h6.2.2.1.six
  have zf := h6.2.2.1.frozen
  have wl := h6.2.2.1.lt
  clear lw6 h5 HO
  go_wp2
  exact bodyPost_ret (ret_one rfl (g := w.heap.size + 1 + 1) rfl ((h6.setT _ _ _ _ _ _).res rfl)) rfl ⟨rfl, (h6.setT _ _ _ _ _ _).2.2.2⟩
end Go.Proofs.YtnhflnpjepiceaaGreatDoor
