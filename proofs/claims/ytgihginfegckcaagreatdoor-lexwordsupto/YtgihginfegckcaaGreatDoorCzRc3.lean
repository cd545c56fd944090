import Derived.Test.YtgihginfegckcaaGreatDoorCzWthpM
import Derived.Deep.CutBlock
import Derived.Deep.DeepCutAuto
/- The document's cell, walked: one way into it. -/
namespace Go.Proofs.YtgihginfegckcaaGreatDoor
open Go.RowKit

set_option maxRecDepth 100000 in
set_option maxHeartbeats 2000000 in
theorem cell_tT (l : List UInt8) (p1 p2 p3 : Nat) (q : Nat → Nat) (hsz : (bs l).size ≤ 140737488351232) (h0 : 0 < (bs l).size) (d0 : (((bs l)[0].toNat : Int) == 36) = true) (HP : Hid (PlAt l 1 p1 p2 p3 q))
    (h1 : p1 < (bs l).size) (d1 : (((bs l)[p1].toNat : Int) == 36) = true) (e2 : (p1 : Int) + 1 = (p2 : Int))
    (c : Int) (f : Bool) (HC : ∀ W, Hid (Calls Tryz.prog 132 #[.string ((bs l).extract 1 p1)] W fun e w' => e = .returned (.tuple #[.int .i64 c, .bool f]) ∧ Below W.heap.size W w')) (ok : Bool) (m : Nat) (HM : Hid (p3 - p2 = m))
    (HO : Hid ((decide (1 ≤ p1 - 1) && decide (p1 - 1 ≤ 3) && decide (1 ≤ m) && decide (m ≤ 7) && decide (¬ (bs l)[p2]? = some 48) && decide (p3 = (bs l).size)) = ok)) (w : World) :
    Calls Tryz.prog 103 #[.string (bs l)] w fun e w' => e = cellE c f (q m) true true ok ∧ Below w.heap.size w w' := by
  have t0 : (0 : Int) < ((bs l).size : Int) := by omega
  have hle1 : 1 ≤ p1 := HP.out.le1
  have hle3 : p2 ≤ p3 := HP.out.le3
  have hend3 : p3 ≤ (bs l).size := HP.out.end3
  have hdg : ∀ (x : UInt8) (W : World), Hid (Calls Tryz.prog 131 #[.int .u8 (x.toNat : Int)] W fun e w' => e = .returned (.bool (digB x)) ∧ w' = W) := fun x W => cdigit_any x W
  go_enter Tryz.func103, Tryz.ntmps103
  go_upto_block 0 with fail
  go_cut [6] (fun v6 wx => v6 = .int .i64 (p1 : Int) ∧ Hid (RowsAt w wx 0 true false))
  case first =>
    go_wp2_with fail
    go_loopw [6] (fun v6 wr => ∃ k : Nat, 1 ≤ k ∧ k ≤ p1 ∧ v6 = .int .i64 (k : Int) ∧ Hid (RowsAt w wr 0 true false)) (fun v6 _ => p1 - (intOf v6).toNat)
    case atStart => exact ⟨1, Nat.le_refl _, hle1, rfl, two_rows w _ _ _ _ _ (Below.refl _ _)⟩
    case round =>
      obtain ⟨k, hk0, hk1, rfl, HR⟩ := hrel
      by_cases hlt : k < p1
      · obtain ⟨hk, ha, hb⟩ := HP.out.cap k hk0 hlt
        have t1 : (65 : Int) ≤ ((bs l)[k].toNat : Int) := by omega
        have t2 : ((bs l)[k].toNat : Int) ≤ 90 := by omega
        have HK : Hid (k < p1) := hlt
        clear ha hb hlt
        go_wp2
        go_roundw
        case rel => exact ⟨k + 1, by have := HK.out; omega, by have := HK.out; omega, by go_num, HR⟩
        case measure => have := HK.out; simp [intOf]; omega
      · obtain rfl : p1 = k := by omega
        have hn := HP.out.capE h1
        by_cases c1 : 65 ≤ (bs l)[p1].toNat
        · have t1 : (65 : Int) ≤ ((bs l)[p1].toNat : Int) := by omega
          have t2 : ¬ ((bs l)[p1].toNat : Int) ≤ 90 := by omega
          clear hn c1
          go_wp2
          go_meet
          exact ⟨rfl, HR⟩
        · have t1 : ¬ (65 : Int) ≤ ((bs l)[p1].toNat : Int) := by omega
          clear hn c1
          go_wp2
          go_meet
          exact ⟨rfl, HR⟩
  case rest =>
    obtain ⟨rfl, HR⟩ := hcut
    obtain ⟨hZ, hA, hB⟩ := HR.out
    obtain ⟨a0, a1, a2, a3, a4⟩ := hA.five
    have fA := hA.frozen
    have lA := hA.lt
    clear HR
    have hsl : (1 : Int) ≤ (p1 : Int) := by omega
    have hsm : (p1 : Int) ≤ ((bs l).size : Int) := by omega
    have hln : (((bs l).extract 1 p1).size : Int) = ((p1 - 1 : Nat) : Int) := by simp; omega
    have HN : Hid ((((bs l).extract 1 p1).size : Int) = ((p1 - 1 : Nat) : Int)) := hln
    clear hln
    have HR : Hid (RowsAt w (wc.setCell ⟨w.heap.size + 1, 4, none⟩ (.bool true)) 0 true true) := ⟨hZ.off (B' := w.heap.size + 1) 4 (.bool true) (by omega), hA.set 4 (.bool true), below_set hB (B := w.heap.size + 1) 4 (.bool true) (by omega)⟩
    clear hZ hB hA
    go_upto_block 2 with fail
    clear a0 a1 a2 a3 a4 fA lA
    go_cut [6] (fun v6 wx => v6 = .int .i64 (p3 : Int) ∧ Hid (RowsAt w wx (q (min (p3 - p2) 7) : Nat) true true))
    case first =>
      go_wp2_with fail
      go_loopw [6] (fun v6 wr => ∃ k : Nat, p2 ≤ k ∧ k ≤ p3 ∧ v6 = .int .i64 (k : Int) ∧ Hid (RowsAt w wr (q (min (k - p2) 7) : Nat) true true)) (fun v6 _ => p3 - (intOf v6).toNat)
      case atStart => exact ⟨p2, Nat.le_refl _, hle3, rfl, by rw [Nat.sub_self, Nat.zero_min, HP.out.q0]; exact HR⟩
      case round =>
        clear HR
        obtain ⟨k, hk0, hk1, rfl, HR⟩ := hrel
        by_cases hlt : k < p3
        · obtain ⟨hk, hd⟩ := HP.out.dig k hk0 hlt
          have HD := hdg ((bs l)[k]'hk) wr
          rw [hd] at HD
          have hd2 := digB_of hd
          have HK : Hid (k < p3) := hlt
          have hqs := HP.out.qs k hk0 hlt hk
          obtain ⟨j, hm⟩ : ∃ j, k - p2 = j := ⟨_, rfl⟩
          rw [hm] at HR hqs
          have hqb := HP.out.qb
          by_cases h7 : j < 7
          · have t7 : (k : Int) - (p2 : Int) < 7 := by omega
            have e1 : min j 7 = j := by omega
            rw [e1] at HR
            have b1 := hqb j (by omega)
            have e3 : min (k + 1 - p2) 7 = j + 1 := by omega
            obtain ⟨u, hu⟩ : ∃ u, q j = u := ⟨_, rfl⟩
            rw [hu] at HR hqs b1
            obtain ⟨x, hx⟩ : ∃ x : Nat, ((bs l)[k]'hk).toNat = x := ⟨_, rfl⟩
            rw [hx] at hd2 hqs
            obtain ⟨hZ, hA, hB⟩ := HR.out
            have HR2 : Hid (RowsAt w (wr.setCell ⟨w.heap.size + 1, 2, none⟩ (.int .i64 ((u * 10 + (x - 48) : Nat) : Int))).drew ((q (min (k + 1 - p2) 7) : Nat) : Int) true true) := by
              rw [e3, hqs]
              exact ⟨hZ.off (B' := w.heap.size + 1) 2 _ (by omega), hA.set 2 _, (below_set hB (B := w.heap.size + 1) 2 _ (by omega)).drew⟩
            have hc2 : wr.cell? ⟨w.heap.size + 1, 2, none⟩ = some (.int .i64 (u : Int)) := hA.five.2.2.1
            have fA := hA.frozen
            have lA := hA.lt
            have HX : Hid (((bs l)[k]'hk).toNat = x) := hx
            clear hx hqs HR hZ hA hB hd hqb e1 e3 hm hu hlt hk1
            go_wp2_with fail
            refine Calls.mono HD.out ?_
            rintro _ w5 ⟨rfl, hw5⟩
            rw [hw5]
            clear hw5 w5
            go_wp2_with fail
            have hS : (wr.drew).cell? ⟨w.heap.size + 1, 2, none⟩ = some (.int .i64 (u : Int)) := hc2
            refine wp_region_M (fun W => W.cell? ⟨w.heap.size + 1, 2, none⟩ = some (.int .i64 (u : Int))) (fun i => decide (i ≠ 10)) 11 rfl (by kernel_rfl) ?_
            refine wpM_held 0 (v := .pointer (some ⟨w.heap.size + 1, 2, none⟩)) rfl (by kernel_rfl) (by kernel_rfl) rfl (fun _ _ _ h => h) rfl (by intro wx hx; go_simp <;> rfl) hS ?_
            refine wpM_held 1 (v := .int .i64 (u : Int)) rfl (by kernel_rfl) (by kernel_rfl) rfl (fun _ _ _ h => h) rfl (by intro wx hx; go_simp <;> rfl) hS ?_
            refine wpM_held 2 (v := .int .i64 ((u * 10 : Nat) : Int)) rfl (by kernel_rfl) (by kernel_rfl) rfl (fun _ _ _ h => h) rfl (by intro wx hx; go_simp <;> (simp [IntKind.wrap, IntKind.bits, IntKind.signed]; omega)) hS ?_
            refine wpM_held 3 (v := .string (bs l)) rfl (by kernel_rfl) (by kernel_rfl) rfl (fun _ _ _ h => h) rfl (by intro wx hx; go_simp <;> rfl) hS ?_
            refine wpM_held 4 (v := .int .i64 (k : Int)) rfl (by kernel_rfl) (by kernel_rfl) rfl (fun _ _ _ h => h) rfl (by intro wx hx; go_simp <;> rfl) hS ?_
            refine wpM_held 5 (v := .int .u8 (x : Int)) rfl (by kernel_rfl) (by kernel_rfl) rfl (fun _ _ _ h => h) rfl (by intro wx hx; go_simp; rw [HX.out]) hS ?_
            refine wpM_held 6 (v := .int .u8 ((x - 48 : Nat) : Int)) rfl (by kernel_rfl) (by kernel_rfl) rfl (fun _ _ _ h => h) rfl (by intro wx hx; go_simp <;> (simp [IntKind.wrap, IntKind.bits, IntKind.signed]; omega)) hS ?_
            refine wpM_held 7 (v := .int .i64 ((x - 48 : Nat) : Int)) rfl (by kernel_rfl) (by kernel_rfl) rfl (fun _ _ _ h => h) rfl (by intro wx hx; go_simp <;> (simp [IntKind.wrap, IntKind.bits, IntKind.signed]; omega)) hS ?_
            refine wpM_held 8 (v := .int .i64 ((u * 10 + (x - 48) : Nat) : Int)) rfl (by kernel_rfl) (by kernel_rfl) rfl (fun _ _ _ h => h) rfl (by intro wx hx; go_simp <;> (simp [IntKind.wrap, IntKind.bits, IntKind.signed]; omega)) hS ?_
            refine wpM_held 9 (v := .pointer (some ⟨w.heap.size + 1, 2, none⟩)) rfl (by kernel_rfl) (by kernel_rfl) rfl (fun _ _ _ h => h) rfl (by intro wx hx; go_simp <;> rfl) hS ?_
            refine wpM_one 10 rfl (by kernel_rfl) rfl ?_
            go_wp2_with fail
            refine ⟨(fun h => by simp at h), ?_⟩
            refine wpM_done (by kernel_rfl) ?_
            go_wp2
            go_roundw
            case rel => exact ⟨k + 1, by omega, HK.out, by go_num, HR2⟩
            case measure => have := HK.out; simp [intOf]; omega
          · have t7 : decide ((k : Int) - (p2 : Int) < 7) = false := decide_eq_false (by omega)
            have e1 : min (k + 1 - p2) 7 = min j 7 := by omega
            have HR2 : Hid (RowsAt w wr ((q (min (k + 1 - p2) 7) : Nat) : Int) true true) := by rw [e1]; exact HR
            clear hqs HR hd hqb e1 hm hlt hk1 hd2
            go_wp2_with fail
            refine Calls.mono HD.out ?_
            rintro _ w5 ⟨rfl, hw5⟩
            rw [hw5]
            clear hw5 w5
            go_wp2
            go_roundw
            case rel => exact ⟨k + 1, by omega, HK.out, by go_num, HR2⟩
            case measure => have := HK.out; simp [intOf]; omega
        · obtain rfl : p3 = k := by omega
          by_cases h3 : p3 < (bs l).size
          · have HD := hdg ((bs l)[p3]'h3) wr
            rw [HP.out.digE h3] at HD
            go_wp2_with fail
            refine Calls.mono HD.out ?_
            rintro _ w5 ⟨rfl, hw5⟩
            rw [hw5]
            clear hw5 w5
            go_wp2
            go_meet
            exact ⟨rfl, HR⟩
          · go_wp2
            go_meet
            exact ⟨rfl, HR⟩
    case rest =>
      clear HR
      obtain ⟨rfl, HR⟩ := hcut
      have hm := HM.out
      have hw1 : (p3 : Int) - (p2 : Int) = (m : Int) := by omega
      rw [hm] at HR
      obtain ⟨n, hn⟩ : ∃ n, p1 - 1 = n := ⟨_, rfl⟩
      rw [hn] at HN HO
      generalize (bs l).extract 1 p1 = S at HC HN ⊢
      have hlen := HN.out
      obtain ⟨hZ, hA, hB⟩ := HR.out
      obtain ⟨z0, z1, z2, z3, z4⟩ := hZ.five
      have fZ := hZ.frozen
      have lZ := hZ.lt
      have hz5 := hZ.set5 (.string .empty) (.int .i64 0) (.int .i64 0) (.bool false) (.bool false)
      have hb5 := below_set5 hB (B' := w.heap.size) (Nat.le_refl _) (.string .empty) (.int .i64 0) (.int .i64 0) (.bool false) (.bool false)
      clear hm hn HP
      have hgood : ∀ (x : Bool), false = x → ok = false → x = ok := fun _ h1 h2 => by rw [← h1, h2]
      clear hgood
      by_cases x1 : n < 1
      · have t1 : (n : Int) < 1 := by omega
        obtain rfl : false = ok := by rw [← HO.out, decide_eq_false (show ¬ 1 ≤ n by omega)]; rfl
        clear x1 HO
        go_wp2
        exact bodyPost_ret (ret_three_b (u := 3) (u2 := 4) rfl (g := w.heap.size) rfl rfl rfl (load23 hz5 rfl)) rfl ⟨rfl, hb5⟩
      have t1 : ¬ (n : Int) < 1 := by omega
      by_cases x2 : n ≤ 3
      case neg =>
        have t2 : (3 : Int) < (n : Int) := by omega
        obtain rfl : false = ok := by rw [← HO.out, decide_eq_false x2]; simp
        clear x1 x2 HO
        go_wp2
        exact bodyPost_ret (ret_three_b (u := 3) (u2 := 4) rfl (g := w.heap.size) rfl rfl rfl (load23 hz5 rfl)) rfl ⟨rfl, hb5⟩
      have t2 : ¬ (3 : Int) < (n : Int) := by omega
      by_cases x3 : m < 1
      · have t3 : (m : Int) < 1 := by omega
        obtain rfl : false = ok := by rw [← HO.out, decide_eq_false (show ¬ 1 ≤ m by omega)]; simp
        clear x1 x2 x3 HO
        go_wp2
        exact bodyPost_ret (ret_three_b (u := 3) (u2 := 4) rfl (g := w.heap.size) rfl rfl rfl (load23 hz5 rfl)) rfl ⟨rfl, hb5⟩
      have t3 : ¬ (m : Int) < 1 := by omega
      have h2 : p2 < (bs l).size := by have := HM.out; omega
      by_cases x4 : m ≤ 7
      case neg =>
        have t4 : (7 : Int) < (m : Int) := by omega
        obtain rfl : false = ok := by rw [← HO.out, decide_eq_false x4]; simp
        clear x1 x2 x3 x4 HO
        go_wp2
        exact bodyPost_ret (ret_three_b (u := 3) (u2 := 4) rfl (g := w.heap.size) rfl rfl rfl (load23 hz5 rfl)) rfl ⟨rfl, hb5⟩
      have t4 : ¬ (7 : Int) < (m : Int) := by omega
      by_cases x5 : (bs l)[p2].toNat = 48
      · have t5 : (((bs l)[p2].toNat : Int) == 48) = true := by rw [x5]; rfl
        obtain rfl : false = ok := by
          have e5 : (bs l)[p2]? = some 48 := by rw [ba_get h2, show (bs l)[p2] = 48 from UInt8.toNat_inj.1 x5]
          rw [← HO.out, e5]; simp
        clear x1 x2 x3 x4 x5 HO
        go_wp2
        exact bodyPost_ret (ret_three_b (u := 3) (u2 := 4) rfl (g := w.heap.size) rfl rfl rfl (load23 hz5 rfl)) rfl ⟨rfl, hb5⟩
      have t5 : (((bs l)[p2].toNat : Int) == 48) = false := beq_eq_false_iff_ne.2 (by omega)
      by_cases x6 : p3 < (bs l).size
      · have t6 : (p3 : Int) < ((bs l).size : Int) := by omega
        obtain rfl : false = ok := by rw [← HO.out, decide_eq_false (show ¬ p3 = (bs l).size by omega)]; simp
        clear x1 x2 x3 x4 x5 x6 HO
        go_wp2
        exact bodyPost_ret (ret_three_b (u := 3) (u2 := 4) rfl (g := w.heap.size) rfl rfl rfl (load23 hz5 rfl)) rfl ⟨rfl, hb5⟩
      have t6 : ¬ (p3 : Int) < ((bs l).size : Int) := by omega
      obtain rfl : true = ok := by
        have e5 : ¬ (bs l)[p2]? = some 48 := by
          rw [ba_get h2]
          intro h
          exact x5 (by rw [Option.some.inj h]; rfl)
        rw [← HO.out, decide_eq_true (show 1 ≤ n by omega), decide_eq_true x2, decide_eq_true (show 1 ≤ m by omega), decide_eq_true x4, decide_eq_true e5, decide_eq_true (show p3 = (bs l).size by omega)]; rfl
      have e7 : min m 7 = m := by omega
      rw [e7] at hA
      have HZ : Hid (Row wc w.heap.size 32 _) := hZ
      have HA : Hid (Row wc (w.heap.size + 1) 32 _) := hA
      have HB : Hid (Below w.heap.size w wc) := hB
      clear x1 x2 x3 x4 x5 x6 HO e7 hZ hA hB HR hz5 hb5 z0 z1 z2 z3 z4 fZ lZ
      go_wp2_with fail
      refine Calls.mono (HC _).out ?_
      rintro _ w5 ⟨rfl, b5⟩
      have hZ := HZ.out.below b5 HZ.out.lt
      have hA := HA.out.below b5 HA.out.lt
      have hB := HB.out.trans (b5.mono HB.out.size)
      clear HZ HA HB b5 HC
      have hA1 : Row (w5.setCell ⟨w.heap.size + 1, 1, none⟩ (.int .i64 c)) (w.heap.size + 1) 32 #[.string .empty, .int .i64 c, .int .i64 ((q m : Nat) : Int), .bool true, .bool true] := hA.set 1 (.int .i64 c)
      have hZ1 := hZ.off (B' := w.heap.size + 1) 1 (.int .i64 c) (by omega)
      have hB1 := below_set hB (B := w.heap.size + 1) 1 (.int .i64 c) (by omega)
      obtain ⟨a0, a1, a2, a3, a4⟩ := hA.five
      have fA := hA.frozen
      have lA := hA.lt
      clear hZ hB
      go_wp2_with fail
      clear a0 a1 a2 a3 a4 fA lA hA
      generalize w5.setCell ⟨w.heap.size + 1, 1, none⟩ (.int .i64 c) = V at hA1 hZ1 hB1 ⊢
      obtain ⟨z0, z1, z2, z3, z4⟩ := Row.five (W := V.drew) hZ1
      have fZ := Row.frozen (W := V.drew) hZ1
      have lZ := Row.lt (W := V.drew) hZ1
      have hzE : Row (((((V.drew.setCell ⟨w.heap.size, 0, none⟩ (.string .empty)).setCell ⟨w.heap.size, 1, none⟩ (.int .i64 c)).setCell ⟨w.heap.size, 2, none⟩ (.int .i64 ((q m : Nat) : Int))).setCell ⟨w.heap.size, 3, none⟩ (.bool true)).setCell ⟨w.heap.size, 4, none⟩ (.bool true)) w.heap.size 32 #[.string .empty, .int .i64 c, .int .i64 ((q m : Nat) : Int), .bool true, .bool true] := Row.set5 (W := V.drew) hZ1 _ _ _ _ _
      have hBE : Below w.heap.size w (((((V.drew.setCell ⟨w.heap.size, 0, none⟩ (.string .empty)).setCell ⟨w.heap.size, 1, none⟩ (.int .i64 c)).setCell ⟨w.heap.size, 2, none⟩ (.int .i64 ((q m : Nat) : Int))).setCell ⟨w.heap.size, 3, none⟩ (.bool true)).setCell ⟨w.heap.size, 4, none⟩ (.bool true)) := below_set5 (W := V.drew) hB1.drew (Nat.le_refl _) _ _ _ _ _
      have hAE : Row (((((V.drew.setCell ⟨w.heap.size, 0, none⟩ (.string .empty)).setCell ⟨w.heap.size, 1, none⟩ (.int .i64 c)).setCell ⟨w.heap.size, 2, none⟩ (.int .i64 ((q m : Nat) : Int))).setCell ⟨w.heap.size, 3, none⟩ (.bool true)).setCell ⟨w.heap.size, 4, none⟩ (.bool true)) (w.heap.size + 1) 32 #[.string .empty, .int .i64 c, .int .i64 ((q m : Nat) : Int), .bool true, .bool true] := Row.off5 (W := V.drew) hA1 (by omega) _ _ _ _ _
      have hS : Row V.drew (w.heap.size + 1) 32 #[.string .empty, .int .i64 c, .int .i64 ((q m : Nat) : Int), .bool true, .bool true] := hA1
      clear hA1 hZ1 hB1
      cases f
      · refine wp_region_M (fun W => Row W (w.heap.size + 1) 32 #[.string .empty, .int .i64 c, .int .i64 ((q m : Nat) : Int), .bool true, .bool true]) (fun i => decide (i = 0) || decide (i = 7)) 10 rfl (by kernel_rfl) ?_
        generalize V.drew = U at hS hzE hBE hAE z0 z1 z2 z3 z4 fZ lZ ⊢
        refine wpM_free 1 (v := .bool false) rfl (by kernel_rfl) (by kernel_rfl) rfl (fun _ _ _ h => h) rfl (by intro wx; go_simp <;> rfl) ?_
        refine wpM_free 2 (v := .bool false) rfl (by kernel_rfl) (by kernel_rfl) rfl (fun _ _ _ h => h) rfl (by intro wx; go_simp <;> rfl) ?_
        refine wpM_skip 3 rfl (by kernel_rfl) (by kernel_rfl) rfl (fun _ _ _ h => h) rfl ?_
        refine wpM_skip 4 rfl (by kernel_rfl) (by kernel_rfl) rfl (fun _ _ _ h => h) rfl ?_
        refine wpM_skip 5 rfl (by kernel_rfl) (by kernel_rfl) rfl (fun _ _ _ h => h) rfl ?_
        refine wpM_free 6 (v := .bool false) rfl (by kernel_rfl) (by kernel_rfl) rfl (fun _ _ _ h => h) rfl (by intro wx; go_simp <;> rfl) ?_
        refine wpM_held 0 (v := .agg #[.string .empty, .int .i64 c, .int .i64 ((q m : Nat) : Int), .bool true, .bool true]) rfl (by kernel_rfl) (by kernel_rfl) rfl (fun _ _ _ h => h) rfl (by intro wx hx; obtain ⟨g0, g1, g2, g3, g4⟩ := hx.five; go_simp <;> rfl) hS ?_
        refine wpM_one 7 rfl (by kernel_rfl) rfl ?_
        go_wp2_with fail
        refine ⟨fun _ => hAE, ?_⟩
        refine wpM_one 8 rfl (by kernel_rfl) rfl ?_
        go_wp2_with fail
        refine ⟨(fun h => by simp at h), ?_⟩
        refine wpM_one 9 rfl (by kernel_rfl) rfl ?_
        go_wp2_with fail
        refine ⟨(fun h => by simp at h), ?_⟩
        refine wpM_done (by kernel_rfl) ?_
        go_wp2
        exact bodyPost_ret (ret_three_b (u := 3) (u2 := 4) rfl (g := w.heap.size) rfl rfl rfl (load23 hzE rfl)) rfl ⟨rfl, hBE⟩
      · refine wp_region_M (fun W => Row W (w.heap.size + 1) 32 #[.string .empty, .int .i64 c, .int .i64 ((q m : Nat) : Int), .bool true, .bool true]) (fun i => decide (i = 0) || decide (i = 7) || decide (i = 8)) 10 rfl (by kernel_rfl) ?_
        generalize V.drew = U at hS hzE hBE hAE z0 z1 z2 z3 z4 fZ lZ ⊢
        refine wpM_free 1 (v := .bool true) rfl (by kernel_rfl) (by kernel_rfl) rfl (fun _ _ _ h => h) rfl (by intro wx; go_simp <;> rfl) ?_
        refine wpM_free 2 (v := .bool true) rfl (by kernel_rfl) (by kernel_rfl) rfl (fun _ _ _ h => h) rfl (by intro wx; go_simp <;> rfl) ?_
        refine wpM_free 3 (v := .pointer (some ⟨w.heap.size + 1, 2, none⟩)) rfl (by kernel_rfl) (by kernel_rfl) rfl (fun _ _ _ h => h) rfl (by intro wx; go_simp <;> rfl) ?_
        refine wpM_held 4 (v := .int .i64 ((q m : Nat) : Int)) rfl (by kernel_rfl) (by kernel_rfl) rfl (fun _ _ _ h => h) rfl (by intro wx hx; obtain ⟨g0, g1, g2, g3, g4⟩ := hx.five; go_simp <;> rfl) hS ?_
        refine wpM_free 5 (v := .bool (decide (((q m : Nat) : Int) ≤ 512))) rfl (by kernel_rfl) (by kernel_rfl) rfl (fun _ _ _ h => h) rfl (by intro wx; go_simp <;> rfl) ?_
        refine wpM_free 6 (v := .bool (decide (((q m : Nat) : Int) ≤ 512))) rfl (by kernel_rfl) (by kernel_rfl) rfl (fun _ _ _ h => h) rfl (by intro wx; go_simp <;> rfl) ?_
        refine wpM_held 0 (v := .agg #[.string .empty, .int .i64 c, .int .i64 ((q m : Nat) : Int), .bool true, .bool true]) rfl (by kernel_rfl) (by kernel_rfl) rfl (fun _ _ _ h => h) rfl (by intro wx hx; obtain ⟨g0, g1, g2, g3, g4⟩ := hx.five; go_simp <;> rfl) hS ?_
        refine wpM_one 7 rfl (by kernel_rfl) rfl ?_
        go_wp2_with fail
        refine ⟨fun _ => hAE, ?_⟩
        refine wpM_one 8 rfl (by kernel_rfl) rfl ?_
        go_wp2_with fail
        refine ⟨fun _ => hAE, ?_⟩
        refine wpM_one 9 rfl (by kernel_rfl) rfl ?_
        go_wp2_with fail
        refine ⟨(fun h => by simp at h), ?_⟩
        refine wpM_done (by kernel_rfl) ?_
        go_wp2
        exact bodyPost_ret (ret_three_b (u := 3) (u2 := 4) rfl (g := w.heap.size) rfl rfl rfl (load23 hzE rfl)) rfl ⟨rfl, hBE⟩

end Go.Proofs.YtgihginfegckcaaGreatDoor
