import Derived.Test.YtnblbakjfpfipaaGreatDoorPceM
import Derived.Deep.CutBlock
import Derived.Deep.DeepCutAuto
/- The document's cell, walked: one way into it. -/
namespace Go.Proofs.YtnblbakjfpfipaaGreatDoor
open Go.RowKit

set_option maxRecDepth 100000 in
set_option maxHeartbeats 2000000 in
theorem cell_fZ (l : List UInt8) (p1 p2 p3 : Nat) (q : Nat → Nat) (h0 : (bs l).size = 0) (HP : Hid (PlAt l 0 p1 p2 p3 q))
    (h1 : ¬ p1 < (bs l).size) (e2 : p2 = p1)
    (c : Int) (f : Bool) (HC : ∀ W, Hid (Calls Tryz.prog 7 #[.string ((bs l).extract 0 p1)] W fun e w' => e = .returned (.tuple #[.int .i64 c, .bool f]) ∧ Below W.heap.size W w')) (ok : Bool) (m : Nat) (HM : Hid (p3 - p2 = m))
    (HO : Hid ((decide (1 ≤ p1 - 0) && decide (p1 - 0 ≤ 3) && decide (1 ≤ m) && decide (m ≤ 7) && decide (¬ (bs l)[p2]? = some 48) && decide (p3 = (bs l).size)) = ok)) (w : World) :
    Calls Tryz.prog 44 #[.string (bs l)] w fun e w' => e = cellE c f (q m) false false ok ∧ Below w.heap.size w w' := by
  subst e2
  have t0 : ¬ (0 : Int) < ((bs l).size : Int) := by omega
  have hle1 : 0 ≤ p2 := HP.out.le1
  have hle3 : p2 ≤ p3 := HP.out.le3
  have hend3 : p3 ≤ (bs l).size := HP.out.end3
  have hdg : ∀ (x : UInt8) (W : World), Hid (Calls Tryz.prog 59 #[.int .u8 (x.toNat : Int)] W fun e w' => e = .returned (.bool (digB x)) ∧ w' = W) := fun x W => digit_any x W
  go_enter Tryz.func44, Tryz.ntmps44
  go_upto_block 0 with fail
  go_cut [6] (fun v6 wx => v6 = .int .i64 (p2 : Int) ∧ Hid (RowsAt w wx 0 false false))
  case first =>
    go_wp2_with fail
    go_loopw [6] (fun v6 wr => ∃ k : Nat, 0 ≤ k ∧ k ≤ p2 ∧ v6 = .int .i64 (k : Int) ∧ Hid (RowsAt w wr 0 false false)) (fun v6 _ => p2 - (intOf v6).toNat)
    case atStart => exact ⟨0, Nat.le_refl _, hle1, rfl, two_rows w _ _ _ _ _ (Below.refl _ _)⟩
    case round =>
      obtain ⟨k, hk0, hk1, rfl, HR⟩ := hrel
      by_cases hlt : k < p2
      · obtain ⟨hk, ha, hb⟩ := HP.out.cap k hk0 hlt
        exact absurd hk (by omega)
      · obtain rfl : p2 = k := by omega
        go_wp2
        go_meet
        exact ⟨rfl, HR⟩
  case rest =>
    obtain ⟨rfl, HR⟩ := hcut
    obtain ⟨hZ, hA, hB⟩ := HR.out
    obtain ⟨a0, a1, a2, a3, a4⟩ := hA.five
    have fA := hA.frozen
    have lA := hA.lt
    clear HR
    have hsl : (0 : Int) ≤ (p2 : Int) := by omega
    have hsm : (p2 : Int) ≤ ((bs l).size : Int) := by omega
    have hln : (((bs l).extract 0 p2).size : Int) = ((p2 - 0 : Nat) : Int) := by simp; omega
    have HN : Hid ((((bs l).extract 0 p2).size : Int) = ((p2 - 0 : Nat) : Int)) := hln
    clear hln
    have HR : Hid (RowsAt w wc 0 false false) := ⟨hZ, hA, hB⟩
    clear hZ hB hA
    go_upto_block 2 with fail
    clear a0 a1 a2 a3 a4 fA lA
    go_cut [6] (fun v6 wx => v6 = .int .i64 (p3 : Int) ∧ Hid (RowsAt w wx (q (min (p3 - p2) 7) : Nat) false false))
    case first =>
      go_wp2_with fail
      go_loopw [6] (fun v6 wr => ∃ k : Nat, p2 ≤ k ∧ k ≤ p3 ∧ v6 = .int .i64 (k : Int) ∧ Hid (RowsAt w wr (q (min (k - p2) 7) : Nat) false false)) (fun v6 _ => p3 - (intOf v6).toNat)
      case atStart => exact ⟨p2, Nat.le_refl _, hle3, rfl, by rw [Nat.sub_self, Nat.zero_min, HP.out.q0]; exact HR⟩
      case round =>
        clear HR
        obtain ⟨k, hk0, hk1, rfl, HR⟩ := hrel
        by_cases hlt : k < p3
        · obtain ⟨hk, hd⟩ := HP.out.dig k hk0 hlt
          exact absurd hk (by omega)
        · obtain rfl : p3 = k := by omega
          · go_wp2
            go_meet
            exact ⟨rfl, HR⟩
    case rest =>
      clear HR
      obtain ⟨rfl, HR⟩ := hcut
      have hm := HM.out
      have hw1 : (p3 : Int) - (p2 : Int) = (m : Int) := by omega
      rw [hm] at HR
      obtain ⟨n, hn⟩ : ∃ n, p2 - 0 = n := ⟨_, rfl⟩
      rw [hn] at HN HO
      generalize (bs l).extract 0 p2 = S at HC HN ⊢
      have hlen := HN.out
      obtain ⟨hZ, hA, hB⟩ := HR.out
      obtain ⟨z0, z1, z2, z3, z4⟩ := hZ.five
      have fZ := hZ.frozen
      have lZ := hZ.lt
      have hz5 := hZ.set5 (.string .empty) (.int .i64 0) (.int .i64 0) (.bool false) (.bool false)
      have hb5 := below_set5 hB (B' := w.heap.size) (Nat.le_refl _) (.string .empty) (.int .i64 0) (.int .i64 0) (.bool false) (.bool false)
      clear hm hn HP
      have hgood : ∀ (x : Bool), false = x → ok = false → x = ok := fun _ h1 h2 => by rw [← h1, h2]
      clear hgood
      by_cases x1 : n < 1
      · have t1 : (n : Int) < 1 := by omega
        obtain rfl : false = ok := by rw [← HO.out, decide_eq_false (show ¬ 1 ≤ n by omega)]; rfl
        clear x1 HO
        go_wp2
        exact bodyPost_ret (ret_three_b (u := 3) (u2 := 4) rfl (g := w.heap.size) rfl rfl rfl (load23 hz5 rfl)) rfl ⟨rfl, hb5⟩
      have t1 : ¬ (n : Int) < 1 := by omega
      by_cases x2 : n ≤ 3
      case neg =>
        have t2 : (3 : Int) < (n : Int) := by omega
        obtain rfl : false = ok := by rw [← HO.out, decide_eq_false x2]; simp
        clear x1 x2 HO
        go_wp2
        exact bodyPost_ret (ret_three_b (u := 3) (u2 := 4) rfl (g := w.heap.size) rfl rfl rfl (load23 hz5 rfl)) rfl ⟨rfl, hb5⟩
      have t2 : ¬ (3 : Int) < (n : Int) := by omega
      by_cases x3 : m < 1
      · have t3 : (m : Int) < 1 := by omega
        obtain rfl : false = ok := by rw [← HO.out, decide_eq_false (show ¬ 1 ≤ m by omega)]; simp
        clear x1 x2 x3 HO
        go_wp2
        exact bodyPost_ret (ret_three_b (u := 3) (u2 := 4) rfl (g := w.heap.size) rfl rfl rfl (load23 hz5 rfl)) rfl ⟨rfl, hb5⟩
      have t3 : ¬ (m : Int) < 1 := by omega
      have h2 : p2 < (bs l).size := by have := HM.out; omega
      exact absurd h2 (by omega)

end Go.Proofs.YtnblbakjfpfipaaGreatDoor
