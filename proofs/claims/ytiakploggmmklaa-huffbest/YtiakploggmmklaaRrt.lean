/- The document's space, Right, Full; the program's Full. -/
import Derived.Test.YtiakploggmmklaaSpc
namespace Go.Proofs.Ytiakploggmmklaa
open Go.RowKit

set_option maxRecDepth 100000 in
theorem spS_bd (zs : List Int) (k : Nat) : (spS zs k).1 ≤ k * 32768 ∧ (spS zs k).2 ≤ k := by
  induction k with
  | zero => exact ⟨Nat.le_refl _, Nat.le_refl _⟩
  | succ k ih =>
    rw [spS]
    have h1 : (2 : Nat) ^ (15 - (zs[k]?.getD 0).toNat) ≤ 32768 := Nat.le_trans (Nat.pow_le_pow_right (n := 2) (by omega) (show 15 - (zs[k]?.getD 0).toNat ≤ 15 by omega)) (by decide)
    generalize (2 : Nat) ^ (15 - (zs[k]?.getD 0).toNat) = P at h1
    split
    · simp only
      omega
    · omega

set_option maxRecDepth 100000 in
set_option maxHeartbeats 2000000 in
theorem space_any (S : Nat → Prop) (a : Option Addr) (cap : Nat) (zs : List Int) (w : World) (hI : IntsIn S w (.slice a zs.length cap) zs) (hl : zs.length ≤ 320) (hr : inRange zs) (s n : Nat) (HS : Hid (spS zs zs.length = (s, n))) :
    Calls Try.prog 15 #[.slice a zs.length cap] w fun e w' => e = .returned (.tuple #[.int .i64 (s : Int), .int .i64 (n : Int)]) ∧ w' = w := by
  go_enter Try.func15, Try.ntmps15
  go_wp2
  go_loop [4, 5, 6] (fun v4 v5 v6 => ∃ k : Nat, k ≤ zs.length ∧ v6 = .int .i64 k ∧ v4 = .int .i64 ((spS zs k).1 : Int) ∧ v5 = .int .i64 ((spS zs k).2 : Int)) (fun _ _ v6 => zs.length - (intOf v6).toNat)
  case atStart => exact ⟨0, Nat.zero_le _, rfl, rfl, rfl⟩
  case round =>
    obtain ⟨k, hk, rfl, rfl, rfl⟩ := hrel
    by_cases hlt : k < zs.length
    · obtain ⟨b, off, rfl, _, hc⟩ := hI.at k hlt
      have e : zs[k]?.getD 0 = zs[k] := by simp [hlt]
      have hb := hr _ (List.getElem_mem hlt)
      obtain ⟨m, hm⟩ := Int.eq_ofNat_of_zero_le hb.1
      have hm15 : m ≤ 15 := by omega
      rw [e, hm] at hc
      have hsp : spS zs (k + 1) = if 0 < m then ((spS zs k).1 + 2 ^ (15 - m), (spS zs k).2 + 1) else spS zs k := by
        rw [spS, e, hm, Int.toNat_natCast]
        by_cases h0 : 0 < m
        · rw [if_pos (by omega), if_pos h0]
        · rw [if_neg (by omega), if_neg h0]
      have HSP : Hid _ := hsp
      have hbd := spS_bd zs k
      have k1 : (k : Int) < zs.length := by omega
      clear hsp e hb hm hr hI
      generalize hst : spS zs k = st at hbd HSP ⊢
      obtain ⟨s1, n1⟩ := st
      simp only at hbd ⊢
      by_cases h0 : 0 < m
      · have h0z : (0 : Int) < m := by omega
        have hsub : (15 : Int) - m = ((15 - m : Nat) : Int) := by omega
        have hp : (2 : Nat) ^ (15 - m) ≤ 2 ^ 15 := Nat.pow_le_pow_right (by omega) (by omega)
        have hp0 : 0 < (2 : Nat) ^ (15 - m) := Nat.pow_pos (by omega)
        have hpz : (2 : Int) ^ (15 - m) = ((2 ^ (15 - m) : Nat) : Int) := by simp
        have HE : Hid (spS zs (k + 1) = (s1 + 2 ^ (15 - m), n1 + 1)) := by show _ = _; rw [show spS zs (k + 1) = _ from HSP.out, if_pos h0]
        clear HSP hst
        generalize (2 : Nat) ^ (15 - m) = P at hp hp0 hpz HE
        go_wp2
        exact ⟨⟨k + 1, by omega, by simp, by rw [HE.out]; simp, by rw [HE.out]; simp⟩, by simp [intOf]; omega⟩
      · have h0z : ¬ (0 : Int) < m := by omega
        have HE : Hid (spS zs (k + 1) = (s1, n1)) := by show _ = _; rw [show spS zs (k + 1) = _ from HSP.out, if_neg h0]
        clear HSP hst
        go_wp2
        exact ⟨⟨k + 1, by omega, by simp, by rw [HE.out], by rw [HE.out]⟩, by simp [intOf]; omega⟩
    · obtain rfl : k = zs.length := by omega
      have e := HS.out
      rw [e]
      clear hI hr e HS
      go_wp2
      exact bodyPost_ret (v := .tuple #[.int .i64 (s : Int), .int .i64 (n : Int)]) (by simp [results, Try.f15, go_sem]) rfl ⟨rfl, rfl⟩
set_option maxRecDepth 100000 in
set_option maxHeartbeats 2000000 in
theorem refRight_r (r : Int) (S : Nat → Prop) (a : Option Addr) (cap : Nat) (zs : List Int) (HR : Hid (r = errOf zs)) (w : World) (hI : IntsIn S w (.slice a zs.length cap) zs) :
    Calls Try.prog 6 #[.slice a zs.length cap] w fun e w' => e = .returned (.int .i64 r) ∧ w' = w := by
  by_cases hn : 320 < zs.length
  · have hnz : (320 : Int) < zs.length := by omega
    obtain rfl : r = 1 := by rw [show r = _ from HR.out, errOf, if_neg (fun h => by have := h.1; omega)]
    clear HR
    go_enter Try.func6, Try.ntmps6
    go_wp2
    go_ret
    exact ⟨rfl, rfl⟩
  have hnz : ¬ (320 : Int) < zs.length := by omega
  go_enter Try.func6, Try.ntmps6
  go_wp2
  go_loop [3] (fun v3 => ∃ k : Nat, k ≤ zs.length ∧ v3 = .int .i64 k ∧ inRange (zs.take k)) (fun v3 => zs.length - (intOf v3).toNat)
  case atStart => exact ⟨0, Nat.zero_le _, rfl, fun z hz => by simp at hz⟩
  case round =>
    obtain ⟨k, hk, rfl, hrg⟩ := hrel
    by_cases hlt : k < zs.length
    · obtain ⟨b, off, rfl, _, hc⟩ := hI.at k hlt
      have e : zs[k]?.getD 0 = zs[k] := by simp [hlt]
      rw [e] at hc
      have k1 : (k : Int) < zs.length := by omega
      have HM : Hid (zs[k] ∈ zs) := List.getElem_mem hlt
      have HT : Hid (zs.take (k + 1) = zs.take k ++ [zs[k]]) := List.take_succ_eq_append_getElem hlt
      clear e hI
      generalize zs[k] = z at hc HM HT
      by_cases hbad : z < 0 ∨ 15 < z
      · obtain rfl : r = 1 := by rw [show r = _ from HR.out, errOf, if_neg (fun h => by have := h.2 z HM.out; omega)]
        clear HR HM HT hrg
        rcases hbad with h | h
        · go_wp2
          go_ret
          exact ⟨rfl, rfl⟩
        · have h' : ¬ z < 0 := by omega
          go_wp2
          go_ret
          exact ⟨rfl, rfl⟩
      · have g1 : ¬ z < 0 := by omega
        have g2 : ¬ 15 < z := by omega
        have HRG : Hid (inRange (zs.take (k + 1))) := by
          intro y hy
          rw [HT.out] at hy
          rcases List.mem_append.1 hy with h | h
          · exact hrg y h
          · simp at h; omega
        clear HT HM hrg hbad
        go_wp2
        exact ⟨⟨k + 1, by omega, by simp, HRG.out⟩, by simp [intOf]; omega⟩
    · obtain rfl : k = zs.length := by omega
      rw [List.take_length] at hrg
      have hok : okLen zs := ⟨by omega, hrg⟩
      have hsp := spS_spec zs hrg zs.length (Nat.le_refl _)
      rw [List.take_length] at hsp
      have hspc := space_any S a cap zs w hI (by omega) hrg _ _ hsp
      have hrr : r = if rightB zs then 0 else 11 := by rw [show r = _ from HR.out, errOf, if_pos hok]
      rw [right_same] at hrr
      have HRR : Hid _ := hrr
      have HSPC : Hid _ := hspc
      clear hrr hspc hsp hrg hok HR hI hk hlt
      go_wp2_with fail
      refine Calls.mono HSPC.out ?_
      rintro e w' ⟨rfl, rfl⟩
      clear HSPC
      generalize room zs 15 = R at HRR
      generalize nsum zs 15 = N at HRR
      by_cases c1 : R = 32768
      · have t1 : ((R : Int) == 32768) = true := by simp; omega
        obtain rfl : r = 0 := by rw [show r = _ from HRR.out]; simp [c1]
        clear HRR c1
        go_wp2
        go_ret
        exact ⟨rfl, rfl⟩
      · have t1 : ((R : Int) == 32768) = false := by simp; omega
        by_cases c2 : N = 0
        · have t2 : ((N : Int) == 0) = true := by simp; omega
          obtain rfl : r = 0 := by rw [show r = _ from HRR.out]; simp [c2]
          clear HRR c2
          go_wp2
          go_ret
          exact ⟨rfl, rfl⟩
        · have t2 : ((N : Int) == 0) = false := by simp; omega
          by_cases c3 : N = 1
          · have t3 : ((N : Int) == 1) = true := by simp; omega
            by_cases c4 : R = 16384
            · have t4 : ((R : Int) == 16384) = true := by simp; omega
              obtain rfl : r = 0 := by rw [show r = _ from HRR.out]; simp [c3, c4]
              clear HRR c1 c2 c3 c4
              go_wp2
              go_ret
              exact ⟨rfl, rfl⟩
            · have t4 : ((R : Int) == 16384) = false := by simp; omega
              obtain rfl : r = 11 := by rw [show r = _ from HRR.out]; simp [c1, c2, c4]
              clear HRR c1 c2 c3 c4
              go_wp2
              go_ret
              exact ⟨rfl, rfl⟩
          · have t3 : ((N : Int) == 1) = false := by simp; omega
            obtain rfl : r = 11 := by rw [show r = _ from HRR.out]; simp [c1, c2, c3]
            clear HRR c1 c2 c3
            go_wp2
            go_ret
            exact ⟨rfl, rfl⟩
theorem refRight_any (S : Nat → Prop) (a : Option Addr) (cap : Nat) (zs : List Int) (w : World) (hI : IntsIn S w (.slice a zs.length cap) zs) :
    Calls Try.prog 6 #[.slice a zs.length cap] w fun e w' => e = .returned (.int .i64 (errOf zs)) ∧ w' = w := refRight_r _ S a cap zs rfl w hI
end Go.Proofs.Ytiakploggmmklaa
