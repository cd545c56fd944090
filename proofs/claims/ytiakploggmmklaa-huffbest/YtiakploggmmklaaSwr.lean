/- slices: a range is swapped, a stretch is turned round, in memory. -/
import Derived.Test.YtiakploggmmklaaIns
import Derived.Test.YtiakploggmmklaaSms
import Derived.BigRegion
namespace Go.Proofs.Ytiakploggmmklaa
open Go.RowKit

theorem ord_gt {W : World} {G : Nat} {l : List Int} (h : OrdIn W G l) {i : Nat} (hi : i < l.length) : W.cell? ⟨G, i, none⟩ = some (.int .i64 (gt l i)) := h.cell i hi
theorem ord_sw {W : World} {G : Nat} {l : List Int} (h : OrdIn W G l) (i j : Nat) : OrdIn ((W.setCell ⟨G, i, none⟩ (.int .i64 (gt l j))).setCell ⟨G, j, none⟩ (.int .i64 (gt l i))) G (sw l i j) := (h.set i _).set j _
theorem kept_sw {W : World} {G i j : Nat} (u v : Value) : Kept (fun k => k ≠ G) W ((W.setCell ⟨G, i, none⟩ u).setCell ⟨G, j, none⟩ v) := ((Kept.refl _ W).setCell (p := ⟨G, i, none⟩) (by simp) _).setCell (p := ⟨G, j, none⟩) (by simp) _

set_option maxRecDepth 100000 in
set_option maxHeartbeats 4000000 in
theorem swapRange_any (GO cap a b n : Nat) (f : Value) (l : List Int) (w : World) (hO : OrdIn w GO l) (h1 : a + n ≤ b) (h2 : b + n ≤ l.length) (hn : l.length ≤ 100000) :
    Calls Try.prog 32 #[.slice (some ⟨GO, 0, none⟩) l.length cap, .int .i64 a, .int .i64 b, .int .i64 n, f] w fun e w' =>
      e = .returned (.tuple #[]) ∧ OrdIn w' GO (swR l a b n) ∧ Kept (fun k => k ≠ GO) w w' := by
  go_enter Try.func32, Try.ntmps32
  go_wp2
  go_loopw [10] (fun v wr => ∃ k : Nat, k ≤ n ∧ v = .int .i64 (k : Int) ∧ Hid (OrdIn wr GO (swR l a b k)) ∧ Hid (Kept (fun k => k ≠ GO) w wr)) (fun v _ => n - (intOf v).toNat)
  case atStart => exact ⟨0, Nat.zero_le _, rfl, hO, Kept.refl _ _⟩
  case round =>
    obtain ⟨k, hk, rfl, HO, HK⟩ := hrel
    by_cases hlt : k < n
    · have hlen := swR_len l a b k
      have c1 := ord_gt HO.out (i := a + k) (by omega)
      have c2 := ord_gt HO.out (i := b + k) (by omega)
      have f1 := HO.out.frozen (a + k)
      have f2 := HO.out.frozen (b + k)
      have HS : Hid _ := ord_sw HO.out (a + k) (b + k)
      have HN : Hid (sw (swR l a b k) (a + k) (b + k) = swR l a b (k + 1)) := rfl
      have HKK : Hid _ := HK.out.trans (kept_sw (W := wr) (G := GO) (i := a + k) (j := b + k) (.int .i64 (gt (swR l a b k) (b + k))) (.int .i64 (gt (swR l a b k) (a + k))))
      rw [HN.out] at HS
      generalize gt (swR l a b k) (a + k) = x at c1 HS HKK
      generalize gt (swR l a b k) (b + k) = y at c2 HS HKK
      clear HO HK hlen HN hO
      go_wp2
      go_region
      all_goals go_wp2
      exact ⟨⟨k + 1, by omega, by simp, HS.out, HKK.out.drew⟩, by simp [intOf]; omega⟩
    · obtain rfl : k = n := by omega
      clear hO
      go_wp2
      go_end0
      exact ⟨rfl, HO.out, HK.out⟩

set_option maxRecDepth 100000 in
set_option maxHeartbeats 4000000 in
theorem rotate_any (GO cap a m b : Nat) (f : Value) (l : List Int) (w : World) (hO : OrdIn w GO l) (h1 : a < m) (h2 : m < b) (h3 : b ≤ l.length) (hn : l.length ≤ 100000) :
    Calls Try.prog 30 #[.slice (some ⟨GO, 0, none⟩) l.length cap, .int .i64 a, .int .i64 m, .int .i64 b, f] w fun e w' =>
      e = .returned (.tuple #[]) ∧ ∃ l', OrdIn w' GO l' ∧ Rot a m b l l' ∧ Kept (fun k => k ≠ GO) w w' := by
  go_enter Try.func30, Try.ntmps30
  go_wp2_with fail
  go_loopw [10, 11] (fun v10 v11 wr => ∃ (i j : Nat) (lc : List Int), v10 = .int .i64 (i : Int) ∧ v11 = .int .i64 (j : Int) ∧ 1 ≤ i ∧ i ≤ m - a ∧ 1 ≤ j ∧ j ≤ b - m ∧ lc.length = l.length ∧ Hid (RotSt a m b i j l lc) ∧ Hid (OrdIn wr GO lc) ∧ Hid (Kept (fun k => k ≠ GO) w wr)) (fun v10 v11 _ => (intOf v10).toNat + (intOf v11).toNat)
  case atStart => exact ⟨m - a, b - m, l, congrArg (Value.int .i64) (by omega), congrArg (Value.int .i64) (by omega), by omega, by omega, by omega, by omega, rfl, RotSt.start l (by omega) (by omega), hO, Kept.refl _ _⟩
  case round =>
    obtain ⟨i, j, lc, rfl, rfl, i1, i2, j1, j2, hlen, HR, HO, HK⟩ := hrel
    clear hO
    by_cases hij : i = j
    · subst hij
      have HE : Hid _ := HR.out.end_ i2 j2 (by omega) (by omega) (by omega)
      have HC : Hid _ := swapRange_any GO cap (m - i) m i f lc wr HO.out (by omega) (by omega) (by omega)
      rw [hlen, show ((m - i : Nat) : Int) = (m : Int) - (i : Int) by omega] at HC
      clear HR HO
      go_wp2_with fail
      refine Calls.mono HC.out ?_
      rintro e w1 ⟨rfl, hO1, hK1⟩
      clear HC
      have HO1 : Hid _ := hO1
      have HK1 : Hid _ := HK.out.trans hK1
      clear hO1 hK1
      go_wp2
      go_end0
      exact ⟨rfl, _, HO1.out, HE.out, HK1.out⟩
    · have hijz : ¬ (i : Int) = (j : Int) := by omega
      by_cases hlt : j < i
      · have hltz : (j : Int) < (i : Int) := by omega
        have HE : Hid _ := HR.out.left i2 j2 (by omega) (by omega) (by omega) hlt
        have HC : Hid _ := swapRange_any GO cap (m - i) m j f lc wr HO.out (by omega) (by omega) (by omega)
        have hl2 : (swR lc (m - i) m j).length = l.length := by rw [swR_len]; exact hlen
        rw [hlen, show ((m - i : Nat) : Int) = (m : Int) - (i : Int) by omega] at HC
        clear HR HO
        generalize swR lc (m - i) m j = l2 at HC HE hl2
        go_wp2_with fail
        refine Calls.mono HC.out ?_
        rintro e w1 ⟨rfl, hO1, hK1⟩
        clear HC
        have HO1 : Hid _ := hO1
        have HK1 : Hid _ := HK.out.trans hK1
        clear hO1 hK1
        go_wp2
        exact ⟨⟨i - j, j, l2, congrArg (Value.int .i64) (by omega), rfl, by omega, by omega, j1, j2, hl2, HE, HO1, HK1⟩, by simp [intOf]; omega⟩
      · have hltz : ¬ (j : Int) < (i : Int) := by omega
        have HE : Hid _ := HR.out.right i2 j2 (by omega) (by omega) (by omega) (by omega)
        have HC : Hid _ := swapRange_any GO cap (m - i) (m + j - i) i f lc wr HO.out (by omega) (by omega) (by omega)
        have hl2 : (swR lc (m - i) (m + j - i) i).length = l.length := by rw [swR_len]; exact hlen
        rw [hlen, show ((m - i : Nat) : Int) = (m : Int) - (i : Int) by omega, show ((m + j - i : Nat) : Int) = (m : Int) + (j : Int) - (i : Int) by omega] at HC
        clear HR HO
        generalize swR lc (m - i) (m + j - i) i = l2 at HC HE hl2
        go_wp2_with fail
        refine Calls.mono HC.out ?_
        rintro e w1 ⟨rfl, hO1, hK1⟩
        clear HC
        have HO1 : Hid _ := hO1
        have HK1 : Hid _ := HK.out.trans hK1
        clear hO1 hK1
        go_wp2
        exact ⟨⟨i, j - i, l2, rfl, congrArg (Value.int .i64) (by omega), i1, i2, by omega, by omega, hl2, HE, HO1, HK1⟩, by simp [intOf]; omega⟩
end Go.Proofs.Ytiakploggmmklaa
