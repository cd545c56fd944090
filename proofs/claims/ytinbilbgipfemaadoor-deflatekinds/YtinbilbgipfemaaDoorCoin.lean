import Derived.Test.YtinbilbgipfemaaDoorTabM
import Derived.Deep.OwnRows
import Derived.Deep.RegionHeld3
/- Coins in memory, and pairs: every two coins put together. -/
namespace Go.Proofs.YtinbilbgipfemaaDoor
open Go.RowKit

abbrev Coin := Int × Bool
def coinL (l : List Coin) : List Value := l.flatMap fun c => [.int .i64 c.1, .bool c.2]
def coinA (l : List Coin) : Array Value := (coinL l).toArray
theorem coinL_length (l : List Coin) : (coinL l).length = 2 * l.length := by
  induction l with
  | nil => rfl
  | cons c l ih => simp [coinL] at ih ⊢; omega
theorem coinL_cons (c : Coin) (l : List Coin) : coinL (c :: l) = .int .i64 c.1 :: .bool c.2 :: coinL l := rfl
theorem coinL_append (a b : List Coin) : coinL (a ++ b) = coinL a ++ coinL b := by simp [coinL]
theorem coinL_at (l : List Coin) (j : Nat) (h : j < l.length) : (coinL l)[j * 2]? = some (.int .i64 l[j].1) ∧ (coinL l)[j * 2 + 1]? = some (.bool l[j].2) := by
  induction l generalizing j with
  | nil => simp at h
  | cons c l ih =>
    cases j with
    | zero => simp [coinL_cons]
    | succ j =>
      have := ih j (by simpa using h)
      rw [coinL_cons]
      simpa [show (j + 1) * 2 = j * 2 + 1 + 1 by omega] using this
theorem coinL_set (l : List Coin) (j : Nat) (v : Int) (h : j < l.length) : (coinL l).set (j * 2) (.int .i64 v) = coinL (l.set j (v, l[j].2)) := by
  induction l generalizing j with
  | nil => simp at h
  | cons c l ih =>
    cases j with
    | zero => simp [coinL_cons]
    | succ j =>
      have := ih j (by simpa using h)
      rw [coinL_cons, show (j + 1) * 2 = j * 2 + 1 + 1 by omega]
      simp [coinL_cons, this]
theorem coinA_at0 (l : List Coin) (j : Nat) (h : j < l.length) : (coinA l)[j * 2]? = some (.int .i64 l[j].1) := by simpa [coinA] using (coinL_at l j h).1
theorem coinA_at1 (l : List Coin) (j : Nat) (h : j < l.length) : (coinA l)[j * 2 + 1]? = some (.bool l[j].2) := by simpa [coinA] using (coinL_at l j h).2
theorem coinA_set (l : List Coin) (j : Nat) (v : Int) (h : j < l.length) : (coinA l).setIfInBounds (j * 2) (.int .i64 v) = coinA (l.set j (v, l[j].2)) := by
  simp [coinA, coinL_set l j v h]
theorem coinA_size (l : List Coin) : (coinA l).size = 2 * l.length := by simp [coinA, coinL_length]
theorem madeCells_two (x y : Value) (n : Nat) : (madeCells #[x, y] (n * 2)).toList = (List.range n).flatMap fun _ => [x, y] := by
  induction n with
  | zero => simp [madeCells]
  | succ n ih =>
    have e : madeCells #[x, y] ((n + 1) * 2) = ((madeCells #[x, y] (n * 2)).push x).push y := by
      simp only [madeCells, show (n + 1) * 2 = n * 2 + 1 + 1 by omega, Array.range_succ]
      simp
    rw [e, List.range_succ, List.flatMap_append]
    simp [ih]
theorem coinA_made (n : Nat) : madeCells #[.int .i64 0, .bool false] (n * 2) = coinA (List.replicate n (0, false)) := by
  apply Array.toList_inj.1
  rw [madeCells_two]
  simp only [coinA, coinL]
  induction n with
  | zero => rfl
  | succ n ih => rw [List.range_succ_eq_map, List.flatMap_cons, List.flatMap_map, List.replicate_succ, List.flatMap_cons]; simpa using ih

/-- The slice value sv holds the coins l, in a block of S; or it has no element. -/
def CoinsIn (S : Nat → Prop) (W : World) (sv : Value) (l : List Coin) : Prop :=
  (l = [] ∧ ∃ a cap, sv = .slice a 0 cap) ∨
  ∃ b off cap, sv = .slice (some ⟨b, off, none⟩) l.length cap ∧ S b ∧ ∀ j (h : j < l.length), W.cell? ⟨b, off + j * 2, none⟩ = some (.int .i64 l[j].1) ∧ W.cell? ⟨b, off + j * 2 + 1, none⟩ = some (.bool l[j].2)
theorem CoinsIn.kept {S : Nat → Prop} {A B : World} (h : Kept S A B) {sv : Value} {l : List Coin} : CoinsIn S A sv l → CoinsIn S B sv l
  | .inl e => .inl e
  | .inr ⟨b, off, cap, e, hb, hc⟩ => .inr ⟨b, off, cap, e, hb, fun j hj => ⟨(h.cell (p := ⟨b, off + j * 2, none⟩) hb).trans (hc j hj).1, (h.cell (p := ⟨b, off + j * 2 + 1, none⟩) hb).trans (hc j hj).2⟩⟩
theorem CoinsIn.mono {S T : Nat → Prop} {A : World} (hT : ∀ k, S k → T k) {sv : Value} {l : List Coin} : CoinsIn S A sv l → CoinsIn T A sv l
  | .inl e => .inl e
  | .inr ⟨b, off, cap, e, hb, hc⟩ => .inr ⟨b, off, cap, e, hT _ hb, hc⟩
theorem CoinsIn.at {S : Nat → Prop} {A : World} {a : Option Addr} {n cap : Nat} {l : List Coin} (h : CoinsIn S A (.slice a n cap) l) (k : Nat) (hk : k < l.length) :
    ∃ b off, a = some ⟨b, off, none⟩ ∧ S b ∧ A.cell? ⟨b, off + k * 2, none⟩ = some (.int .i64 l[k].1) ∧ A.cell? ⟨b, off + k * 2 + 1, none⟩ = some (.bool l[k].2) := by
  rcases h with ⟨rfl, _⟩ | ⟨b, off, cap', e, hb, hc⟩
  · simp at hk
  · simp only [Value.slice.injEq] at e
    exact ⟨b, off, e.1, hb, hc k hk⟩
theorem Row.coins {S : Nat → Prop} {W : World} {B : Nat} {l : List Coin} (h : Row W B 147 (coinA l)) (hS : S B) (cap : Nat) : CoinsIn S W (.slice (some ⟨B, 0, none⟩) l.length cap) l :=
  .inr ⟨B, 0, cap, rfl, hS, fun j hj => ⟨by rw [Nat.zero_add]; exact h.cell (coinA_at0 l j hj), by rw [Nat.zero_add]; exact h.cell (coinA_at1 l j hj)⟩⟩

/-- Every two coins put together. -/
def pairF (l : List Coin) (i : Nat) : Coin := ((l[2 * i]?.getD (0, false)).1 + (l[2 * i + 1]?.getD (0, false)).1, false)
def pairsL (l : List Coin) : List Coin := upto (pairF l) (l.length / 2)

theorem Tryd.info89 : (Tryd.prog.info? 147).map (fun i => (i.zero, i.size, i.bytes)) = some (some (.agg #[.int .i64 0, .bool false]), 2, 16) := by kernel_rfl

set_option maxRecDepth 100000 in
set_option maxHeartbeats 2000000 in
theorem pairs_any (S : Nat → Prop) (a : Option Addr) (cap : Nat) (l : List Coin) (w : World) (hS : ∀ k, S k → k < w.heap.size) (hI : CoinsIn S w (.slice a l.length cap) l) (hl : l.length ≤ 1000) (hw : ∀ c ∈ l, 0 ≤ c.1 ∧ c.1 ≤ 4611686018427387903) :
    Calls Tryd.prog 92 #[.slice a l.length cap] w fun e w' => e = .returned (.slice (some ⟨w.heap.size, 0, none⟩) (l.length / 2) (l.length / 2)) ∧ Row w' w.heap.size 147 (coinA (pairsL l)) ∧ Below w.heap.size w w' := by
  obtain ⟨i0, hi, hzz⟩ := Option.map_eq_some_iff.1 Tryd.info89
  simp only [Prod.mk.injEq] at hzz
  obtain ⟨hz0, hz1, hz2⟩ := hzz
  have hmk := fun w => run_make (P := Tryd.prog) w 145 147 i0 _ Tryd.underlying145 hi hz0 .i64 .i64 (l.length / 2) (l.length / 2) (by omega) (by omega) (by rw [hz2]; omega) (by omega)
  rw [hz1] at hmk
  simp only [Value.cells, show ((l.length : Int) / 2).toNat = l.length / 2 by omega, coinA_made] at hmk
  go_enter Tryd.func92, Tryd.ntmps92
  go_wp2
  have R0 := Row.new w 147 (coinA (List.replicate (l.length / 2) (0, false)))
  have hB0 : Below w.heap.size w (w.alloc (.cells (coinA (List.replicate (l.length / 2) (0, false))) 147)) := (Below.refl _ w).alloc (Nat.le_refl _) _
  generalize w.alloc (.cells (coinA (List.replicate (l.length / 2) (0, false))) 147) = w1 at R0 hB0 ⊢
  clear hmk hz0 hz1 hz2 hi
  go_loopw [11] (fun i wr => ∃ k : Nat, k ≤ l.length / 2 ∧ i = .int .i64 k ∧ Row wr w.heap.size 147 (coinA (upto (pairF l) k ++ List.replicate (l.length / 2 - k) (0, false))) ∧ Below w.heap.size w wr)
    (fun i _ => l.length / 2 - (intOf i).toNat)
  case atStart => exact ⟨0, Nat.zero_le _, rfl, by simpa [upto] using R0, hB0⟩
  case round =>
    obtain ⟨k, hk, rfl, R1, hB⟩ := hrel
    by_cases hlt : k < l.length / 2
    · obtain ⟨b, off, rfl, hb, e0, e1⟩ := hI.at (2 * k) (by omega)
      obtain ⟨b', off', hbb, _, e2, e3⟩ := hI.at (2 * k + 1) (by omega)
      simp only [Option.some.injEq, Addr.mk.injEq] at hbb
      obtain ⟨rfl, rfl, _⟩ := hbb
      have hKc := Kept.of_below hB hS
      have c0 := (hKc.cell (p := ⟨b, off + 2 * k * 2, none⟩) hb).trans e0
      have c2 := (hKc.cell (p := ⟨b, off + (2 * k + 1) * 2, none⟩) hb).trans e2
      have hb1 := hw _ (List.getElem_mem (show 2 * k < l.length by omega))
      have hb2 := hw _ (List.getElem_mem (show 2 * k + 1 < l.length by omega))
      have HV : Hid (pairF l k = (l[2 * k].1 + l[2 * k + 1].1, false)) := by
        show _ = _
        simp [pairF, show 2 * k < l.length by omega, show 2 * k + 1 < l.length by omega]
      clear e0 e1 e2 e3 hI hKc
      generalize l[2 * k].1 = x at c0 hb1 HV
      generalize l[2 * k + 1].1 = y at c2 hb2 HV
      have hlen : (upto (pairF l) k ++ List.replicate (l.length / 2 - k) ((0 : Int), false)).length = l.length / 2 := by simp [upto_length]; omega
      have HS : Hid ((coinA (upto (pairF l) k ++ List.replicate (l.length / 2 - k) (0, false))).setIfInBounds (k * 2) (.int .i64 (x + y)) = coinA (upto (pairF l) (k + 1) ++ List.replicate (l.length / 2 - (k + 1)) (0, false))) := by
        show _ = _
        rw [coinA_set _ k _ (by omega)]
        congr 1
        have e : List.replicate (l.length / 2 - k) ((0 : Int), false) = (0, false) :: List.replicate (l.length / 2 - (k + 1)) (0, false) := by
          rw [show l.length / 2 - k = l.length / 2 - (k + 1) + 1 by omega, List.replicate_succ]
        rw [upto_succ, HV.out]
        simp only [e]
        rw [List.set_append_right _ _ (by rw [upto_length]; exact Nat.le_refl _)]
        simp [upto_length]
      have cG := R1.cell (coinA_at0 _ k (by rw [hlen]; exact hlt))
      have fG := R1.frozen (k * 2)
      have HR : Hid (Row (wr.setCell ⟨w.heap.size, k * 2, none⟩ (.int .i64 (x + y))) w.heap.size 147 (coinA (upto (pairF l) (k + 1) ++ List.replicate (l.length / 2 - (k + 1)) (0, false)))) := by
        show Row _ _ _ _
        rw [← HS.out]
        exact R1.set _ _
      have HB : Hid (Below w.heap.size w (wr.setCell ⟨w.heap.size, k * 2, none⟩ (.int .i64 (x + y)))) := hB.setCell (p := ⟨w.heap.size, k * 2, none⟩) (Nat.le_refl _) _
      clear R1 hB HS HV
      generalize (upto (pairF l) k ++ List.replicate (l.length / 2 - k) ((0 : Int), false))[k].1 = old at cG
      go_wp2
      go_region
      go_wp2
      go_roundw
      case rel => exact ⟨k + 1, by omega, by simp, HR.out, HB.out.drew⟩
      case measure => simp [intOf]; omega
    · obtain rfl : k = l.length / 2 := by omega
      go_wp2
      go_ret
      exact ⟨rfl, by simpa [pairsL] using R1, hB⟩
end Go.Proofs.YtinbilbgipfemaaDoor
