/- Lengths: what is refused, one symbol, none. -/
import Derived.Test.YtiakploggmmklaaLng
namespace Go.Proofs.Ytiakploggmmklaa
open Go.RowKit

def NoLen (e : Ending) : Prop := e = .returned (.tuple #[.slice none 0 0, .int .i64 1])
set_option maxHeartbeats 1000000 in
theorem lengths_bad1 (a : Option Addr) (cap : Nat) (limit : Int) (n : Nat) (w : World) (hb : 320 < n ∨ limit < 1 ∨ 15 < limit) :
    Calls Try.prog 4 #[.slice a n cap, .int .i64 limit] w fun e w' => NoLen e ∧ Below w.heap.size w w' := by
  have hB0 : Below w.heap.size w (w.alloc (.cells #[.slice a n cap] 22)) := (Below.refl _ w).alloc (Nat.le_refl _) _
  have HB0 : Hid _ := hB0
  have cb := (Row.new w 22 #[.slice a n cap]).cell (i := 0) (v := .slice a n cap) rfl
  clear hB0
  by_cases h1 : 320 < n
  · have t1 : (320 : Int) < n := by omega
    go_enter Try.func4, Try.ntmps4
    go_wp2
    go_ret2
    exact ⟨rfl, HB0.out⟩
  · have t1 : ¬ (320 : Int) < n := by omega
    by_cases h2 : limit < 1
    · go_enter Try.func4, Try.ntmps4
      go_wp2
      go_ret2
      exact ⟨rfl, HB0.out⟩
    · have h3 : 15 < limit := by omega
      go_enter Try.func4, Try.ntmps4
      go_wp2
      go_ret2
      exact ⟨rfl, HB0.out⟩

set_option maxRecDepth 100000 in
set_option maxHeartbeats 4000000 in
theorem lengths_long (S : Nat → Prop) (a : Option Addr) (cap limit : Nat) (fs : List Int) (w : World) (hS : ∀ k, S k → k < w.heap.size) (hF : IntsIn S w (.slice a fs.length cap) fs) (h1 : 1 ≤ limit) (h15 : limit ≤ 15) (hl : fs.length ≤ 320) (hfs : ∀ z ∈ fs, 0 ≤ z ∧ z ≤ 1073741824)
    (hlim : 2 ^ limit < (ordL fs fs.length).length) :
    Calls Try.prog 4 #[.slice a fs.length cap, .int .i64 limit] w fun e w' => NoLen e ∧ Below w.heap.size w w' := by
  obtain ⟨i0, hi, hz0, hz1, hz2⟩ := info_parts Try.info3
  have t1 : ¬ (320 : Int) < fs.length := by omega
  have t2 : ¬ (limit : Int) < 1 := by omega
  have t3 : ¬ (15 : Int) < limit := by omega
  have b0 := Row.new w 22 #[.slice a fs.length cap]
  have hB0 : Below w.heap.size w (w.alloc (.cells #[.slice a fs.length cap] 22)) := (Below.refl _ w).alloc (Nat.le_refl _) _
  have hs0 : (w.alloc (.cells #[.slice a fs.length cap] 22)).heap.size = w.heap.size + 1 := by simp
  have cb := b0.cell (i := 0) (v := .slice a fs.length cap) rfl
  go_enter Try.func4, Try.ntmps4
  go_wp2
  generalize w.alloc (.cells #[.slice a fs.length cap] 22) = w1 at b0 hB0 hs0 cb ⊢
  go_loopw [6, 23] (fun v6 v23 wr => ∃ k : Nat, k ≤ fs.length ∧ v23 = .int .i64 k ∧ wr.ownsRow (w.heap.size + 1) 3 1 v6 (ordL fs k).length ((ordL fs k).map (Value.int .i64)) ∧ Below (w.heap.size + 1) w1 wr)
    (fun _ v23 _ => fs.length - (intOf v23).toNat)
  case atStart => exact ⟨0, Nat.zero_le _, rfl, World.ownsRow_nil _ _ _ _, Below.refl _ _⟩
  case round =>
    obtain ⟨k, hk, rfl, hown, hB⟩ := hrel
    by_cases hlt : k < fs.length
    · obtain ⟨bf, of, rfl, hbf, ef⟩ := hF.at k hlt
      have hwl := hS bf hbf
      have cf : wr.cell? ⟨bf, of + k, none⟩ = some (.int .i64 (fs[k]?.getD 0)) := (hB.cell (p := ⟨bf, of + k, none⟩) (by simp; omega)).trans ((hB0.cell (p := ⟨bf, of + k, none⟩) hwl).trans ef)
      have hfk : 0 ≤ fs[k]?.getD 0 ∧ fs[k]?.getD 0 ≤ 1073741824 := by
        have := hfs _ (List.getElem_mem hlt)
        simpa [hlt] using this
      have HO1 : Hid (ordL fs (k + 1) = if 0 < fs[k]?.getD 0 then ordL fs k ++ [(k : Int)] else ordL fs k) := rfl
      have holen := ordL_length fs k
      clear ef hF
      generalize fs[k]?.getD 0 = f at cf hfk HO1
      by_cases hf0 : 0 < f
      · have e1 : ordL fs (k + 1) = ordL fs k ++ [(k : Int)] := by rw [show ordL fs (k + 1) = _ from HO1.out, if_pos hf0]
        have HE1 : Hid _ := e1
        clear e1
        have hsz := hB.size
        go_wp2_with (at_builtin; refine wpList_append_own2 _ rfl (.tmp 36) (.tmp 38) 22 rfl (w.heap.size + 1) 3 i0 (.int .i64 0) 1 8 Try.underlying22 hi hz0 hz1 hz2 rfl (by decide) _ _ _ rfl (hown.alloc _) ⟨wr.heap.size, 0, none⟩ 1 1 [.int .i64 (k : Int)] rfl rfl (cell_one_new _ _ _) (by simp [Value.oneCell']) (by unfold maxLen; omega) (by omega) (by simp; omega) ?_)
        intro v' w3 hown' hgrow hblk
        have hB3 : Below (w.heap.size + 1) w1 w3 := (hB.alloc (by omega) _).grown hgrow (by simp; omega) (fun r e => by
          rcases hown.2 with ⟨rfl, _⟩ | ⟨g, c, cur, rfl, hb, _⟩
          · simp [Value.ownBlock] at e
          · simp [Value.ownBlock] at e; omega)
        have hown3 : w3.ownsRow (w.heap.size + 1) 3 1 v' (ordL fs (k + 1)).length ((ordL fs (k + 1)).map (Value.int .i64)) := by
          rw [show ordL fs (k + 1) = _ from HE1.out]
          simpa using hown'
        go_wp2
        go_roundw
        case rel => exact ⟨k + 1, by omega, by simp, hown3, hB3⟩
        case measure => simp [intOf]; omega
      · have e1 : ordL fs (k + 1) = ordL fs k := by rw [show ordL fs (k + 1) = _ from HO1.out, if_neg hf0]
        have HE1 : Hid _ := e1
        clear e1
        have hown3 : wr.ownsRow (w.heap.size + 1) 3 1 u6 (ordL fs (k + 1)).length ((ordL fs (k + 1)).map (Value.int .i64)) := by
          rw [show ordL fs (k + 1) = _ from HE1.out]
          exact hown
        go_wp2
        go_roundw
        case rel => exact ⟨k + 1, by omega, by simp, hown3, hB⟩
        case measure => simp [intOf]; omega
    · obtain rfl : k = fs.length := by omega
      have hpos : 0 < (ordL fs fs.length).length := Nat.lt_of_le_of_lt (Nat.zero_le _) hlim
      obtain ⟨GO, oc, rfl, hGO, hOrd⟩ := ordIn_of_owns hown hpos
      have h2l : 2 ^ limit ≤ 2 ^ 15 := Nat.pow_le_pow_right (by omega) h15
      have hp1 : ((2 ^ limit : Nat) : Int) = (2 : Int) ^ limit := by simp
      have hge : (0 : Int) ≤ (2 : Int) ^ limit := by rw [← hp1]; exact Int.natCast_nonneg _
      have hle : (2 : Int) ^ limit ≤ 32768 := by rw [← hp1]; exact Int.ofNat_le.2 h2l
      have hw : wrap64 ((2 : Int) ^ limit) = (2 : Int) ^ limit := wrap64_id _ ⟨by omega, by omega⟩
      have t4 : (2 : Int) ^ limit < (ordL fs fs.length).length := by rw [← hp1]; exact Int.ofNat_lt.2 hlim
      clear hlim
      have HB : Hid (Below w.heap.size w wr) := hB0.trans (hB.mono (by omega))
      clear hp1 h2l hown hk hlt hz0 hz1 hz2 hi hOrd hF hfs hB hB0
      go_wp2
      go_ret2
      exact ⟨rfl, HB.out⟩

set_option maxRecDepth 100000 in
set_option maxHeartbeats 4000000 in
theorem lengths_bad2 (S : Nat → Prop) (a : Option Addr) (cap limit : Nat) (fs : List Int) (w : World) (hS : ∀ k, S k → k < w.heap.size) (hF : IntsIn S w (.slice a fs.length cap) fs) (h1 : 1 ≤ limit) (h15 : limit ≤ 15) (hl : fs.length ≤ 320) (hzi : AreInts fs)
    (hbad : ∃ i, i < fs.length ∧ ¬ (0 ≤ fs[i]?.getD 0 ∧ fs[i]?.getD 0 ≤ 1073741824)) :
    Calls Try.prog 4 #[.slice a fs.length cap, .int .i64 limit] w fun e w' => NoLen e ∧ Below w.heap.size w w' := by
  obtain ⟨i0, hi, hz0, hz1, hz2⟩ := info_parts Try.info3
  have t1 : ¬ (320 : Int) < fs.length := by omega
  have t2 : ¬ (limit : Int) < 1 := by omega
  have t3 : ¬ (15 : Int) < limit := by omega
  have b0 := Row.new w 22 #[.slice a fs.length cap]
  have hB0 : Below w.heap.size w (w.alloc (.cells #[.slice a fs.length cap] 22)) := (Below.refl _ w).alloc (Nat.le_refl _) _
  have hs0 : (w.alloc (.cells #[.slice a fs.length cap] 22)).heap.size = w.heap.size + 1 := by simp
  have cb := b0.cell (i := 0) (v := .slice a fs.length cap) rfl
  go_enter Try.func4, Try.ntmps4
  go_wp2
  generalize w.alloc (.cells #[.slice a fs.length cap] 22) = w1 at b0 hB0 hs0 cb ⊢
  go_loopw [6, 23] (fun v6 v23 wr => ∃ k : Nat, k ≤ fs.length ∧ v23 = .int .i64 k ∧ wr.ownsRow (w.heap.size + 1) 3 1 v6 (ordL fs k).length ((ordL fs k).map (Value.int .i64)) ∧ Below (w.heap.size + 1) w1 wr ∧ Hid (∀ i, i < k → 0 ≤ fs[i]?.getD 0 ∧ fs[i]?.getD 0 ≤ 1073741824))
    (fun _ v23 _ => fs.length - (intOf v23).toNat)
  case atStart => exact ⟨0, Nat.zero_le _, rfl, World.ownsRow_nil _ _ _ _, Below.refl _ _, fun i hi => by omega⟩
  case round =>
    obtain ⟨k, hk, rfl, hown, hB, HOK⟩ := hrel
    by_cases hlt : k < fs.length
    · obtain ⟨bf, of, rfl, hbf, ef⟩ := hF.at k hlt
      have hwl := hS bf hbf
      have cf : wr.cell? ⟨bf, of + k, none⟩ = some (.int .i64 (fs[k]?.getD 0)) := (hB.cell (p := ⟨bf, of + k, none⟩) (by simp; omega)).trans ((hB0.cell (p := ⟨bf, of + k, none⟩) hwl).trans ef)
      have hzk := hzi k
      by_cases hfk : 0 ≤ fs[k]?.getD 0 ∧ fs[k]?.getD 0 ≤ 1073741824
      rotate_left
      · have HB : Hid (Below w.heap.size w wr) := hB0.trans (hB.mono (by omega))
        clear ef hF hown hB hB0 hbad HOK
        generalize fs[k]?.getD 0 = f at cf hfk hzk
        by_cases g1 : f < 0
        · go_wp2
          go_ret2
          exact ⟨rfl, HB.out⟩
        · have g2 : 1073741824 < f := by omega
          go_wp2
          go_ret2
          exact ⟨rfl, HB.out⟩
      have HOK2 : Hid (∀ i, i < k + 1 → 0 ≤ fs[i]?.getD 0 ∧ fs[i]?.getD 0 ≤ 1073741824) := fun i hi => by
        by_cases e : i = k
        · rw [e]; exact hfk
        · exact HOK.out i (by omega)
      have HO1 : Hid (ordL fs (k + 1) = if 0 < fs[k]?.getD 0 then ordL fs k ++ [(k : Int)] else ordL fs k) := rfl
      have holen := ordL_length fs k
      clear ef hF
      clear hbad hzk
      obtain ⟨f, hff⟩ : ∃ f, fs[k]?.getD 0 = f := ⟨_, rfl⟩
      rw [hff] at cf hfk HO1
      clear hff
      by_cases hf0 : 0 < f
      · have e1 : ordL fs (k + 1) = ordL fs k ++ [(k : Int)] := by rw [show ordL fs (k + 1) = _ from HO1.out, if_pos hf0]
        have HE1 : Hid _ := e1
        clear e1
        have hsz := hB.size
        go_wp2_with (at_builtin; refine wpList_append_own2 _ rfl (.tmp 36) (.tmp 38) 22 rfl (w.heap.size + 1) 3 i0 (.int .i64 0) 1 8 Try.underlying22 hi hz0 hz1 hz2 rfl (by decide) _ _ _ rfl (hown.alloc _) ⟨wr.heap.size, 0, none⟩ 1 1 [.int .i64 (k : Int)] rfl rfl (cell_one_new _ _ _) (by simp [Value.oneCell']) (by unfold maxLen; omega) (by omega) (by simp; omega) ?_)
        intro v' w3 hown' hgrow hblk
        have hB3 : Below (w.heap.size + 1) w1 w3 := (hB.alloc (by omega) _).grown hgrow (by simp; omega) (fun r e => by
          rcases hown.2 with ⟨rfl, _⟩ | ⟨g, c, cur, rfl, hb, _⟩
          · simp [Value.ownBlock] at e
          · simp [Value.ownBlock] at e; omega)
        have hown3 : w3.ownsRow (w.heap.size + 1) 3 1 v' (ordL fs (k + 1)).length ((ordL fs (k + 1)).map (Value.int .i64)) := by
          rw [show ordL fs (k + 1) = _ from HE1.out]
          simpa using hown'
        go_wp2
        go_roundw
        case rel => exact ⟨k + 1, by omega, by simp, hown3, hB3, HOK2⟩
        case measure => simp [intOf]; omega
      · have e1 : ordL fs (k + 1) = ordL fs k := by rw [show ordL fs (k + 1) = _ from HO1.out, if_neg hf0]
        have HE1 : Hid _ := e1
        clear e1
        have hown3 : wr.ownsRow (w.heap.size + 1) 3 1 u6 (ordL fs (k + 1)).length ((ordL fs (k + 1)).map (Value.int .i64)) := by
          rw [show ordL fs (k + 1) = _ from HE1.out]
          exact hown
        go_wp2
        go_roundw
        case rel => exact ⟨k + 1, by omega, by simp, hown3, hB, HOK2⟩
        case measure => simp [intOf]; omega
    · exfalso
      obtain ⟨i, hi, hn⟩ := hbad
      exact hn (HOK.out i (by omega))
end Go.Proofs.Ytiakploggmmklaa
