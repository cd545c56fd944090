/- Lengths: one symbol, none. -/
import Derived.Test.YtiakploggmmklaaLng
import Derived.Test.YtiakploggmmklaaSpz
namespace Go.Proofs.Ytiakploggmmklaa
open Go.RowKit

set_option maxRecDepth 100000 in
set_option maxHeartbeats 4000000 in
theorem lengths_one (S : Nat → Prop) (a : Option Addr) (cap limit : Nat) (fs : List Int) (w : World) (hS : ∀ k, S k → k < w.heap.size) (hF : IntsIn S w (.slice a fs.length cap) fs) (h1 : 1 ≤ limit) (h15 : limit ≤ 15) (hl : fs.length ≤ 320) (hfs : ∀ z ∈ fs, 0 ≤ z ∧ z ≤ 1073741824)
    (z : Nat) (hord : ordL fs fs.length = [(z : Int)]) :
    Calls Try.prog 4 #[.slice a fs.length cap, .int .i64 limit] w fun e w' => ∃ GL, e = .returned (.tuple #[.slice (some ⟨GL, 0, none⟩) fs.length fs.length, .int .i64 0]) ∧ Row w' GL 3 (intsV ((List.replicate fs.length 0).set z 1)) ∧ Below w.heap.size w w' := by
  have hone : (ordL fs fs.length).length = 1 := by rw [hord]; rfl
  have HORD : Hid _ := hord
  clear hord
  obtain ⟨i0, hi, hz0, hz1, hz2⟩ := info_parts Try.info3
  have t1 : ¬ (320 : Int) < fs.length := by omega
  have t2 : ¬ (limit : Int) < 1 := by omega
  have t3 : ¬ (15 : Int) < limit := by omega
  have b0 := Row.new w 22 #[.slice a fs.length cap]
  have hB0 : Below w.heap.size w (w.alloc (.cells #[.slice a fs.length cap] 22)) := (Below.refl _ w).alloc (Nat.le_refl _) _
  have hs0 : (w.alloc (.cells #[.slice a fs.length cap] 22)).heap.size = w.heap.size + 1 := by simp
  have cb := b0.cell (i := 0) (v := .slice a fs.length cap) rfl
  go_enter Try.func4, Try.ntmps4
  go_wp2
  generalize w.alloc (.cells #[.slice a fs.length cap] 22) = w1 at b0 hB0 hs0 cb ⊢
  go_loopw [6, 23] (fun v6 v23 wr => ∃ k : Nat, k ≤ fs.length ∧ v23 = .int .i64 k ∧ wr.ownsRow (w.heap.size + 1) 3 1 v6 (ordL fs k).length ((ordL fs k).map (Value.int .i64)) ∧ Below (w.heap.size + 1) w1 wr)
    (fun _ v23 _ => fs.length - (intOf v23).toNat)
  case atStart => exact ⟨0, Nat.zero_le _, rfl, World.ownsRow_nil _ _ _ _, Below.refl _ _⟩
  case round =>
    obtain ⟨k, hk, rfl, hown, hB⟩ := hrel
    by_cases hlt : k < fs.length
    · obtain ⟨bf, of, rfl, hbf, ef⟩ := hF.at k hlt
      have hwl := hS bf hbf
      have cf : wr.cell? ⟨bf, of + k, none⟩ = some (.int .i64 (fs[k]?.getD 0)) := (hB.cell (p := ⟨bf, of + k, none⟩) (by simp; omega)).trans ((hB0.cell (p := ⟨bf, of + k, none⟩) hwl).trans ef)
      have hfk : 0 ≤ fs[k]?.getD 0 ∧ fs[k]?.getD 0 ≤ 1073741824 := by
        have := hfs _ (List.getElem_mem hlt)
        simpa [hlt] using this
      have HO1 : Hid (ordL fs (k + 1) = if 0 < fs[k]?.getD 0 then ordL fs k ++ [(k : Int)] else ordL fs k) := rfl
      have holen := ordL_length fs k
      clear ef hF
      generalize fs[k]?.getD 0 = f at cf hfk HO1
      by_cases hf0 : 0 < f
      · have e1 : ordL fs (k + 1) = ordL fs k ++ [(k : Int)] := by rw [show ordL fs (k + 1) = _ from HO1.out, if_pos hf0]
        have HE1 : Hid _ := e1
        clear e1
        have hsz := hB.size
        go_wp2_with (at_builtin; refine wpList_append_own2 _ rfl (.tmp 36) (.tmp 38) 22 rfl (w.heap.size + 1) 3 i0 (.int .i64 0) 1 8 Try.underlying22 hi hz0 hz1 hz2 rfl (by decide) _ _ _ rfl (hown.alloc _) ⟨wr.heap.size, 0, none⟩ 1 1 [.int .i64 (k : Int)] rfl rfl (cell_one_new _ _ _) (by simp [Value.oneCell']) (by unfold maxLen; omega) (by omega) (by simp; omega) ?_)
        intro v' w3 hown' hgrow hblk
        have hB3 : Below (w.heap.size + 1) w1 w3 := (hB.alloc (by omega) _).grown hgrow (by simp; omega) (fun r e => by
          rcases hown.2 with ⟨rfl, _⟩ | ⟨g, c, cur, rfl, hb, _⟩
          · simp [Value.ownBlock] at e
          · simp [Value.ownBlock] at e; omega)
        have hown3 : w3.ownsRow (w.heap.size + 1) 3 1 v' (ordL fs (k + 1)).length ((ordL fs (k + 1)).map (Value.int .i64)) := by
          rw [show ordL fs (k + 1) = _ from HE1.out]
          simpa using hown'
        go_wp2
        go_roundw
        case rel => exact ⟨k + 1, by omega, by simp, hown3, hB3⟩
        case measure => simp [intOf]; omega
      · have e1 : ordL fs (k + 1) = ordL fs k := by rw [show ordL fs (k + 1) = _ from HO1.out, if_neg hf0]
        have HE1 : Hid _ := e1
        clear e1
        have hown3 : wr.ownsRow (w.heap.size + 1) 3 1 u6 (ordL fs (k + 1)).length ((ordL fs (k + 1)).map (Value.int .i64)) := by
          rw [show ordL fs (k + 1) = _ from HE1.out]
          exact hown
        go_wp2
        go_roundw
        case rel => exact ⟨k + 1, by omega, by simp, hown3, hB⟩
        case measure => simp [intOf]; omega
    · obtain rfl : k = fs.length := by omega
      obtain ⟨GO, oc, rfl, hGO, hOrd⟩ := ordIn_of_owns hown (by omega)
      have hom := ordL_mem fs fs.length
      have hzl : z < fs.length := by have := hom (z : Int) (by rw [HORD.out]; simp); omega
      have cb' : wr.cell? ⟨w.heap.size, 0, none⟩ = some (.slice a fs.length cap) := (hB.cell (p := ⟨w.heap.size, 0, none⟩) (by simp)).trans cb
      have hF1 : IntsIn (fun k => k < w.heap.size + 1) wr (.slice a fs.length cap) fs := ((hF.kept (Kept.of_below hB0 hS)).mono (fun k hk => by have := hS k hk; omega)).kept (Kept.of_below hB (fun _ h => h))
      have hsort := sort_any (fun k => k < w.heap.size + 1) GO w.heap.size oc a cap fs (ordL fs fs.length) wr ⟨by omega, by omega, cb', hF1⟩ hOrd hom (by omega)
      rw [hone] at hsort ⊢
      have HSO : Hid _ := hsort
      have hmk := run_make_row' (P := Try.prog) 22 3 (.int .i64 0) 8 Try.underlying22 Try.info3 rfl .i64 .i64 fs.length (by omega) (by omega)
      rw [intsV_made] at hmk
      clear hsort hown hk hlt hom hz0 hz1 hz2 hi
      have h2l : 2 ^ limit ≤ 2 ^ 15 := Nat.pow_le_pow_right (by omega) h15
      have h2g : 2 ^ 1 ≤ 2 ^ limit := Nat.pow_le_pow_right (by omega) h1
      have hp1 : ((2 ^ limit : Nat) : Int) = (2 : Int) ^ limit := by simp
      have hge : (2 : Int) ≤ (2 : Int) ^ limit := by rw [← hp1]; exact Int.ofNat_le.2 h2g
      have hle : (2 : Int) ^ limit ≤ 32768 := by rw [← hp1]; exact Int.ofNat_le.2 h2l
      have hw : wrap64 ((2 : Int) ^ limit) = (2 : Int) ^ limit := wrap64_id _ ⟨by omega, by omega⟩
      have t4 : ¬ (2 : Int) ^ limit < 1 := by omega
      clear hp1 h2l h2g
      go_wp2_with fail
      refine Calls.mono HSO.out ?_
      rintro e w2 ⟨rfl, os, hO2, hPm, _, hK2⟩
      obtain rfl : os = [(z : Int)] := by rw [HORD.out] at hPm; exact List.perm_singleton.1 hPm
      have hBw2 : Below w.heap.size w w2 := (hB0.trans (hB.mono (by omega))).trans (hK2.below (fun k hk => by omega))
      have hwr := hB.size
      have hs2 := hK2.size
      have hgo2 := hO2.lt
      have cb2 : w2.cell? ⟨w.heap.size, 0, none⟩ = some (.slice a fs.length cap) := (hK2.cell (p := ⟨w.heap.size, 0, none⟩) (show w.heap.size ≠ GO by omega)).trans cb'
      have RL := Row.new w2 3 (intsV (List.replicate fs.length 0))
      have hBa : Below w2.heap.size w2 (w2.alloc (.cells (intsV (List.replicate fs.length 0)) 3)) := (Below.refl _ w2).alloc (Nat.le_refl _) _
      have cO : (w2.alloc (.cells (intsV (List.replicate fs.length 0)) 3)).cell? ⟨GO, 0, none⟩ = some (.int .i64 (z : Int)) := (hBa.cell (p := ⟨GO, 0, none⟩) hgo2).trans (hO2.cell 0 (by simp))
      have cL := RL.cell (intsV_at (List.replicate fs.length 0) z (by simpa using hzl))
      have fL := RL.frozen z
      have RS := RL.set z (.int .i64 1)
      rw [intsV_set] at RS
      have HRS : Hid _ := RS
      have HBF : Hid (Below w.heap.size w ((w2.alloc (.cells (intsV (List.replicate fs.length 0)) 3)).setCell ⟨w2.heap.size, z, none⟩ (.int .i64 1))) := (hBw2.trans (hBa.mono (by omega))).setCell (p := ⟨w2.heap.size, z, none⟩) (by simp; omega) _
      have hzz : (z : Int) < (fs.length : Int) := by omega
      clear HSO cb' hF1 hO2 hOrd hBw2 hBa RL RS hPm
      generalize hw3 : w2.alloc (.cells (intsV (List.replicate fs.length 0)) 3) = w3 at cO cL fL HRS HBF
      go_wp2
      go_ret2
      exact ⟨_, rfl, HRS.out, HBF.out⟩

set_option maxHeartbeats 1000000 in
theorem ins_nil (f : Value) (w : World) : Calls Try.prog 24 #[.slice none 0 0, .int .i64 0, .int .i64 0, f] w fun e w' => e = .returned (.tuple #[]) ∧ w' = w := by
  go_enter Try.func24, Try.ntmps24
  go_wp2_with fail
  go_loopw [8] (fun v wr => v = .int .i64 1 ∧ wr = w) (fun _ _ => 0)
  case atStart => exact ⟨rfl, rfl⟩
  case round =>
    obtain ⟨rfl, rfl⟩ := hrel
    go_wp2
    go_end0
    exact ⟨rfl, rfl⟩
set_option maxHeartbeats 2000000 in
theorem stable_nil (f : Value) (w : World) : Calls Try.prog 17 #[.slice none 0 0, .int .i64 0, f] w fun e w' => e = .returned (.tuple #[]) ∧ w' = w := by
  have HI : Hid _ := ins_nil f w
  go_enter Try.func17, Try.ntmps17
  go_wp2_with fail
  go_loopw [7, 8] (fun v7 v8 wr => v7 = .int .i64 0 ∧ v8 = .int .i64 20 ∧ wr = w) (fun _ _ _ => 0)
  case atStart => exact ⟨rfl, rfl, rfl⟩
  case round =>
    obtain ⟨rfl, rfl, rfl⟩ := hrel
    go_wp2_with fail
    refine Calls.mono HI.out ?_
    rintro e w1 ⟨rfl, rfl⟩
    go_wp2_with fail
    go_loopw [6] (fun v6 wr => v6 = .int .i64 20 ∧ wr = w1) (fun _ _ => 0)
    case atStart => exact ⟨rfl, rfl⟩
    case round =>
      obtain ⟨rfl, rfl⟩ := hrel
      go_wp2_with fail
      go_end0
      exact ⟨rfl, rfl⟩
set_option maxHeartbeats 1000000 in
theorem sort_nil (f : Value) (w : World) : Calls Try.prog 9 #[.slice none 0 0, f] w fun e w' => e = .returned (.tuple #[]) ∧ w' = w := by
  have HST : Hid _ := stable_nil f w
  go_enter Try.func9, Try.ntmps9
  go_wp2_with fail
  refine Calls.mono HST.out ?_
  rintro e w1 ⟨rfl, rfl⟩
  go_wp2
  go_end0
  exact ⟨rfl, rfl⟩
theorem spR_zero (sl : List Coin) (os ls : List Int) (limit : Nat) : ∀ k, spR sl os ls 0 limit k = (ls, 0)
  | 0 => rfl
  | k + 1 => by rw [spR, spR_zero sl os ls limit k]; rfl

set_option maxRecDepth 100000 in
set_option maxHeartbeats 4000000 in
theorem lengths_zero (S : Nat → Prop) (a : Option Addr) (cap limit : Nat) (fs : List Int) (w : World) (hS : ∀ k, S k → k < w.heap.size) (hF : IntsIn S w (.slice a fs.length cap) fs) (h1 : 1 ≤ limit) (h15 : limit ≤ 15) (hl : fs.length ≤ 320) (hfs : ∀ z ∈ fs, z = 0) :
    Calls Try.prog 4 #[.slice a fs.length cap, .int .i64 limit] w fun e w' => ∃ GL, e = .returned (.tuple #[.slice (some ⟨GL, 0, none⟩) fs.length fs.length, .int .i64 0]) ∧ Row w' GL 3 (intsV (List.replicate fs.length 0)) ∧ Below w.heap.size w w' := by
  have t1 : ¬ (320 : Int) < fs.length := by omega
  have t2 : ¬ (limit : Int) < 1 := by omega
  have t3 : ¬ (15 : Int) < limit := by omega
  have b0 := Row.new w 22 #[.slice a fs.length cap]
  have hB0 : Below w.heap.size w (w.alloc (.cells #[.slice a fs.length cap] 22)) := (Below.refl _ w).alloc (Nat.le_refl _) _
  have hs0 : (w.alloc (.cells #[.slice a fs.length cap] 22)).heap.size = w.heap.size + 1 := by simp
  have cb := b0.cell (i := 0) (v := .slice a fs.length cap) rfl
  go_enter Try.func4, Try.ntmps4
  go_wp2
  generalize w.alloc (.cells #[.slice a fs.length cap] 22) = w1 at b0 hB0 hs0 cb ⊢
  go_loopw [6, 23] (fun v6 v23 wr => ∃ k : Nat, k ≤ fs.length ∧ v23 = .int .i64 k ∧ v6 = .slice none 0 0 ∧ wr = w1)
    (fun _ v23 _ => fs.length - (intOf v23).toNat)
  case atStart => exact ⟨0, Nat.zero_le _, rfl, rfl, rfl⟩
  case round =>
    obtain ⟨k, hk, rfl, rfl, rfl⟩ := hrel
    by_cases hlt : k < fs.length
    · obtain ⟨bf, of, rfl, hbf, ef⟩ := hF.at k hlt
      have hwl := hS bf hbf
      have cf := (hB0.cell (p := ⟨bf, of + k, none⟩) hwl).trans ef
      have hfk : fs[k]?.getD 0 = 0 := by rw [List.getElem?_eq_getElem hlt]; exact hfs _ (List.getElem_mem hlt)
      rw [hfk] at cf
      clear ef hF hfs hfk
      go_wp2
      exact ⟨⟨k + 1, by omega, by simp, rfl, trivial⟩, by simp [intOf]; omega⟩
    · obtain rfl : k = fs.length := by omega
      have hmk := run_make_row' (P := Try.prog) 22 3 (.int .i64 0) 8 Try.underlying22 Try.info3 rfl .i64 .i64 fs.length (by omega) (by omega)
      rw [intsV_made] at hmk
      have h2l : 2 ^ limit ≤ 2 ^ 15 := Nat.pow_le_pow_right (by omega) h15
      have hp1 : ((2 ^ limit : Nat) : Int) = (2 : Int) ^ limit := by simp
      have hge : (0 : Int) ≤ (2 : Int) ^ limit := by rw [← hp1]; exact Int.natCast_nonneg _
      have hle : (2 : Int) ^ limit ≤ 32768 := by rw [← hp1]; exact Int.ofNat_le.2 h2l
      have hw : wrap64 ((2 : Int) ^ limit) = (2 : Int) ^ limit := wrap64_id _ ⟨by omega, by omega⟩
      have t4 : ¬ (2 : Int) ^ limit < 0 := by omega
      have HSN : ∀ f, Hid _ := fun f => sort_nil f wr
      have hF1 : IntsIn (fun k => k < wr.heap.size) wr (.slice a fs.length cap) fs := (hF.kept (Kept.of_below hB0 hS)).mono (fun k hk => by have := hS k hk; omega)
      have RL := Row.new wr 3 (intsV (List.replicate fs.length 0))
      have hBa : Below wr.heap.size wr (wr.alloc (.cells (intsV (List.replicate fs.length 0)) 3)) := (Below.refl _ wr).alloc (Nat.le_refl _) _
      have hsa : (wr.alloc (.cells (intsV (List.replicate fs.length 0)) 3)).heap.size = wr.heap.size + 1 := by simp
      have cb3 : (wr.alloc (.cells (intsV (List.replicate fs.length 0)) 3)).cell? ⟨w.heap.size, 0, none⟩ = some (.slice a fs.length cap) := (hBa.cell (p := ⟨w.heap.size, 0, none⟩) (by simp; omega)).trans cb
      have hF3 : IntsIn (fun k => k < wr.heap.size + 1) (wr.alloc (.cells (intsV (List.replicate fs.length 0)) 3)) (.slice a fs.length cap) fs := (hF1.kept (Kept.of_below hBa (fun _ h => h))).mono (fun k hk => by omega)
      clear hp1 h2l hk hlt
      generalize hw3 : wr.alloc (.cells (intsV (List.replicate fs.length 0)) 3) = w3 at RL hBa hsa cb3 hF3
      have hrows := rows_any (fun k => k < wr.heap.size + 1) a none cap 0 limit fs [] w3 (fun k hk => by omega) hF3 (.inl ⟨rfl, none, 0, rfl⟩) h1 h15 hl (by simp) (fun z hz => by simp at hz) (fun z hz => by rw [hfs z hz]; omega)
      have HRW : Hid (Calls Try.prog 13 #[.slice a fs.length cap, .slice none 0 0, .int .i64 limit] w3 _) := hrows
      clear hrows hF3 hF1 hF
      go_wp2_with fail
      refine Calls.mono (HSN _).out ?_
      rintro e w2 ⟨rfl, rfl⟩
      clear HSN
      go_wp2_with fail
      refine Calls.mono HRW.out ?_
      rintro e w4 ⟨GA, rfl, hGA, hRows, hB4⟩
      have hs4 := hB4.size
      have RL4 := RL.below hB4 (by omega)
      have hsp := callsIn_wide.1 (spend_zero (fun _ => False) none 0 GA w2.heap.size limit fs.length w3.heap.size (singlesL fs []) [] (List.replicate fs.length 0) w4 (fun k hk => hk.elim) hRows (.inl ⟨rfl, none, 0, rfl⟩) RL4 (fun h => h) h1 h15 rfl (upto_length _ _) (by simp) (fun z hz => by simp at hz) (fun v hv => by simp at hv; exact hv.2) (fun k hk => by rw [spR_zero]; exact Nat.zero_le _))
      rw [spR_zero, List.length_replicate] at hsp
      have HSP : Hid (Calls Try.prog 12 #[.slice (some ⟨GA, 0, none⟩) limit limit, .slice none 0 0, .slice (some ⟨w2.heap.size, 0, none⟩) fs.length fs.length] w4 _) := hsp
      clear hsp HRW hRows
      go_wp2_with fail
      rw [hs0] at HSP
      refine Calls.mono HSP.out ?_
      rintro e w5 ⟨rfl, hR5, hK5⟩
      have HF5 : Hid _ := hR5
      have HB5 : Hid (Below w.heap.size w w5) := (((hB0.trans (hBa.mono (by omega))).trans (hB4.mono (by omega))).trans (hK5.below (fun k hk => ⟨by omega, by omega⟩)))
      clear HSP hR5 hK5
      go_wp2
      exact bodyPost_ret (v := .tuple #[.slice (some ⟨w.heap.size + 1, 0, none⟩) fs.length fs.length, .int .i64 0]) (by simp [results, Try.f4, go_sem]) rfl ⟨_, rfl, HF5.out, HB5.out⟩
end Go.Proofs.Ytiakploggmmklaa
