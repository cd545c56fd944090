/- Lengths of two symbols and more, any number of them. -/
import Derived.Test.YtiakploggmmklaaLen
import Derived.Test.YtiakploggmmklaaSst
import Derived.Test.YtiakploggmmklaaPms
namespace Go.Proofs.Ytiakploggmmklaa
open Go.RowKit

theorem ordL_inc (fs : List Int) : ∀ k, (ordL fs k).Pairwise (· < ·)
  | 0 => List.Pairwise.nil
  | k + 1 => by
    rw [ordL]
    split
    · refine List.pairwise_append.2 ⟨ordL_inc fs k, List.pairwise_singleton _ _, fun x hx y hy => ?_⟩
      have := ordL_mem fs k x hx
      simp at hy
      omega
    · exact ordL_inc fs k
theorem ordL_pos (fs : List Int) : ∀ k, ∀ z ∈ ordL fs k, 0 < keyF fs z
  | 0, z, h => by simp [ordL] at h
  | k + 1, z, h => by
    rw [ordL] at h
    split at h
    · rename_i c
      rcases List.mem_append.1 h with h | h
      · exact ordL_pos fs k z h
      · simp at h
        subst h
        unfold keyF
        rw [Int.toNat_natCast]
        exact c
    · exact ordL_pos fs k z h
theorem os_ords {fs os : List Int} (hp : os.Perm (ordL fs fs.length)) : Ords os fs.length := by
  have hm : ∀ z ∈ os, 0 ≤ z ∧ z < (fs.length : Int) := fun z hz => ordL_mem fs fs.length z (hp.mem_iff.1 hz)
  have hnd : os.Nodup := hp.nodup_iff.2 ((ordL_inc fs fs.length).imp (fun h e => by omega))
  have hg : ∀ j (hj : j < os.length), posN os j = os[j].toNat := fun j hj => by unfold posN; rw [List.getElem?_eq_getElem hj]; rfl
  refine ⟨fun i j hi hj e => ?_, fun j hj => ?_⟩
  · rw [hg i hi, hg j hj] at e
    have a1 := hm _ (List.getElem_mem hi)
    have a2 := hm _ (List.getElem_mem hj)
    have hne := List.pairwise_iff_getElem.1 hnd
    rcases Nat.lt_trichotomy i j with h | h | h
    · exact absurd (show os[i] = os[j] by omega) (hne i j hi hj h)
    · exact h
    · exact absurd (show os[j] = os[i] by omega) (hne j i hj hi h)
  · rw [hg j hj]
    have := hm _ (List.getElem_mem hj)
    omega
theorem singles_at (fs os : List Int) (j : Nat) (hj : j < (singlesL fs os).length) : (singlesL fs os)[j] = (keyF fs (gt os j), true) := by simp [singlesL, upto, singleF, keyF, gt]
theorem singles_sing {fs os : List Int} (hfs : ∀ z ∈ fs, 0 ≤ z ∧ z ≤ 1073741824) (hs : Srt (keyF fs) os 0 os.length) : Sing (singlesL fs os) := by
  have hl : (singlesL fs os).length = os.length := upto_length _ _
  have hk : ∀ x, 0 ≤ keyF fs x := fun x => by
    unfold keyF
    by_cases h : x.toNat < fs.length
    · rw [List.getElem?_eq_getElem h]
      exact (hfs _ (List.getElem_mem h)).1
    · rw [List.getElem?_eq_none (by omega)]
      simp
  refine ⟨List.pairwise_iff_getElem.2 (fun i j hi hj hij => ?_), fun c hc => ?_, fun c hc => ?_⟩
  · rw [singles_at, singles_at]
    exact hs i j (Nat.zero_le _) (by omega) (by omega)
  · unfold singlesL upto at hc
    obtain ⟨j, _, rfl⟩ := List.mem_map.1 hc
    rfl
  · unfold singlesL upto at hc
    obtain ⟨j, _, rfl⟩ := List.mem_map.1 hc
    exact hk _
/-- The lengths that the order of the symbols makes. -/
def lenO (fs os : List Int) (limit : Nat) : List Int := (spR (singlesL fs os) os (List.replicate fs.length 0) (2 * os.length - 2) limit limit).1
theorem rep_zero (n z : Nat) : (List.replicate n (0 : Int))[z]?.getD 0 = 0 := by
  rw [List.getElem?_replicate]
  split <;> rfl
theorem len_st (fs os : List Int) (limit : Nat) (hfs : ∀ z ∈ fs, 0 ≤ z ∧ z ≤ 1073741824) (hp : os.Perm (ordL fs fs.length)) (hs : Srt (keyF fs) os 0 os.length) (h1 : 1 ≤ limit) (h2 : 2 ≤ os.length) (hlim : os.length ≤ 2 ^ limit) (i : Nat) (hi : i ≤ limit) :
    ∃ S, SpSt (singlesL fs os) os fs.length limit i (spR (singlesL fs os) os (List.replicate fs.length 0) (2 * os.length - 2) limit i).1 (spR (singlesL fs os) os (List.replicate fs.length 0) (2 * os.length - 2) limit i).2 S := by
  have hO := os_ords hp
  have := sp_all (List.replicate fs.length 0) (singles_sing hfs hs) (upto_length _ _) (by rw [List.length_replicate]; exact hO) (rep_zero fs.length) h1 h2 hlim i hi
  rwa [List.length_replicate] at this
theorem len_safe (fs os : List Int) (limit : Nat) (hfs : ∀ z ∈ fs, 0 ≤ z ∧ z ≤ 1073741824) (hp : os.Perm (ordL fs fs.length)) (hs : Srt (keyF fs) os 0 os.length) (h1 : 1 ≤ limit) (h2 : 2 ≤ os.length) (hlim : os.length ≤ 2 ^ limit) :
    ∀ k, k < limit → (spR (singlesL fs os) os (List.replicate fs.length 0) (2 * os.length - 2) limit k).2 ≤ (rowN (singlesL fs os) (limit - 1 - k)).length := by
  intro k hk
  obtain ⟨S, st⟩ := len_st fs os limit hfs hp hs h1 h2 hlim k (by omega)
  exact st.fit hk

set_option maxRecDepth 100000 in
set_option maxHeartbeats 4000000 in
theorem lengths_two (S : Nat → Prop) (a : Option Addr) (cap limit : Nat) (fs : List Int) (w : World) (hS : ∀ k, S k → k < w.heap.size) (hF : IntsIn S w (.slice a fs.length cap) fs) (h1 : 1 ≤ limit) (h15 : limit ≤ 15) (hl : fs.length ≤ 320) (hfs : ∀ z ∈ fs, 0 ≤ z ∧ z ≤ 1073741824)
    (h2 : 2 ≤ (ordL fs fs.length).length) (hlim : (ordL fs fs.length).length ≤ 2 ^ limit) :
    Calls Try.prog 4 #[.slice a fs.length cap, .int .i64 limit] w fun e w' => ∃ GL os, e = .returned (.tuple #[.slice (some ⟨GL, 0, none⟩) fs.length fs.length, .int .i64 0]) ∧ os.Perm (ordL fs fs.length) ∧ Srt (keyF fs) os 0 os.length ∧ Row w' GL 3 (intsV (lenO fs os limit)) ∧ Below w.heap.size w w' := by
  obtain ⟨i0, hi, hz0, hz1, hz2⟩ := info_parts Try.info3
  have t1 : ¬ (320 : Int) < fs.length := by omega
  have t2 : ¬ (limit : Int) < 1 := by omega
  have t3 : ¬ (15 : Int) < limit := by omega
  have b0 := Row.new w 22 #[.slice a fs.length cap]
  have hB0 : Below w.heap.size w (w.alloc (.cells #[.slice a fs.length cap] 22)) := (Below.refl _ w).alloc (Nat.le_refl _) _
  have hs0 : (w.alloc (.cells #[.slice a fs.length cap] 22)).heap.size = w.heap.size + 1 := by simp
  have cb := b0.cell (i := 0) (v := .slice a fs.length cap) rfl
  go_enter Try.func4, Try.ntmps4
  go_wp2
  generalize w.alloc (.cells #[.slice a fs.length cap] 22) = w1 at b0 hB0 hs0 cb ⊢
  go_loopw [6, 23] (fun v6 v23 wr => ∃ k : Nat, k ≤ fs.length ∧ v23 = .int .i64 k ∧ wr.ownsRow (w.heap.size + 1) 3 1 v6 (ordL fs k).length ((ordL fs k).map (Value.int .i64)) ∧ Below (w.heap.size + 1) w1 wr)
    (fun _ v23 _ => fs.length - (intOf v23).toNat)
  case atStart => exact ⟨0, Nat.zero_le _, rfl, World.ownsRow_nil _ _ _ _, Below.refl _ _⟩
  case round =>
    obtain ⟨k, hk, rfl, hown, hB⟩ := hrel
    by_cases hlt : k < fs.length
    · obtain ⟨bf, of, rfl, hbf, ef⟩ := hF.at k hlt
      have hwl := hS bf hbf
      have cf : wr.cell? ⟨bf, of + k, none⟩ = some (.int .i64 (fs[k]?.getD 0)) := (hB.cell (p := ⟨bf, of + k, none⟩) (by simp; omega)).trans ((hB0.cell (p := ⟨bf, of + k, none⟩) hwl).trans ef)
      have hfk : 0 ≤ fs[k]?.getD 0 ∧ fs[k]?.getD 0 ≤ 1073741824 := by
        have := hfs _ (List.getElem_mem hlt)
        simpa [hlt] using this
      have HO1 : Hid (ordL fs (k + 1) = if 0 < fs[k]?.getD 0 then ordL fs k ++ [(k : Int)] else ordL fs k) := rfl
      have holen := ordL_length fs k
      clear ef hF
      generalize fs[k]?.getD 0 = f at cf hfk HO1
      by_cases hf0 : 0 < f
      · have e1 : ordL fs (k + 1) = ordL fs k ++ [(k : Int)] := by rw [show ordL fs (k + 1) = _ from HO1.out, if_pos hf0]
        have HE1 : Hid _ := e1
        clear e1
        have hsz := hB.size
        go_wp2_with (at_builtin; refine wpList_append_own2 _ rfl (.tmp 36) (.tmp 38) 22 rfl (w.heap.size + 1) 3 i0 (.int .i64 0) 1 8 Try.underlying22 hi hz0 hz1 hz2 rfl (by decide) _ _ _ rfl (hown.alloc _) ⟨wr.heap.size, 0, none⟩ 1 1 [.int .i64 (k : Int)] rfl rfl (cell_one_new _ _ _) (by simp [Value.oneCell']) (by unfold maxLen; omega) (by omega) (by simp; omega) ?_)
        intro v' w3 hown' hgrow hblk
        have hB3 : Below (w.heap.size + 1) w1 w3 := (hB.alloc (by omega) _).grown hgrow (by simp; omega) (fun r e => by
          rcases hown.2 with ⟨rfl, _⟩ | ⟨g, c, cur, rfl, hb, _⟩
          · simp [Value.ownBlock] at e
          · simp [Value.ownBlock] at e; omega)
        have hown3 : w3.ownsRow (w.heap.size + 1) 3 1 v' (ordL fs (k + 1)).length ((ordL fs (k + 1)).map (Value.int .i64)) := by
          rw [show ordL fs (k + 1) = _ from HE1.out]
          simpa using hown'
        go_wp2
        go_roundw
        case rel => exact ⟨k + 1, by omega, by simp, hown3, hB3⟩
        case measure => simp [intOf]; omega
      · have e1 : ordL fs (k + 1) = ordL fs k := by rw [show ordL fs (k + 1) = _ from HO1.out, if_neg hf0]
        have HE1 : Hid _ := e1
        clear e1
        have hown3 : wr.ownsRow (w.heap.size + 1) 3 1 u6 (ordL fs (k + 1)).length ((ordL fs (k + 1)).map (Value.int .i64)) := by
          rw [show ordL fs (k + 1) = _ from HE1.out]
          exact hown
        go_wp2
        go_roundw
        case rel => exact ⟨k + 1, by omega, by simp, hown3, hB⟩
        case measure => simp [intOf]; omega
    · obtain rfl : k = fs.length := by omega
      obtain ⟨GO, oc, rfl, hGO, hOrd⟩ := ordIn_of_owns hown (by omega)
      have hom := ordL_mem fs fs.length
      have cb' : wr.cell? ⟨w.heap.size, 0, none⟩ = some (.slice a fs.length cap) := (hB.cell (p := ⟨w.heap.size, 0, none⟩) (by simp)).trans cb
      have hF1 : IntsIn (fun k => k < w.heap.size + 1) wr (.slice a fs.length cap) fs := ((hF.kept (Kept.of_below hB0 hS)).mono (fun k hk => by have := hS k hk; omega)).kept (Kept.of_below hB (fun _ h => h))
      have holen := ordL_length fs fs.length
      have hsort := sort_any (fun k => k < w.heap.size + 1) GO w.heap.size oc a cap fs (ordL fs fs.length) wr ⟨by omega, by omega, cb', hF1⟩ hOrd hom (by omega)
      have HSO : Hid _ := hsort
      have hmk := run_make_row' (P := Try.prog) 22 3 (.int .i64 0) 8 Try.underlying22 Try.info3 rfl .i64 .i64 fs.length (by omega) (by omega)
      rw [intsV_made] at hmk
      clear hsort hown hk hlt hom hz0 hz1 hz2 hi holen
      have h2l : 2 ^ limit ≤ 2 ^ 15 := Nat.pow_le_pow_right (by omega) h15
      have hp1 : ((2 ^ limit : Nat) : Int) = (2 : Int) ^ limit := by simp
      have hw : wrap64 ((2 : Int) ^ limit) = (2 : Int) ^ limit := wrap64_id _ (by omega)
      have t4 : ¬ (2 : Int) ^ limit < (ordL fs fs.length).length := by omega
      clear hp1 h2l
      go_wp2_with fail
      refine Calls.mono HSO.out ?_
      rintro e w2 ⟨rfl, os, hO2, hPm, hSt, hK2⟩
      have hsl : os.length = (ordL fs fs.length).length := hPm.length_eq
      have hsm : ∀ z ∈ os, 0 ≤ z ∧ z < (fs.length : Int) := fun z hz => ordL_mem fs fs.length z (hPm.mem_iff.1 hz)
      rw [← hsl] at hSt
      have hos320 : os.length ≤ 320 := by have := ordL_length fs fs.length; omega
      have hsafe := len_safe fs os limit hfs hPm hSt h1 (by omega) (by omega)
      have HPS : Hid (os.Perm (ordL fs fs.length) ∧ Srt (keyF fs) os 0 os.length) := ⟨hPm, hSt⟩
      clear hPm hSt
      have hBw2 : Below w.heap.size w w2 := (hB0.trans (hB.mono (by omega))).trans (hK2.below (fun k hk => by omega))
      have hwr := hB.size
      have hs2 := hK2.size
      have hgo2 := hO2.lt
      have cb2 : w2.cell? ⟨w.heap.size, 0, none⟩ = some (.slice a fs.length cap) := (hK2.cell (p := ⟨w.heap.size, 0, none⟩) (show w.heap.size ≠ GO by omega)).trans cb'
      have hF2 : IntsIn (fun k => k < w2.heap.size) w2 (.slice a fs.length cap) fs := (hF.kept (Kept.of_below hBw2 hS)).mono (fun k hk => by have := hS k hk; omega)
      have RL := Row.new w2 3 (intsV (List.replicate fs.length 0))
      have hBa : Below w2.heap.size w2 (w2.alloc (.cells (intsV (List.replicate fs.length 0)) 3)) := (Below.refl _ w2).alloc (Nat.le_refl _) _
      have hsa : (w2.alloc (.cells (intsV (List.replicate fs.length 0)) 3)).heap.size = w2.heap.size + 1 := by simp
      have cb3 : (w2.alloc (.cells (intsV (List.replicate fs.length 0)) 3)).cell? ⟨w.heap.size, 0, none⟩ = some (.slice a fs.length cap) := (hBa.cell (p := ⟨w.heap.size, 0, none⟩) (by simp; omega)).trans cb2
      have hO3 : OrdIn (w2.alloc (.cells (intsV (List.replicate fs.length 0)) 3)) GO os := hO2.kept (S := fun k => k < w2.heap.size) (Kept.of_below hBa (fun _ h => h)) hgo2
      have hF3 : IntsIn (fun k => k < w2.heap.size + 1) (w2.alloc (.cells (intsV (List.replicate fs.length 0)) 3)) (.slice a fs.length cap) fs := (hF2.kept (Kept.of_below hBa (fun _ h => h))).mono (fun k hk => by omega)
      have t5 : (((ordL fs fs.length).length : Int) == 1) = false := by simp; omega
      clear HSO cb' hF2 hF1 hO2 hOrd
      generalize hw3 : w2.alloc (.cells (intsV (List.replicate fs.length 0)) 3) = w3 at RL hBa hsa cb3 hO3 hF3
      have hrows := rows_any (fun k => k < w2.heap.size + 1) a (some ⟨GO, 0, none⟩) cap oc limit fs os w3 (fun k hk => by omega) hF3 (hO3.ints (by omega) oc) h1 h15 hl (by omega) hsm hfs
      rw [hsl] at hrows
      have HRW : Hid _ := hrows
      have HSL : Hid _ := hsl
      have HSM : Hid _ := hsm
      have HSF : Hid _ := hsafe
      clear hrows hsl hsm hF3 hF hfs hsafe
      go_wp2_with fail
      refine Calls.mono HRW.out ?_
      rintro e w4 ⟨GA, rfl, hGA, hRows, hB4⟩
      have hs4 := hB4.size
      have RL4 := RL.below hB4 (by omega)
      have hO4 : OrdIn w4 GO os := hO3.kept (S := fun k => k < w3.heap.size) (Kept.of_below hB4 (fun _ h => h)) (by omega)
      have cb4 : w4.cell? ⟨w.heap.size, 0, none⟩ = some (.slice a fs.length cap) := (hB4.cell (p := ⟨w.heap.size, 0, none⟩) (by simp; omega)).trans cb3
      have hsp := callsIn_wide.1 (spend_in (fun k => k = GO) (some ⟨GO, 0, none⟩) oc GA w2.heap.size limit fs.length w3.heap.size (singlesL fs os) os (List.replicate fs.length 0) w4 (fun k hk => by omega) hRows (OrdIn.ints (S := fun k => k = GO) hO4 rfl oc) RL4 (by omega) h1 h15 (by have := HSL.out; omega) (upto_length _ _) (by have := HSL.out; omega) (by simpa using HSM.out) (fun v hv => by simp at hv; exact hv.2) HSF.out)
      rw [show os.length = _ from HSL.out, List.length_replicate] at hsp
      have HSP : Hid _ := hsp
      clear hsp HRW hRows
      go_wp2_with fail
      refine Calls.mono HSP.out ?_
      rintro e w5 ⟨rfl, hR5, hK5⟩
      have HF5 : Hid (Row w5 w2.heap.size 3 (intsV (lenO fs os limit))) := by
        show Row _ _ _ (intsV (spR _ _ _ _ _ _).1)
        rw [show os.length = _ from HSL.out]
        exact hR5
      have HB5 : Hid (Below w.heap.size w w5) := (((hBw2.trans (hBa.mono (by omega))).trans (hB4.mono (by omega))).trans (hK5.below (fun k hk => ⟨by omega, by omega⟩)))
      clear HSP hR5 hK5
      go_wp2
      exact bodyPost_ret (v := .tuple #[.slice (some ⟨w2.heap.size, 0, none⟩) fs.length fs.length, .int .i64 0]) (by simp [results, Try.f4, go_sem]) rfl ⟨_, os, rfl, HPS.out.1, HPS.out.2, HF5.out, HB5.out⟩
end Go.Proofs.Ytiakploggmmklaa
