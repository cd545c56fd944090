import Derived.Test.YtinbilbgipfemaaDoorSpdM
import Derived.Test.YtinbilbgipfemaaDoorSinM
import Derived.Test.YtinbilbgipfemaaDoorSpdM
import Derived.Test.YtinbilbgipfemaaDoorCodM
import Derived.Test.YtinbilbgipfemaaDoorTabM
/- Lengths of two symbols and more, any number of them. -/
namespace Go.Proofs.YtinbilbgipfemaaDoor
open Go.RowKit

theorem ordL_inc (fs : List Int) : ∀ k, (ordL fs k).Pairwise (· < ·)
  | 0 => List.Pairwise.nil
  | k + 1 => by
    rw [ordL]
    split
    · refine List.pairwise_append.2 ⟨ordL_inc fs k, List.pairwise_singleton _ _, fun x hx y hy => ?_⟩
      have := ordL_mem fs k x hx
      simp at hy
      omega
    · exact ordL_inc fs k
theorem ordL_pos (fs : List Int) : ∀ k, ∀ z ∈ ordL fs k, 0 < keyF fs z
  | 0, z, h => by simp [ordL] at h
  | k + 1, z, h => by
    rw [ordL] at h
    split at h
    · rename_i c
      rcases List.mem_append.1 h with h | h
      · exact ordL_pos fs k z h
      · simp at h
        subst h
        unfold keyF
        rw [Int.toNat_natCast]
        exact c
    · exact ordL_pos fs k z h
theorem os_ords {fs os : List Int} (hp : os.Perm (ordL fs fs.length)) : Ords os fs.length := by
  have hm : ∀ z ∈ os, 0 ≤ z ∧ z < (fs.length : Int) := fun z hz => ordL_mem fs fs.length z (hp.mem_iff.1 hz)
  have hnd : os.Nodup := hp.nodup_iff.2 ((ordL_inc fs fs.length).imp (fun h e => by omega))
  have hg : ∀ j (hj : j < os.length), posN os j = os[j].toNat := fun j hj => by unfold posN; rw [List.getElem?_eq_getElem hj]; rfl
  refine ⟨fun i j hi hj e => ?_, fun j hj => ?_⟩
  · rw [hg i hi, hg j hj] at e
    have a1 := hm _ (List.getElem_mem hi)
    have a2 := hm _ (List.getElem_mem hj)
    have hne := List.pairwise_iff_getElem.1 hnd
    rcases Nat.lt_trichotomy i j with h | h | h
    · exact absurd (show os[i] = os[j] by omega) (hne i j hi hj h)
    · exact h
    · exact absurd (show os[j] = os[i] by omega) (hne j i hj hi h)
  · rw [hg j hj]
    have := hm _ (List.getElem_mem hj)
    omega
theorem singles_at (fs os : List Int) (j : Nat) (hj : j < (singlesL fs os).length) : (singlesL fs os)[j] = (keyF fs (gt os j), true) := by simp [singlesL, upto, singleF, keyF, gt]
theorem singles_sing {fs os : List Int} (hfs : ∀ z ∈ fs, 0 ≤ z ∧ z ≤ 1073741824) (hs : Srt (keyF fs) os 0 os.length) : Sing (singlesL fs os) := by
  have hl : (singlesL fs os).length = os.length := upto_length _ _
  have hk : ∀ x, 0 ≤ keyF fs x := fun x => by
    unfold keyF
    by_cases h : x.toNat < fs.length
    · rw [List.getElem?_eq_getElem h]
      exact (hfs _ (List.getElem_mem h)).1
    · rw [List.getElem?_eq_none (by omega)]
      simp
  refine ⟨List.pairwise_iff_getElem.2 (fun i j hi hj hij => ?_), fun c hc => ?_, fun c hc => ?_⟩
  · rw [singles_at, singles_at]
    exact hs i j (Nat.zero_le _) (by omega) (by omega)
  · unfold singlesL upto at hc
    obtain ⟨j, _, rfl⟩ := List.mem_map.1 hc
    rfl
  · unfold singlesL upto at hc
    obtain ⟨j, _, rfl⟩ := List.mem_map.1 hc
    exact hk _
/-- The lengths that the order of the symbols makes. -/
def lenO (fs os : List Int) (limit : Nat) : List Int := (spR (singlesL fs os) os (List.replicate fs.length 0) (2 * os.length - 2) limit limit).1
theorem rep_zero (n z : Nat) : (List.replicate n (0 : Int))[z]?.getD 0 = 0 := by
  rw [List.getElem?_replicate]
  split <;> rfl
theorem len_st (fs os : List Int) (limit : Nat) (hfs : ∀ z ∈ fs, 0 ≤ z ∧ z ≤ 1073741824) (hp : os.Perm (ordL fs fs.length)) (hs : Srt (keyF fs) os 0 os.length) (h1 : 1 ≤ limit) (h2 : 2 ≤ os.length) (hlim : os.length ≤ 2 ^ limit) (i : Nat) (hi : i ≤ limit) :
    ∃ S, SpSt (singlesL fs os) os fs.length limit i (spR (singlesL fs os) os (List.replicate fs.length 0) (2 * os.length - 2) limit i).1 (spR (singlesL fs os) os (List.replicate fs.length 0) (2 * os.length - 2) limit i).2 S := by
  have hO := os_ords hp
  have := sp_all (List.replicate fs.length 0) (singles_sing hfs hs) (upto_length _ _) (by rw [List.length_replicate]; exact hO) (rep_zero fs.length) h1 h2 hlim i hi
  rwa [List.length_replicate] at this
theorem len_safe (fs os : List Int) (limit : Nat) (hfs : ∀ z ∈ fs, 0 ≤ z ∧ z ≤ 1073741824) (hp : os.Perm (ordL fs fs.length)) (hs : Srt (keyF fs) os 0 os.length) (h1 : 1 ≤ limit) (h2 : 2 ≤ os.length) (hlim : os.length ≤ 2 ^ limit) :
    ∀ k, k < limit → (spR (singlesL fs os) os (List.replicate fs.length 0) (2 * os.length - 2) limit k).2 ≤ (rowN (singlesL fs os) (limit - 1 - k)).length := by
  intro k hk
  obtain ⟨S, st⟩ := len_st fs os limit hfs hp hs h1 h2 hlim k (by omega)
  exact st.fit hk

set_option maxRecDepth 100000 in
set_option maxHeartbeats 4000000 in
theorem lengths_two (S : Nat → Prop) (a : Option Addr) (cap limit : Nat) (fs : List Int) (w : World) (hS : ∀ k, S k → k < w.heap.size) (hF : IntsIn S w (.slice a fs.length cap) fs) (h1 : 1 ≤ limit) (h15 : limit ≤ 15) (hl : fs.length ≤ 320) (hfs : ∀ z ∈ fs, 0 ≤ z ∧ z ≤ 1073741824)
    (h2 : 2 ≤ (ordL fs fs.length).length) (hlim : (ordL fs fs.length).length ≤ 2 ^ limit) :
    Calls Tryd.prog 76 #[.slice a fs.length cap, .int .i64 limit] w fun e w' => ∃ GL os, e = .returned (.tuple #[.slice (some ⟨GL, 0, none⟩) fs.length fs.length, .int .i64 0]) ∧ os.Perm (ordL fs fs.length) ∧ Srt (keyF fs) os 0 os.length ∧ Row w' GL 3 (intsV (lenO fs os limit)) ∧ Below w.heap.size w w' ∧ w.heap.size ≤ GL := by
  obtain ⟨i0, hi, hz0, hz1, hz2⟩ := info_parts Tryd.info3
  have t1 : ¬ (320 : Int) < fs.length := by omega
  have t2 : ¬ (limit : Int) < 1 := by omega
  have t3 : ¬ (15 : Int) < limit := by omega
  have b0 := Row.new w 40 #[.slice a fs.length cap]
  have hB0 : Below w.heap.size w (w.alloc (.cells #[.slice a fs.length cap] 40)) := (Below.refl _ w).alloc (Nat.le_refl _) _
  have hs0 : (w.alloc (.cells #[.slice a fs.length cap] 40)).heap.size = w.heap.size + 1 := by simp
  have cb := b0.cell (i := 0) (v := .slice a fs.length cap) rfl
  go_enter Tryd.func76, Tryd.ntmps76
  go_wp2
  generalize w.alloc (.cells #[.slice a fs.length cap] 40) = w1 at b0 hB0 hs0 cb ⊢
  go_loopw [6, 23] (fun v6 v23 wr => ∃ k : Nat, k ≤ fs.length ∧ v23 = .int .i64 k ∧ wr.ownsRow (w.heap.size + 1) 3 1 v6 (ordL fs k).length ((ordL fs k).map (Value.int .i64)) ∧ Below (w.heap.size + 1) w1 wr)
    (fun _ v23 _ => fs.length - (intOf v23).toNat)
  case atStart => exact ⟨0, Nat.zero_le _, rfl, World.ownsRow_nil _ _ _ _, Below.refl _ _⟩
  case round =>
    obtain ⟨k, hk, rfl, hown, hB⟩ := hrel
    by_cases hlt : k < fs.length
    · obtain ⟨bf, of, rfl, hbf, ef⟩ := hF.at k hlt
      have hwl := hS bf hbf
      have cf : wr.cell? ⟨bf, of + k, none⟩ = some (.int .i64 (fs[k]?.getD 0)) := (hB.cell (p := ⟨bf, of + k, none⟩) (by simp; omega)).trans ((hB0.cell (p := ⟨bf, of + k, none⟩) hwl).trans ef)
      have hfk : 0 ≤ fs[k]?.getD 0 ∧ fs[k]?.getD 0 ≤ 1073741824 := by
        have := hfs _ (List.getElem_mem hlt)
        simpa [hlt] using this
      have HO1 : Hid (ordL fs (k + 1) = if 0 < fs[k]?.getD 0 then ordL fs k ++ [(k : Int)] else ordL fs k) := rfl
      have holen := ordL_length fs k
      clear ef hF
      generalize fs[k]?.getD 0 = f at cf hfk HO1
      by_cases hf0 : 0 < f
      · have e1 : ordL fs (k + 1) = ordL fs k ++ [(k : Int)] := by rw [show ordL fs (k + 1) = _ from HO1.out, if_pos hf0]
        have HE1 : Hid _ := e1
        clear e1
        have hsz := hB.size
        go_wp2_with (at_builtin; refine wpList_append_own2 _ rfl (.tmp 36) (.tmp 38) 40 rfl (w.heap.size + 1) 3 i0 (.int .i64 0) 1 8 Tryd.underlying40 hi hz0 hz1 hz2 rfl (by decide) _ _ _ rfl (hown.alloc _) ⟨wr.heap.size, 0, none⟩ 1 1 [.int .i64 (k : Int)] rfl rfl (cell_one_new _ _ _) (by simp [Value.oneCell']) (by unfold maxLen; omega) (by omega) (by simp; omega) ?_)
        intro v' w3 hown' hgrow hblk
        have hB3 : Below (w.heap.size + 1) w1 w3 := (hB.alloc (by omega) _).grown hgrow (by simp; omega) (fun r e => by
          rcases hown.2 with ⟨rfl, _⟩ | ⟨g, c, cur, rfl, hb, _⟩
          · simp [Value.ownBlock] at e
          · simp [Value.ownBlock] at e; omega)
        have hown3 : w3.ownsRow (w.heap.size + 1) 3 1 v' (ordL fs (k + 1)).length ((ordL fs (k + 1)).map (Value.int .i64)) := by
          rw [show ordL fs (k + 1) = _ from HE1.out]
          simpa using hown'
        go_wp2
        go_roundw
        case rel => exact ⟨k + 1, by omega, by simp, hown3, hB3⟩
        case measure => simp [intOf]; omega
      · have e1 : ordL fs (k + 1) = ordL fs k := by rw [show ordL fs (k + 1) = _ from HO1.out, if_neg hf0]
        have HE1 : Hid _ := e1
        clear e1
        have hown3 : wr.ownsRow (w.heap.size + 1) 3 1 u6 (ordL fs (k + 1)).length ((ordL fs (k + 1)).map (Value.int .i64)) := by
          rw [show ordL fs (k + 1) = _ from HE1.out]
          exact hown
        go_wp2
        go_roundw
        case rel => exact ⟨k + 1, by omega, by simp, hown3, hB⟩
        case measure => simp [intOf]; omega
    · obtain rfl : k = fs.length := by omega
      obtain ⟨GO, oc, rfl, hGO, hOrd⟩ := ordIn_of_owns hown (by omega)
      have hom := ordL_mem fs fs.length
      have cb' : wr.cell? ⟨w.heap.size, 0, none⟩ = some (.slice a fs.length cap) := (hB.cell (p := ⟨w.heap.size, 0, none⟩) (by simp)).trans cb
      have hF1 : IntsIn (fun k => k < w.heap.size + 1) wr (.slice a fs.length cap) fs := ((hF.kept (Kept.of_below hB0 hS)).mono (fun k hk => by have := hS k hk; omega)).kept (Kept.of_below hB (fun _ h => h))
      have holen := ordL_length fs fs.length
      have hsort := sort_any (fun k => k < w.heap.size + 1) GO w.heap.size oc a cap fs (ordL fs fs.length) wr ⟨by omega, by omega, cb', hF1⟩ hOrd hom (by omega)
      have HSO : Hid _ := hsort
      have hmk := run_make_row' (P := Tryd.prog) 40 3 (.int .i64 0) 8 Tryd.underlying40 Tryd.info3 rfl .i64 .i64 fs.length (by omega) (by omega)
      rw [intsV_made] at hmk
      clear hsort hown hk hlt hom hz0 hz1 hz2 hi holen
      have h2l : 2 ^ limit ≤ 2 ^ 15 := Nat.pow_le_pow_right (by omega) h15
      have hp1 : ((2 ^ limit : Nat) : Int) = (2 : Int) ^ limit := by simp
      have hw : wrap64 ((2 : Int) ^ limit) = (2 : Int) ^ limit := wrap64_id _ (by omega)
      have t4 : ¬ (2 : Int) ^ limit < (ordL fs fs.length).length := by omega
      clear hp1 h2l
      go_wp2_with fail
      refine Calls.mono HSO.out ?_
      rintro e w2 ⟨rfl, os, hO2, hPm, hSt, hK2⟩
      have hsl : os.length = (ordL fs fs.length).length := hPm.length_eq
      have hsm : ∀ z ∈ os, 0 ≤ z ∧ z < (fs.length : Int) := fun z hz => ordL_mem fs fs.length z (hPm.mem_iff.1 hz)
      rw [← hsl] at hSt
      have hos320 : os.length ≤ 320 := by have := ordL_length fs fs.length; omega
      have hsafe := len_safe fs os limit hfs hPm hSt h1 (by omega) (by omega)
      have HPS : Hid (os.Perm (ordL fs fs.length) ∧ Srt (keyF fs) os 0 os.length) := ⟨hPm, hSt⟩
      clear hPm hSt
      have hBw2 : Below w.heap.size w w2 := (hB0.trans (hB.mono (by omega))).trans (hK2.below (fun k hk => by omega))
      have hwr := hB.size
      have hs2 := hK2.size
      have hgo2 := hO2.lt
      have cb2 : w2.cell? ⟨w.heap.size, 0, none⟩ = some (.slice a fs.length cap) := (hK2.cell (p := ⟨w.heap.size, 0, none⟩) (show w.heap.size ≠ GO by omega)).trans cb'
      have hF2 : IntsIn (fun k => k < w2.heap.size) w2 (.slice a fs.length cap) fs := (hF.kept (Kept.of_below hBw2 hS)).mono (fun k hk => by have := hS k hk; omega)
      have RL := Row.new w2 3 (intsV (List.replicate fs.length 0))
      have hBa : Below w2.heap.size w2 (w2.alloc (.cells (intsV (List.replicate fs.length 0)) 3)) := (Below.refl _ w2).alloc (Nat.le_refl _) _
      have hsa : (w2.alloc (.cells (intsV (List.replicate fs.length 0)) 3)).heap.size = w2.heap.size + 1 := by simp
      have cb3 : (w2.alloc (.cells (intsV (List.replicate fs.length 0)) 3)).cell? ⟨w.heap.size, 0, none⟩ = some (.slice a fs.length cap) := (hBa.cell (p := ⟨w.heap.size, 0, none⟩) (by simp; omega)).trans cb2
      have hO3 : OrdIn (w2.alloc (.cells (intsV (List.replicate fs.length 0)) 3)) GO os := hO2.kept (S := fun k => k < w2.heap.size) (Kept.of_below hBa (fun _ h => h)) hgo2
      have hF3 : IntsIn (fun k => k < w2.heap.size + 1) (w2.alloc (.cells (intsV (List.replicate fs.length 0)) 3)) (.slice a fs.length cap) fs := (hF2.kept (Kept.of_below hBa (fun _ h => h))).mono (fun k hk => by omega)
      have t5 : (((ordL fs fs.length).length : Int) == 1) = false := by simp; omega
      clear HSO cb' hF2 hF1 hO2 hOrd
      generalize hw3 : w2.alloc (.cells (intsV (List.replicate fs.length 0)) 3) = w3 at RL hBa hsa cb3 hO3 hF3
      have hrows := rows_any (fun k => k < w2.heap.size + 1) a (some ⟨GO, 0, none⟩) cap oc limit fs os w3 (fun k hk => by omega) hF3 (hO3.ints (by omega) oc) h1 h15 hl (by omega) hsm hfs
      rw [hsl] at hrows
      have HRW : Hid _ := hrows
      have HSL : Hid _ := hsl
      have HSM : Hid _ := hsm
      have HSF : Hid _ := hsafe
      clear hrows hsl hsm hF3 hF hfs hsafe
      go_wp2_with fail
      refine Calls.mono HRW.out ?_
      rintro e w4 ⟨GA, rfl, hGA, hRows, hB4⟩
      have hs4 := hB4.size
      have RL4 := RL.below hB4 (by omega)
      have hO4 : OrdIn w4 GO os := hO3.kept (S := fun k => k < w3.heap.size) (Kept.of_below hB4 (fun _ h => h)) (by omega)
      have cb4 : w4.cell? ⟨w.heap.size, 0, none⟩ = some (.slice a fs.length cap) := (hB4.cell (p := ⟨w.heap.size, 0, none⟩) (by simp; omega)).trans cb3
      have hsp := callsIn_wide.1 (spend_in (fun k => k = GO) (some ⟨GO, 0, none⟩) oc GA w2.heap.size limit fs.length w3.heap.size (singlesL fs os) os (List.replicate fs.length 0) w4 (fun k hk => by omega) hRows (OrdIn.ints (S := fun k => k = GO) hO4 rfl oc) RL4 (by omega) h1 h15 (by have := HSL.out; omega) (upto_length _ _) (by have := HSL.out; omega) (by simpa using HSM.out) (fun v hv => by simp at hv; exact hv.2) HSF.out)
      rw [show os.length = _ from HSL.out, List.length_replicate] at hsp
      have HSP : Hid _ := hsp
      clear hsp HRW hRows
      go_wp2_with fail
      refine Calls.mono HSP.out ?_
      rintro e w5 ⟨rfl, hR5, hK5⟩
      have HF5 : Hid (Row w5 w2.heap.size 3 (intsV (lenO fs os limit))) := by
        show Row _ _ _ (intsV (spR _ _ _ _ _ _).1)
        rw [show os.length = _ from HSL.out]
        exact hR5
      have HZ5 : Hid (w.heap.size ≤ w2.heap.size) := hBw2.size
      have HB5 : Hid (Below w.heap.size w w5) := (((hBw2.trans (hBa.mono (by omega))).trans (hB4.mono (by omega))).trans (hK5.below (fun k hk => ⟨by omega, by omega⟩)))
      clear HSP hR5 hK5
      go_wp2
      exact bodyPost_ret (v := .tuple #[.slice (some ⟨w2.heap.size, 0, none⟩) fs.length fs.length, .int .i64 0]) (by simp [results, Tryd.f76, go_sem]) rfl ⟨_, os, rfl, HPS.out.1, HPS.out.2, HF5.out, HB5.out, HZ5.out⟩
end Go.Proofs.YtinbilbgipfemaaDoor
/- The lengths that are made: right, where they belong, and at the cost of the last row's first coins (pure). -/
namespace Go.Proofs.YtinbilbgipfemaaDoor
open Go.RowKit

/-- What the law asks of lengths. -/
structure Best (fs ls : List Int) (limit : Nat) (c : Int) : Prop where
  len : ls.length = fs.length
  right : errOf ls = 0
  there : ∀ i, i < fs.length → (ls[i]?.getD 0 = 0 ↔ fs[i]?.getD 0 = 0)
  top : ∀ i, i < fs.length → 0 ≤ ls[i]?.getD 0 ∧ ls[i]?.getD 0 ≤ limit
  cost : costR fs ls = c

theorem sum_at (g : Int → Int) (os : List Int) : ∀ s, s ≤ os.length → sumTo (fun j => g (os[j]?.getD 0)) s = ((os.take s).map g).sum
  | 0, _ => rfl
  | s + 1, h => by
    rw [List.take_succ_eq_append_getElem (by omega), List.map_append, List.sum_append, sumTo, sum_at g os s (by omega), List.getElem?_eq_getElem (by omega)]
    simp
theorem sum_ord (g : Int → Int) (fs : List Int) : ∀ k, ((ordL fs k).map g).sum = sumTo (fun i => if 0 < fs[i]?.getD 0 then g (i : Int) else 0) k
  | 0 => rfl
  | k + 1 => by
    rw [ordL, sumTo]
    split
    · rw [List.map_append, List.sum_append, sum_ord g fs k]
      simp
    · rw [sum_ord g fs k]
      omega
theorem sum_os (g : Int → Int) {fs os : List Int} (hp : os.Perm (ordL fs fs.length)) : sumTo (fun j => g (os[j]?.getD 0)) os.length = sumTo (fun i => if 0 < fs[i]?.getD 0 then g (i : Int) else 0) fs.length := by
  rw [sum_at g os _ (Nat.le_refl _), List.take_length, sum_perm (hp.map g), sum_ord]
theorem sumTo_mul (c : Int) (f : Nat → Int) : ∀ n, sumTo (fun j => c * f j) n = c * sumTo f n
  | 0 => by simp [sumTo]
  | n + 1 => by rw [sumTo, sumTo, sumTo_mul c f n, Int.mul_add]
theorem ordL_has (fs : List Int) : ∀ k i, i < k → 0 < fs[i]?.getD 0 → (i : Int) ∈ ordL fs k
  | 0, _, h, _ => by omega
  | k + 1, i, h, h0 => by
    rw [ordL]
    by_cases e : i = k
    · subst e
      rw [if_pos h0]
      simp
    · have := ordL_has fs k i (by omega) h0
      split
      · exact List.mem_append_left _ this
      · exact this
theorem spS_sum (zs : List Int) : ∀ k, ((spS zs k).1 : Int) = sumTo (fun i => if 0 < zs[i]?.getD 0 then (2 : Int) ^ (15 - (zs[i]?.getD 0).toNat) else 0) k
  | 0 => rfl
  | k + 1 => by
    rw [spS, sumTo, ← spS_sum zs k]
    split
    · simp
    · simp
theorem room_sum (zs : List Int) (h : inRange zs) : (room zs 15 : Int) = sumTo (fun i => if 0 < zs[i]?.getD 0 then (2 : Int) ^ (15 - (zs[i]?.getD 0).toNat) else 0) zs.length := by
  rw [← spS_sum, spS_spec zs h _ (Nat.le_refl _), List.take_length]
theorem cost_sum (fs ls : List Int) (hf : ∀ z ∈ fs, 0 ≤ z ∧ z ≤ 1073741824) (hl : ∀ z ∈ ls, 0 ≤ z ∧ z ≤ 15) (h3 : fs.length ≤ 320) : ∀ k, k ≤ fs.length → k ≤ ls.length → costN fs ls k = some (sumTo (fun i => fs[i]?.getD 0 * ls[i]?.getD 0) k) ∧ 0 ≤ sumTo (fun i => fs[i]?.getD 0 * ls[i]?.getD 0) k ∧ sumTo (fun i => fs[i]?.getD 0 * ls[i]?.getD 0) k ≤ k * 16106127360
  | 0, _, _ => ⟨rfl, by simp [sumTo], by simp [sumTo]⟩
  | k + 1, h1, h2 => by
    obtain ⟨i1, i2, i3⟩ := cost_sum fs ls hf hl h3 k (by omega) (by omega)
    have a1 := hf _ (List.getElem_mem (show k < fs.length by omega))
    have a2 := hl _ (List.getElem_mem (show k < ls.length by omega))
    have e1 : fs[k]?.getD 0 = fs[k] := by simp [show k < fs.length by omega]
    have e2 : ls[k]?.getD 0 = ls[k] := by simp [show k < ls.length by omega]
    rw [costN, i1, sumTo, e1, e2]
    generalize sumTo (fun i => fs[i]?.getD 0 * ls[i]?.getD 0) k = s at i2 i3
    generalize fs[k] = f at a1
    generalize ls[k] = n at a2
    have p1 : 0 ≤ f * n := Int.mul_nonneg a1.1 a2.1
    have p2 : f * n ≤ 1073741824 * 15 := Int.mul_le_mul a1.2 a2.2 a2.1 (by omega)
    have p3 : f = 0 ∨ n = 0 → f * n = 0 := fun h => by rcases h with h | h <;> simp [h]
    rw [show ((some s : Option Int).bind fun s => stepC s f n) = stepC s f n from rfl]
    unfold stepC big
    generalize f * n = p at p1 p2 p3
    refine ⟨?_, by omega, by push_cast; omega⟩
    by_cases h0 : f = 0 ∨ n = 0
    · rw [if_pos h0, p3 h0, Int.add_zero]
    · rw [if_neg h0, if_neg (by simp; omega), if_neg (by simp; omega)]
theorem cost_val (fs ls : List Int) (hf : ∀ z ∈ fs, 0 ≤ z ∧ z ≤ 1073741824) (hl : ∀ z ∈ ls, 0 ≤ z ∧ z ≤ 15) (h3 : fs.length ≤ 320) (hn : ls.length = fs.length) : costR fs ls = sumTo (fun i => fs[i]?.getD 0 * ls[i]?.getD 0) fs.length := by
  unfold costR
  rw [hn, Nat.min_self, (cost_sum fs ls hf hl h3 fs.length (Nat.le_refl _) (by omega)).1]
  rfl
theorem errOf_right (ls : List Int) (h3 : ls.length ≤ 320) (hr : inRange ls) (h : rightB ls = true) : errOf ls = 0 := by
  unfold errOf
  rw [if_pos ⟨h3, hr⟩, if_pos h]
theorem in_of_top {fs ls : List Int} {limit : Nat} (hn : ls.length = fs.length) (h15 : limit ≤ 15) (ht : ∀ i, i < fs.length → 0 ≤ ls[i]?.getD 0 ∧ ls[i]?.getD 0 ≤ limit) : inRange ls := by
  intro z hz
  obtain ⟨i, hi, rfl⟩ := List.mem_iff_getElem.1 hz
  have := ht i (by omega)
  rw [List.getElem?_eq_getElem hi, Option.getD_some] at this
  omega
theorem fs_at {fs : List Int} (hfs : ∀ z ∈ fs, 0 ≤ z ∧ z ≤ 1073741824) (i : Nat) : 0 ≤ fs[i]?.getD 0 := by
  by_cases h : i < fs.length
  · rw [List.getElem?_eq_getElem h]
    exact (hfs _ (List.getElem_mem h)).1
  · rw [List.getElem?_eq_none (by omega)]
    simp
/-- Two symbols and more. -/
theorem best_two (fs os : List Int) (limit : Nat) (hfs : ∀ z ∈ fs, 0 ≤ z ∧ z ≤ 1073741824) (h3 : fs.length ≤ 320) (hp : os.Perm (ordL fs fs.length)) (hs : Srt (keyF fs) os 0 os.length) (h1 : 1 ≤ limit) (h15 : limit ≤ 15) (h2 : 2 ≤ os.length) (hlim : os.length ≤ 2 ^ limit) :
    Best fs (lenO fs os limit) limit (wsum ((rowN (singlesL fs os) (limit - 1)).take (2 * os.length - 2))) := by
  obtain ⟨S, st⟩ := len_st fs os limit hfs hp hs h1 h2 hlim limit (Nat.le_refl _)
  have hT := st.fin rfl
  rw [hT] at st
  have st' : SpSt (singlesL fs os) os fs.length limit limit (lenO fs os limit) 0 S := st
  clear st hT
  generalize lenO fs os limit = ls at st'
  have hpos : ∀ i, i < fs.length → 0 < fs[i]?.getD 0 → ∃ j, j < os.length ∧ posN os j = i := fun i hi h0 => by
    obtain ⟨j, hj, e⟩ := List.mem_iff_getElem.1 (hp.mem_iff.2 (ordL_has fs fs.length i hi h0))
    exact ⟨j, hj, by unfold posN; rw [List.getElem?_eq_getElem hj, Option.getD_some, e, Int.toNat_natCast]⟩
  have hkey : ∀ j, j < os.length → 0 < fs[posN os j]?.getD 0 := fun j hj => by
    have := ordL_pos fs fs.length _ (hp.mem_iff.1 (List.getElem_mem hj))
    unfold keyF at this
    unfold posN
    rw [List.getElem?_eq_getElem hj, Option.getD_some]
    exact this
  have hone : ∀ i, i < fs.length → 0 < fs[i]?.getD 0 → 1 ≤ ls[i]?.getD 0 ∧ ls[i]?.getD 0 ≤ limit := fun i hi h0 => by
    obtain ⟨j, hj, rfl⟩ := hpos i hi h0
    have := st'.bd j hj
    exact ⟨this.2.2 h1, this.2.1⟩
  have hnil : ∀ i : Nat, fs[i]?.getD 0 = 0 → ls[i]?.getD 0 = 0 := fun i h0 => st'.out i (fun j hj e => by
    have := hkey j hj
    rw [e] at this
    omega)
  have hthere : ∀ i, i < fs.length → (ls[i]?.getD 0 = 0 ↔ fs[i]?.getD 0 = 0) := fun i hi => ⟨fun h => by
    by_cases h0 : 0 < fs[i]?.getD 0
    · have := hone i hi h0
      omega
    · have := fs_at hfs i
      omega, hnil i⟩
  have htop : ∀ i, i < fs.length → 0 ≤ ls[i]?.getD 0 ∧ ls[i]?.getD 0 ≤ limit := fun i hi => by
    by_cases h0 : 0 < fs[i]?.getD 0
    · have := hone i hi h0
      omega
    · have := fs_at hfs i
      rw [hnil i (by omega)]
      omega
  have hin := in_of_top st'.len h15 htop
  refine ⟨st'.len, errOf_right ls (by rw [st'.len]; exact h3) hin ?_, hthere, htop, ?_⟩
  · rw [right_same]
    have hk := st'.kraft
    have e1 : sumTo (fun j => (2 : Int) ^ (limit - (lam os ls j).toNat)) os.length = sumTo (fun i => if 0 < fs[i]?.getD 0 then (2 : Int) ^ (limit - (ls[i]?.getD 0).toNat) else 0) fs.length := by
      have := sum_os (fun z => (2 : Int) ^ (limit - (ls[z.toNat]?.getD 0).toNat)) hp
      simpa [lam, posN] using this
    have e2 : (room ls 15 : Int) = (2 : Int) ^ (15 - limit) * sumTo (fun i => if 0 < fs[i]?.getD 0 then (2 : Int) ^ (limit - (ls[i]?.getD 0).toNat) else 0) fs.length := by
      rw [room_sum ls hin, st'.len, ← sumTo_mul]
      refine sumTo_congr _ (fun i hi => ?_)
      by_cases h0 : 0 < fs[i]?.getD 0
      · have := hone i hi h0
        rw [if_pos (by omega), if_pos h0, ← Int.pow_add]
        congr 1
        omega
      · have h00 := fs_at hfs i
        rw [if_neg h0, if_neg (by rw [hnil i (by omega)]; omega)]
        simp
    have e3 : sumTo (fun i => if 0 < fs[i]?.getD 0 then (2 : Int) ^ (limit - (ls[i]?.getD 0).toNat) else 0) fs.length = 2 ^ limit := by
      rw [← e1]
      simp at hk
      omega
    rw [e3, ← Int.pow_add, show 15 - limit + limit = 15 by omega] at e2
    have e4 : room ls 15 = 32768 := by
      have : (2 : Int) ^ 15 = 32768 := by decide
      omega
    simp [e4]
  · rw [cost_val fs ls hfs hin h3 st'.len]
    have hc := st'.cost
    rw [if_neg (by omega), Int.add_zero] at hc
    rw [← hc]
    have e1 : sumTo (fun j => wAt (singlesL fs os) j * lam os ls j) os.length = sumTo (fun i => if 0 < fs[i]?.getD 0 then fs[i]?.getD 0 * ls[i]?.getD 0 else 0) fs.length := by
      have := sum_os (fun z => fs[z.toNat]?.getD 0 * ls[z.toNat]?.getD 0) hp
      simp only [Int.toNat_natCast] at this
      rw [← this]
      refine sumTo_congr _ (fun j hj => ?_)
      have hl : (singlesL fs os).length = os.length := upto_length _ _
      unfold wAt lam posN
      rw [List.getElem?_eq_getElem (show j < (singlesL fs os).length by omega), singles_at]
      rfl
    rw [e1]
    refine sumTo_congr _ (fun i hi => ?_)
    by_cases h0 : 0 < fs[i]?.getD 0
    · rw [if_pos h0]
    · have := fs_at hfs i
      rw [if_neg h0, show fs[i]?.getD 0 = 0 by omega]
      simp
/-- One symbol. -/
theorem best_one (fs : List Int) (limit z : Nat) (hfs : ∀ z ∈ fs, 0 ≤ z ∧ z ≤ 1073741824) (h3 : fs.length ≤ 320) (hz : ordL fs fs.length = [(z : Int)]) (h1 : 1 ≤ limit) (h15 : limit ≤ 15) :
    Best fs ((List.replicate fs.length 0).set z 1) limit (fs[z]?.getD 0) := by
  have hzl : z < fs.length := by
    have := ordL_mem fs fs.length (z : Int) (by rw [hz]; simp)
    omega
  have hzp : 0 < fs[z]?.getD 0 := by
    have := ordL_pos fs fs.length (z : Int) (by rw [hz]; simp)
    unfold keyF at this
    rwa [Int.toNat_natCast] at this
  have hoth : ∀ i, i < fs.length → i ≠ z → fs[i]?.getD 0 = 0 := fun i hi hne => by
    by_cases h0 : 0 < fs[i]?.getD 0
    · have := ordL_has fs fs.length i hi h0
      rw [hz] at this
      simp at this
      omega
    · have := fs_at hfs i
      omega
  have hat : ∀ i, i < fs.length → ((List.replicate fs.length (0 : Int)).set z 1)[i]?.getD 0 = if i = z then 1 else 0 := fun i hi => by
    rw [List.getElem?_set]
    by_cases e : z = i
    · rw [if_pos e, if_pos (by simp; omega), if_pos e.symm]
      rfl
    · rw [if_neg e, if_neg (fun h => e h.symm), rep_zero]
  have hlen : ((List.replicate fs.length (0 : Int)).set z 1).length = fs.length := by simp
  generalize (List.replicate fs.length (0 : Int)).set z 1 = ls at hat hlen
  have htop : ∀ i, i < fs.length → 0 ≤ ls[i]?.getD 0 ∧ ls[i]?.getD 0 ≤ limit := fun i hi => by
    rw [hat i hi]
    split <;> omega
  have hin := in_of_top hlen h15 htop
  have hsum : ∀ g : Nat → Int, (∀ i, i < fs.length → i ≠ z → g i = 0) → ∀ k, k ≤ fs.length → sumTo g k = if z < k then g z else 0 := fun g hg k => by
    induction k with
    | zero => intro _; rfl
    | succ k ih =>
      intro hk
      rw [sumTo, ih (by omega)]
      by_cases e : z = k
      · subst e
        rw [if_neg (by omega), if_pos (by omega)]
        omega
      · rw [hg k (by omega) (fun h => e h.symm)]
        by_cases c : z < k
        · rw [if_pos c, if_pos (by omega)]
          omega
        · rw [if_neg c, if_neg (by omega)]
          omega
  refine ⟨hlen, errOf_right ls (by omega) hin ?_, fun i hi => ?_, htop, ?_⟩
  · rw [right_same]
    have e1 : (room ls 15 : Int) = 16384 := by
      rw [room_sum ls hin, hlen, hsum _ (fun i hi hne => by rw [hat i hi, if_neg hne]; rfl) _ (Nat.le_refl _), if_pos hzl, hat z hzl, if_pos rfl]
      decide
    have e2 : nsum ls 15 = 1 := by
      have hn : ∀ k, k ≤ fs.length → (spS ls k).2 = if z < k then 1 else 0 := fun k => by
        induction k with
        | zero => intro _; rfl
        | succ k ih =>
          intro hk
          rw [spS, hat k (by omega)]
          by_cases e : k = z
          · subst e
            rw [if_pos rfl, if_pos (by omega), ih (by omega), if_neg (by omega), if_pos (by omega)]
          · rw [if_neg e, if_neg (by omega), ih (by omega)]
            by_cases c : z < k
            · rw [if_pos c, if_pos (by omega)]
            · rw [if_neg c, if_neg (by omega)]
      have := hn fs.length (Nat.le_refl _)
      rw [if_pos hzl, ← hlen, spS_spec ls hin _ (Nat.le_refl _), List.take_length] at this
      exact this
    have e3 : room ls 15 = 16384 := by omega
    simp [e2, e3]
  · rw [hat i hi]
    by_cases e : i = z
    · subst e
      rw [if_pos rfl]
      omega
    · rw [if_neg e, hoth i hi e]
  · rw [cost_val fs ls hfs hin h3 hlen, hsum _ (fun i hi hne => by rw [hoth i hi hne]; simp) _ (Nat.le_refl _), if_pos hzl, hat z hzl, if_pos rfl, Int.mul_one]
/-- No symbol. -/
theorem best_zero (fs : List Int) (limit : Nat) (hfs : ∀ z ∈ fs, z = 0) (h3 : fs.length ≤ 320) (h15 : limit ≤ 15) : Best fs (List.replicate fs.length 0) limit 0 := by
  have hat : ∀ i, i < fs.length → (List.replicate fs.length (0 : Int))[i]?.getD 0 = 0 := fun i _ => rep_zero _ _
  have hf0 : ∀ i : Nat, fs[i]?.getD 0 = 0 := fun i => by
    by_cases h : i < fs.length
    · rw [List.getElem?_eq_getElem h]
      exact hfs _ (List.getElem_mem h)
    · rw [List.getElem?_eq_none (by omega)]
      rfl
  have hlen : (List.replicate fs.length (0 : Int)).length = fs.length := by simp
  generalize List.replicate fs.length (0 : Int) = ls at hat hlen
  have htop : ∀ i, i < fs.length → 0 ≤ ls[i]?.getD 0 ∧ ls[i]?.getD 0 ≤ limit := fun i hi => by
    rw [hat i hi]
    omega
  have hin := in_of_top hlen h15 htop
  refine ⟨hlen, errOf_right ls (by omega) hin ?_, fun i hi => by rw [hat i hi, hf0 i], htop, ?_⟩
  · rw [right_same]
    have hn : ∀ k, k ≤ fs.length → (spS ls k).2 = 0 := fun k => by
      induction k with
      | zero => intro _; rfl
      | succ k ih =>
        intro hk
        rw [spS, hat k (by omega), if_neg (by omega), ih (by omega)]
    have := hn fs.length (Nat.le_refl _)
    rw [← hlen, spS_spec ls hin _ (Nat.le_refl _), List.take_length] at this
    simp only at this
    simp [this]
  · rw [cost_val fs ls (fun z hz => by rw [hfs z hz]; omega) hin h3 hlen, sumTo_congr (g := fun _ => (0 : Int)) _ (fun i _ => by rw [hf0 i]; simp), sumTo_const]
    simp
end Go.Proofs.YtinbilbgipfemaaDoor
/- The spending where there is no symbol at all. -/
namespace Go.Proofs.YtinbilbgipfemaaDoor
open Go.RowKit Go.Shelf

attribute [local go_sem] Oper.semAt_some

set_option maxRecDepth 100000 in
set_option maxHeartbeats 4000000 in
theorem spend_zero (S0 : Nat → Prop) (b : Option Addr) (cb GA GL limit cl N : Nat) (sl : List Coin) (os ls : List Int) (w : World) (hS0 : ∀ k, S0 k → k < w.heap.size) (hR : RowsIn N w GA limit sl limit) (hO : IntsIn S0 w (.slice b os.length cb) os) (hL : Row w GL 3 (intsV ls)) (hne : ¬ S0 GL)
    (_h1 : 1 ≤ limit) (h15 : limit ≤ 15) (h0 : Hid (os.length = 0)) (hsl : sl.length = os.length) (hlo : os.length ≤ 320) (_hos : ∀ z ∈ os, 0 ≤ z ∧ z < ls.length) (hls : ∀ v ∈ ls, v = 0) (hsafe : ∀ k, k < limit → (spR sl os ls 0 limit k).2 ≤ (rowN sl (limit - 1 - k)).length) :
    CallsIn Fence.wide 6 Tryd.prog 85 #[.slice (some ⟨GA, 0, none⟩) limit limit, .slice b os.length cb, .slice (some ⟨GL, 0, none⟩) ls.length cl] w fun e w' =>
      e = .returned (.tuple #[]) ∧ Row w' GL 3 (intsV (spR sl os ls 0 limit limit).1) ∧ Kept (fun k => k < w.heap.size ∧ k ≠ GL) w w' := by
  have hlsk : ∀ k, k ≤ limit → (spR sl os ls 0 limit k).1.length = ls.length ∧ ∀ v ∈ (spR sl os ls 0 limit k).1, 0 ≤ v ∧ v ≤ ((1000 * k : Nat) : Int) := by
    intro k
    induction k with
    | zero => exact fun _ => ⟨rfl, fun v hv => by have := hls v hv; omega⟩
    | succ k ih =>
      intro hk
      obtain ⟨h1', h2'⟩ := ih (by omega)
      refine ⟨by rw [spR]; exact (spA_length _ _ _ _).trans h1', fun v hv => ?_⟩
      rw [spR] at hv
      have := spA_bd os (rowN sl (limit - 1 - k)) _ _ h2' _ v hv
      have h3 := hsafe k (by omega)
      have h4 := rowN_length sl (limit - 1 - k)
      omega
  obtain ⟨g, cs, hRA, hcs, hcc, hgg⟩ := hR
  have hp : ¬ (0 : Int) < (2 : Int) * os.length - 2 := by have := h0.out; omega
  have hp2 : (2 : Int) * os.length - 2 = -2 := by have := h0.out; omega
  have hmx : Tryd.prog.follows .mixedOrders = true := by kernel_rfl
  have hGL := hL.lt
  have hGA := hRA.lt
  refine callsIn_of_wp_marks Tryd.func85 rfl trivial ?_ rfl
  simp only [Tryd.ntmps85, List.size_toArray, List.length_cons, List.length_nil, Nat.reduceAdd, Nat.reduceSub, Array.replicate_succ, Array.replicate_zero, List.push_toArray, List.append_toArray, List.nil_append, List.cons_append]
  gi_wp2_with (refine ⟨trivial, ?_⟩; gi_at_call 90; refine (backward_in Fence.wide _ trivial rfl _ _ _ _).mono ?_; rintro e w' ⟨rfl, rfl⟩)
  have b0 := Row.new w 40 #[.slice b os.length cb]
  have b1 := Row.new (w.alloc (.cells #[.slice b os.length cb] 40)) 40 #[.slice (some ⟨GL, 0, none⟩) ls.length cl]
  have b2 := Row.new ((w.alloc (.cells #[.slice b os.length cb] 40)).alloc (.cells #[.slice (some ⟨GL, 0, none⟩) ls.length cl] 40)) 3 #[.int .i64 0]
  have b3 := Row.new (((w.alloc (.cells #[.slice b os.length cb] 40)).alloc (.cells #[.slice (some ⟨GL, 0, none⟩) ls.length cl] 40)).alloc (.cells #[.int .i64 0] 3)) 134 #[.slice (some ⟨GA, 0, none⟩) limit limit]
  simp only [World.size_alloc] at b1 b2 b3
  have b0 := ((b0.alloc (.cells #[.slice (some ⟨GL, 0, none⟩) ls.length cl] 40)).alloc (.cells #[.int .i64 0] 3)).alloc (.cells #[.slice (some ⟨GA, 0, none⟩) limit limit] 134)
  have b1 := (b1.alloc (.cells #[.int .i64 0] 3)).alloc (.cells #[.slice (some ⟨GA, 0, none⟩) limit limit] 134)
  have b2 := b2.alloc (.cells #[.slice (some ⟨GA, 0, none⟩) limit limit] 134)
  have hBw : Below w.heap.size w ((((w.alloc (.cells #[.slice b os.length cb] 40)).alloc (.cells #[.slice (some ⟨GL, 0, none⟩) ls.length cl] 40)).alloc (.cells #[.int .i64 0] 3)).alloc (.cells #[.slice (some ⟨GA, 0, none⟩) limit limit] 134)) := ((((Below.refl _ w).alloc (Nat.le_refl _) _).alloc (by simp) _).alloc (by simp; omega) _).alloc (by simp; omega) _
  have hsz : ((((w.alloc (.cells #[.slice b os.length cb] 40)).alloc (.cells #[.slice (some ⟨GL, 0, none⟩) ls.length cl] 40)).alloc (.cells #[.int .i64 0] 3)).alloc (.cells #[.slice (some ⟨GA, 0, none⟩) limit limit] 134)).heap.size = w.heap.size + 4 := by simp
  have dL := hL.below hBw hGL
  have dA := hRA.below hBw hGA
  have dg := fun i hi => (hgg i hi).1.below hBw (hgg i hi).1.lt
  have hgl : ∀ i, i < limit → g i < w.heap.size := fun i hi => (hgg i hi).1.lt
  have hgn : ∀ i, i < limit → g i ≠ GL := fun i hi e => by
    have h1 : w.heap[g i]? = _ := (hgg i hi).1
    rw [e, show w.heap[GL]? = _ from hL] at h1
    simp at h1
  have hAn : GA ≠ GL := fun e => by
    have h1 : w.heap[GA]? = _ := hRA
    rw [e, show w.heap[GL]? = _ from hL] at h1
    simp at h1
  have dO : IntsIn (fun k => k < w.heap.size + 4 ∧ k ≠ GL ∧ k ≠ w.heap.size + 1 + 1) ((((w.alloc (.cells #[.slice b os.length cb] 40)).alloc (.cells #[.slice (some ⟨GL, 0, none⟩) ls.length cl] 40)).alloc (.cells #[.int .i64 0] 3)).alloc (.cells #[.slice (some ⟨GA, 0, none⟩) limit limit] 134)) (.slice b os.length cb) os := (hO.kept (Kept.of_below hBw hS0)).mono (fun k hk => ⟨by have := hS0 k hk; omega, fun e => hne (e ▸ hk), by have := hS0 k hk; omega⟩)
  clear hL hRA hgg hO
  generalize (((w.alloc (.cells #[.slice b os.length cb] 40)).alloc (.cells #[.slice (some ⟨GL, 0, none⟩) ls.length cl] 40)).alloc (.cells #[.int .i64 0] 3)).alloc (.cells #[.slice (some ⟨GA, 0, none⟩) limit limit] 134) = wd at b0 b1 b2 b3 hBw hsz dL dA dg dO ⊢
  refine wpIn_range_rel rfl (by omega) (gf := 98) (lb := #[.pointer (some ⟨w.heap.size + 1 + 1 + 1, 0, none⟩)]) rfl trivial (enters_of Tryd.func98 (by kernel_rfl) rfl)
    (bwd_seq Fence.wide 5 trivial rfl (by omega) (w.heap.size + 1 + 1 + 1) GA limit (fun k => k < w.heap.size + 4 ∧ k ≠ GL ∧ k ≠ w.heap.size + 1 + 1) (fun i => .slice (some ⟨g i, 0, none⟩) (rowN sl i).length (rowN sl i).length) ⟨by omega, by omega, by omega⟩ ⟨by omega, hAn, by omega⟩ h15 wd (fun k hk => by omega) (b3.cell rfl) (fun i hi => dA.cell (hcc i hi)))
    Kept.trans (keptK_b (fun x hx => by omega)) (fun _ => rfl)
    (fun pre W => Row W GL 3 (intsV (spR sl os ls 0 limit pre.length).1) ∧ Row W (w.heap.size + 1 + 1) 3 #[.int .i64 ((spR sl os ls 0 limit pre.length).2 : Int)] ∧ Kept (fun k => k < w.heap.size + 4 ∧ k ≠ GL ∧ k ≠ w.heap.size + 1 + 1) wd W)
    (fun s A B row hs hg hr => ⟨row_grown2 hs.1 hg (fun r e => (hr r e).2), row_grown2 hs.2.1 hg (fun r e => (hr r e).2), hs.2.2.grown hg (fun k hk => by have := hs.2.2.size; omega) (fun k e hk => by have := (hr k e).1; omega)⟩)
    ⟨dL, b2, Kept.refl _ _⟩
    (fun x => { tmps := #[.slice (some ⟨GA, 0, none⟩) limit limit, .slice b os.length cb, .slice (some ⟨GL, 0, none⟩) ls.length cl, undef, .pointer (some ⟨w.heap.size, 0, none⟩), .pointer (some ⟨w.heap.size + 1, 0, none⟩), .pointer (some ⟨w.heap.size + 1 + 1, 0, none⟩), undef, .slice (some ⟨g x.1, 0, none⟩) (rowN sl x.1).length (rowN sl x.1).length, undef, undef, undef, .slice b os.length cb, .int .i64 os.length, .int .i64 (2 * os.length), .int .i64 (-2), .int .i64 0, .slice (some ⟨GA, 0, none⟩) limit limit, .func (.func 98) #[] #[.pointer (some ⟨w.heap.size + 1 + 1 + 1, 0, none⟩)], .int .i64 x.1, .slice (some ⟨g x.1, 0, none⟩) (rowN sl x.1).length (rowN sl x.1).length, undef, undef, undef, undef, undef, undef, undef, undef, undef, undef, undef, undef, undef, undef, undef, undef, undef, undef, undef, undef, undef, undef, undef, undef, undef, undef], defers := [] }) ?assign ?body ?done
  case assign =>
    intro l x W K hK
    gi_wp2
    exact hK
  case body =>
    rintro l pre x W ⟨I0, I1, IK⟩ hRx
    have hxl : x.1 < limit := x.2
    have hxk : limit - 1 - pre.length = x.1 := by omega
    have hts := hsafe pre.length (by omega)
    rw [hxk] at hts
    have HN1 : Hid ((spR sl os ls 0 limit (pre ++ [x]).length).1 = (spA os (rowN sl x.1) (spR sl os ls 0 limit pre.length).1 (spR sl os ls 0 limit pre.length).2).1) := by
      show _ = _
      rw [List.length_append, List.length_singleton, spR, hxk]
    have HN2 : Hid ((spR sl os ls 0 limit (pre ++ [x]).length).2 = 2 * ((spR sl os ls 0 limit pre.length).2 - (spA os (rowN sl x.1) (spR sl os ls 0 limit pre.length).1 (spR sl os ls 0 limit pre.length).2).2)) := by
      show _ = _
      rw [List.length_append, List.length_singleton, spR, hxk]
    have HKL := hlsk pre.length (by omega)
    have Dg : Row W (g x.1) 147 (coinA (rowN sl x.1)) := (dg x.1 hxl).kept IK ⟨by have := hgl x.1 hxl; omega, hgn x.1 hxl, by have := hgl x.1 hxl; omega⟩
    have D0 := b0.kept IK ⟨by omega, by omega, by omega⟩
    have D1 := b1.kept IK ⟨by omega, by omega, by omega⟩
    have DO := dO.kept IK
    have hrl := rowN_length sl x.1
    have hrc := rowN_count sl x.1
    clear dA dg hsafe b0 b1 b2 b3 dL dO hxk hcc
    generalize hlk : (spR sl os ls 0 limit pre.length).1 = lk at I0 HN1 HN2 HKL
    generalize htk : (spR sl os ls 0 limit pre.length).2 = t at I1 HN1 HN2 hts
    clear hlk htk
    generalize rowN sl x.1 = row at Dg HN1 HN2 hts hrl hrc ⊢
    have cT := I1.cell (i := 0) (v := .int .i64 (t : Int)) rfl
    have hfit : (t : Int) ≤ row.length := by omega
    gi_wp2
    gi_loopw [9, 25] (fun v9 v25 wr => ∃ m : Nat, m ≤ t ∧ v9 = .int .i64 ((spA os row lk m).2 : Int) ∧ v25 = .int .i64 m ∧ Row wr GL 3 (intsV (spA os row lk m).1) ∧ Row wr (w.heap.size + 1 + 1) 3 #[.int .i64 (t : Int)] ∧ Kept (fun k => k < w.heap.size + 4 ∧ k ≠ GL ∧ k ≠ w.heap.size + 1 + 1) W wr ∧ KeepsOthers W wr)
      (fun _ v25 _ => t - (intOf v25).toNat)
    case atStart => exact ⟨0, Nat.zero_le _, rfl, rfl, I0, I1, Kept.refl _ _, KeepsOthers.refl _⟩
    case round =>
      obtain ⟨m, hm, rfl, rfl, J0, J1, JK, JO⟩ := hrel
      by_cases hlt : m < t
      · exfalso
        have := h0.out
        omega
      · obtain rfl : m = t := by omega
        have cT' := J1.cell (i := 0) (v := .int .i64 (m : Int)) rfl
        have fT' := J1.frozen 0
        have hS1 := spA_le os row lk m
        have HFIN : Hid (relPost wd.heap.size (Kept fun k => k < w.heap.size + 4 ∧ k ≠ GL ∧ k ≠ w.heap.size + 1 + 1) (fun pre W => Row W GL 3 (intsV (spR sl os ls 0 limit pre.length).1) ∧ Row W (w.heap.size + 1 + 1) 3 #[.int .i64 ((spR sl os ls 0 limit pre.length).2 : Int)] ∧ Kept (fun k => k < w.heap.size + 4 ∧ k ≠ GL ∧ k ≠ w.heap.size + 1 + 1) wd W) (pre ++ [x]) W .normal { tmps := #[], defers := [] } (wr.setCell ⟨w.heap.size + 1 + 1, 0, none⟩ (.int .i64 (2 * ((m : Int) - (spA os row lk m).2))))) := by
          have hk : Kept (fun k => k ≠ w.heap.size + 1 + 1) wr (wr.setCell ⟨w.heap.size + 1 + 1, 0, none⟩ (.int .i64 (2 * ((m : Int) - (spA os row lk m).2)))) := (Kept.refl _ wr).setCell (p := ⟨w.heap.size + 1 + 1, 0, none⟩) (by simp) _
          refine ⟨(JO.trans (KeepsOthers.setCell _ _ _)).from _, JK.trans (hk.mono (fun k hk => hk.2.2)), ?_, ?_, IK.trans (JK.trans (hk.mono (fun k hk => hk.2.2)))⟩
          · rw [HN1.out]
            exact J0.kept hk (by omega)
          · have := J1.set 0 (.int .i64 (2 * ((m : Int) - (spA os row lk m).2)))
            rw [HN2.out]
            have e : ((2 * (m - (spA os row lk m).2) : Nat) : Int) = 2 * ((m : Int) - (spA os row lk m).2) := by omega
            rw [e]
            simpa using this
        clear J0 J1 JK JO HN1 HN2
        generalize (spA os row lk m).2 = s at HFIN hS1
        gi_wp2
        exact HFIN.out
  case done =>
    rintro D ys W hD hE ⟨I0, I1, IK⟩ hK
    gi_wp2
    refine ⟨by simp, .inl ⟨_, _, rfl, run_takeDeferred hK, ?_⟩⟩
    refine ⟨_, results_none rfl _ _ _, rfl, ?_, ?_⟩
    · have := I0.kept (Kept.putObj (S := fun k => k = GL) W D (.deferred none) (by omega)) rfl
      rwa [hE] at this
    · exact ((Kept.of_below hBw (fun k hk => hk.1)).trans (IK.mono (fun k hk => ⟨by omega, hk.2, by omega⟩))).trans (Kept.putObj W D _ (fun h => by omega))
end Go.Proofs.YtinbilbgipfemaaDoor
/- Lengths: one symbol, none. -/
namespace Go.Proofs.YtinbilbgipfemaaDoor
open Go.RowKit

set_option maxRecDepth 100000 in
set_option maxHeartbeats 4000000 in
theorem lengths_one (S : Nat → Prop) (a : Option Addr) (cap limit : Nat) (fs : List Int) (w : World) (hS : ∀ k, S k → k < w.heap.size) (hF : IntsIn S w (.slice a fs.length cap) fs) (h1 : 1 ≤ limit) (h15 : limit ≤ 15) (hl : fs.length ≤ 320) (hfs : ∀ z ∈ fs, 0 ≤ z ∧ z ≤ 1073741824)
    (z : Nat) (hord : ordL fs fs.length = [(z : Int)]) :
    Calls Tryd.prog 76 #[.slice a fs.length cap, .int .i64 limit] w fun e w' => ∃ GL, e = .returned (.tuple #[.slice (some ⟨GL, 0, none⟩) fs.length fs.length, .int .i64 0]) ∧ Row w' GL 3 (intsV ((List.replicate fs.length 0).set z 1)) ∧ Below w.heap.size w w' ∧ w.heap.size ≤ GL := by
  have hone : (ordL fs fs.length).length = 1 := by rw [hord]; rfl
  have HORD : Hid _ := hord
  clear hord
  obtain ⟨i0, hi, hz0, hz1, hz2⟩ := info_parts Tryd.info3
  have t1 : ¬ (320 : Int) < fs.length := by omega
  have t2 : ¬ (limit : Int) < 1 := by omega
  have t3 : ¬ (15 : Int) < limit := by omega
  have b0 := Row.new w 40 #[.slice a fs.length cap]
  have hB0 : Below w.heap.size w (w.alloc (.cells #[.slice a fs.length cap] 40)) := (Below.refl _ w).alloc (Nat.le_refl _) _
  have hs0 : (w.alloc (.cells #[.slice a fs.length cap] 40)).heap.size = w.heap.size + 1 := by simp
  have cb := b0.cell (i := 0) (v := .slice a fs.length cap) rfl
  go_enter Tryd.func76, Tryd.ntmps76
  go_wp2
  generalize w.alloc (.cells #[.slice a fs.length cap] 40) = w1 at b0 hB0 hs0 cb ⊢
  go_loopw [6, 23] (fun v6 v23 wr => ∃ k : Nat, k ≤ fs.length ∧ v23 = .int .i64 k ∧ wr.ownsRow (w.heap.size + 1) 3 1 v6 (ordL fs k).length ((ordL fs k).map (Value.int .i64)) ∧ Below (w.heap.size + 1) w1 wr)
    (fun _ v23 _ => fs.length - (intOf v23).toNat)
  case atStart => exact ⟨0, Nat.zero_le _, rfl, World.ownsRow_nil _ _ _ _, Below.refl _ _⟩
  case round =>
    obtain ⟨k, hk, rfl, hown, hB⟩ := hrel
    by_cases hlt : k < fs.length
    · obtain ⟨bf, of, rfl, hbf, ef⟩ := hF.at k hlt
      have hwl := hS bf hbf
      have cf : wr.cell? ⟨bf, of + k, none⟩ = some (.int .i64 (fs[k]?.getD 0)) := (hB.cell (p := ⟨bf, of + k, none⟩) (by simp; omega)).trans ((hB0.cell (p := ⟨bf, of + k, none⟩) hwl).trans ef)
      have hfk : 0 ≤ fs[k]?.getD 0 ∧ fs[k]?.getD 0 ≤ 1073741824 := by
        have := hfs _ (List.getElem_mem hlt)
        simpa [hlt] using this
      have HO1 : Hid (ordL fs (k + 1) = if 0 < fs[k]?.getD 0 then ordL fs k ++ [(k : Int)] else ordL fs k) := rfl
      have holen := ordL_length fs k
      clear ef hF
      generalize fs[k]?.getD 0 = f at cf hfk HO1
      by_cases hf0 : 0 < f
      · have e1 : ordL fs (k + 1) = ordL fs k ++ [(k : Int)] := by rw [show ordL fs (k + 1) = _ from HO1.out, if_pos hf0]
        have HE1 : Hid _ := e1
        clear e1
        have hsz := hB.size
        go_wp2_with (at_builtin; refine wpList_append_own2 _ rfl (.tmp 36) (.tmp 38) 40 rfl (w.heap.size + 1) 3 i0 (.int .i64 0) 1 8 Tryd.underlying40 hi hz0 hz1 hz2 rfl (by decide) _ _ _ rfl (hown.alloc _) ⟨wr.heap.size, 0, none⟩ 1 1 [.int .i64 (k : Int)] rfl rfl (cell_one_new _ _ _) (by simp [Value.oneCell']) (by unfold maxLen; omega) (by omega) (by simp; omega) ?_)
        intro v' w3 hown' hgrow hblk
        have hB3 : Below (w.heap.size + 1) w1 w3 := (hB.alloc (by omega) _).grown hgrow (by simp; omega) (fun r e => by
          rcases hown.2 with ⟨rfl, _⟩ | ⟨g, c, cur, rfl, hb, _⟩
          · simp [Value.ownBlock] at e
          · simp [Value.ownBlock] at e; omega)
        have hown3 : w3.ownsRow (w.heap.size + 1) 3 1 v' (ordL fs (k + 1)).length ((ordL fs (k + 1)).map (Value.int .i64)) := by
          rw [show ordL fs (k + 1) = _ from HE1.out]
          simpa using hown'
        go_wp2
        go_roundw
        case rel => exact ⟨k + 1, by omega, by simp, hown3, hB3⟩
        case measure => simp [intOf]; omega
      · have e1 : ordL fs (k + 1) = ordL fs k := by rw [show ordL fs (k + 1) = _ from HO1.out, if_neg hf0]
        have HE1 : Hid _ := e1
        clear e1
        have hown3 : wr.ownsRow (w.heap.size + 1) 3 1 u6 (ordL fs (k + 1)).length ((ordL fs (k + 1)).map (Value.int .i64)) := by
          rw [show ordL fs (k + 1) = _ from HE1.out]
          exact hown
        go_wp2
        go_roundw
        case rel => exact ⟨k + 1, by omega, by simp, hown3, hB⟩
        case measure => simp [intOf]; omega
    · obtain rfl : k = fs.length := by omega
      obtain ⟨GO, oc, rfl, hGO, hOrd⟩ := ordIn_of_owns hown (by omega)
      have hom := ordL_mem fs fs.length
      have hzl : z < fs.length := by have := hom (z : Int) (by rw [HORD.out]; simp); omega
      have cb' : wr.cell? ⟨w.heap.size, 0, none⟩ = some (.slice a fs.length cap) := (hB.cell (p := ⟨w.heap.size, 0, none⟩) (by simp)).trans cb
      have hF1 : IntsIn (fun k => k < w.heap.size + 1) wr (.slice a fs.length cap) fs := ((hF.kept (Kept.of_below hB0 hS)).mono (fun k hk => by have := hS k hk; omega)).kept (Kept.of_below hB (fun _ h => h))
      have hsort := sort_any (fun k => k < w.heap.size + 1) GO w.heap.size oc a cap fs (ordL fs fs.length) wr ⟨by omega, by omega, cb', hF1⟩ hOrd hom (by omega)
      rw [hone] at hsort ⊢
      have HSO : Hid _ := hsort
      have hmk := run_make_row' (P := Tryd.prog) 40 3 (.int .i64 0) 8 Tryd.underlying40 Tryd.info3 rfl .i64 .i64 fs.length (by omega) (by omega)
      rw [intsV_made] at hmk
      clear hsort hown hk hlt hom hz0 hz1 hz2 hi
      have h2l : 2 ^ limit ≤ 2 ^ 15 := Nat.pow_le_pow_right (by omega) h15
      have h2g : 2 ^ 1 ≤ 2 ^ limit := Nat.pow_le_pow_right (by omega) h1
      have hp1 : ((2 ^ limit : Nat) : Int) = (2 : Int) ^ limit := by simp
      have hge : (2 : Int) ≤ (2 : Int) ^ limit := by rw [← hp1]; exact Int.ofNat_le.2 h2g
      have hle : (2 : Int) ^ limit ≤ 32768 := by rw [← hp1]; exact Int.ofNat_le.2 h2l
      have hw : wrap64 ((2 : Int) ^ limit) = (2 : Int) ^ limit := wrap64_id _ ⟨by omega, by omega⟩
      have t4 : ¬ (2 : Int) ^ limit < 1 := by omega
      clear hp1 h2l h2g
      go_wp2_with fail
      refine Calls.mono HSO.out ?_
      rintro e w2 ⟨rfl, os, hO2, hPm, _, hK2⟩
      obtain rfl : os = [(z : Int)] := by rw [HORD.out] at hPm; exact List.perm_singleton.1 hPm
      have hBw2 : Below w.heap.size w w2 := (hB0.trans (hB.mono (by omega))).trans (hK2.below (fun k hk => by omega))
      have hwr := hB.size
      have hs2 := hK2.size
      have hgo2 := hO2.lt
      have cb2 : w2.cell? ⟨w.heap.size, 0, none⟩ = some (.slice a fs.length cap) := (hK2.cell (p := ⟨w.heap.size, 0, none⟩) (show w.heap.size ≠ GO by omega)).trans cb'
      have RL := Row.new w2 3 (intsV (List.replicate fs.length 0))
      have hBa : Below w2.heap.size w2 (w2.alloc (.cells (intsV (List.replicate fs.length 0)) 3)) := (Below.refl _ w2).alloc (Nat.le_refl _) _
      have cO : (w2.alloc (.cells (intsV (List.replicate fs.length 0)) 3)).cell? ⟨GO, 0, none⟩ = some (.int .i64 (z : Int)) := (hBa.cell (p := ⟨GO, 0, none⟩) hgo2).trans (hO2.cell 0 (by simp))
      have cL := RL.cell (intsV_at (List.replicate fs.length 0) z (by simpa using hzl))
      have fL := RL.frozen z
      have RS := RL.set z (.int .i64 1)
      rw [intsV_set] at RS
      have HRS : Hid _ := RS
      have HBF : Hid (Below w.heap.size w ((w2.alloc (.cells (intsV (List.replicate fs.length 0)) 3)).setCell ⟨w2.heap.size, z, none⟩ (.int .i64 1))) := (hBw2.trans (hBa.mono (by omega))).setCell (p := ⟨w2.heap.size, z, none⟩) (by simp; omega) _
      have hzz : (z : Int) < (fs.length : Int) := by omega
      have HZ5 : Hid (w.heap.size ≤ w2.heap.size) := hBw2.size
      clear HSO cb' hF1 hO2 hOrd hBw2 hBa RL RS hPm
      generalize hw3 : w2.alloc (.cells (intsV (List.replicate fs.length 0)) 3) = w3 at cO cL fL HRS HBF
      go_wp2
      go_ret2
      exact ⟨_, rfl, HRS.out, HBF.out, HZ5.out⟩

set_option maxHeartbeats 1000000 in
theorem ins_nil (f : Value) (w : World) : Calls Tryd.prog 96 #[.slice none 0 0, .int .i64 0, .int .i64 0, f] w fun e w' => e = .returned (.tuple #[]) ∧ w' = w := by
  go_enter Tryd.func96, Tryd.ntmps96
  go_wp2_with fail
  go_loopw [8] (fun v wr => v = .int .i64 1 ∧ wr = w) (fun _ _ => 0)
  case atStart => exact ⟨rfl, rfl⟩
  case round =>
    obtain ⟨rfl, rfl⟩ := hrel
    go_wp2
    go_end0
    exact ⟨rfl, rfl⟩
set_option maxHeartbeats 2000000 in
theorem stable_nil (f : Value) (w : World) : Calls Tryd.prog 89 #[.slice none 0 0, .int .i64 0, f] w fun e w' => e = .returned (.tuple #[]) ∧ w' = w := by
  have HI : Hid _ := ins_nil f w
  go_enter Tryd.func89, Tryd.ntmps89
  go_wp2_with fail
  go_loopw [7, 8] (fun v7 v8 wr => v7 = .int .i64 0 ∧ v8 = .int .i64 20 ∧ wr = w) (fun _ _ _ => 0)
  case atStart => exact ⟨rfl, rfl, rfl⟩
  case round =>
    obtain ⟨rfl, rfl, rfl⟩ := hrel
    go_wp2_with fail
    refine Calls.mono HI.out ?_
    rintro e w1 ⟨rfl, rfl⟩
    go_wp2_with fail
    go_loopw [6] (fun v6 wr => v6 = .int .i64 20 ∧ wr = w1) (fun _ _ => 0)
    case atStart => exact ⟨rfl, rfl⟩
    case round =>
      obtain ⟨rfl, rfl⟩ := hrel
      go_wp2_with fail
      go_end0
      exact ⟨rfl, rfl⟩
set_option maxHeartbeats 1000000 in
theorem sort_nil (f : Value) (w : World) : Calls Tryd.prog 83 #[.slice none 0 0, f] w fun e w' => e = .returned (.tuple #[]) ∧ w' = w := by
  have HST : Hid _ := stable_nil f w
  go_enter Tryd.func83, Tryd.ntmps83
  go_wp2_with fail
  refine Calls.mono HST.out ?_
  rintro e w1 ⟨rfl, rfl⟩
  go_wp2
  go_end0
  exact ⟨rfl, rfl⟩
theorem spR_zero (sl : List Coin) (os ls : List Int) (limit : Nat) : ∀ k, spR sl os ls 0 limit k = (ls, 0)
  | 0 => rfl
  | k + 1 => by rw [spR, spR_zero sl os ls limit k]; rfl

set_option maxRecDepth 100000 in
set_option maxHeartbeats 4000000 in
theorem lengths_zero (S : Nat → Prop) (a : Option Addr) (cap limit : Nat) (fs : List Int) (w : World) (hS : ∀ k, S k → k < w.heap.size) (hF : IntsIn S w (.slice a fs.length cap) fs) (h1 : 1 ≤ limit) (h15 : limit ≤ 15) (hl : fs.length ≤ 320) (hfs : ∀ z ∈ fs, z = 0) :
    Calls Tryd.prog 76 #[.slice a fs.length cap, .int .i64 limit] w fun e w' => ∃ GL, e = .returned (.tuple #[.slice (some ⟨GL, 0, none⟩) fs.length fs.length, .int .i64 0]) ∧ Row w' GL 3 (intsV (List.replicate fs.length 0)) ∧ Below w.heap.size w w' ∧ w.heap.size ≤ GL := by
  have t1 : ¬ (320 : Int) < fs.length := by omega
  have t2 : ¬ (limit : Int) < 1 := by omega
  have t3 : ¬ (15 : Int) < limit := by omega
  have b0 := Row.new w 40 #[.slice a fs.length cap]
  have hB0 : Below w.heap.size w (w.alloc (.cells #[.slice a fs.length cap] 40)) := (Below.refl _ w).alloc (Nat.le_refl _) _
  have hs0 : (w.alloc (.cells #[.slice a fs.length cap] 40)).heap.size = w.heap.size + 1 := by simp
  have cb := b0.cell (i := 0) (v := .slice a fs.length cap) rfl
  go_enter Tryd.func76, Tryd.ntmps76
  go_wp2
  generalize w.alloc (.cells #[.slice a fs.length cap] 40) = w1 at b0 hB0 hs0 cb ⊢
  go_loopw [6, 23] (fun v6 v23 wr => ∃ k : Nat, k ≤ fs.length ∧ v23 = .int .i64 k ∧ v6 = .slice none 0 0 ∧ wr = w1)
    (fun _ v23 _ => fs.length - (intOf v23).toNat)
  case atStart => exact ⟨0, Nat.zero_le _, rfl, rfl, rfl⟩
  case round =>
    obtain ⟨k, hk, rfl, rfl, rfl⟩ := hrel
    by_cases hlt : k < fs.length
    · obtain ⟨bf, of, rfl, hbf, ef⟩ := hF.at k hlt
      have hwl := hS bf hbf
      have cf := (hB0.cell (p := ⟨bf, of + k, none⟩) hwl).trans ef
      have hfk : fs[k]?.getD 0 = 0 := by rw [List.getElem?_eq_getElem hlt]; exact hfs _ (List.getElem_mem hlt)
      rw [hfk] at cf
      clear ef hF hfs hfk
      go_wp2
      exact ⟨⟨k + 1, by omega, by simp, rfl, trivial⟩, by simp [intOf]; omega⟩
    · obtain rfl : k = fs.length := by omega
      have hmk := run_make_row' (P := Tryd.prog) 40 3 (.int .i64 0) 8 Tryd.underlying40 Tryd.info3 rfl .i64 .i64 fs.length (by omega) (by omega)
      rw [intsV_made] at hmk
      have h2l : 2 ^ limit ≤ 2 ^ 15 := Nat.pow_le_pow_right (by omega) h15
      have hp1 : ((2 ^ limit : Nat) : Int) = (2 : Int) ^ limit := by simp
      have hge : (0 : Int) ≤ (2 : Int) ^ limit := by rw [← hp1]; exact Int.natCast_nonneg _
      have hle : (2 : Int) ^ limit ≤ 32768 := by rw [← hp1]; exact Int.ofNat_le.2 h2l
      have hw : wrap64 ((2 : Int) ^ limit) = (2 : Int) ^ limit := wrap64_id _ ⟨by omega, by omega⟩
      have t4 : ¬ (2 : Int) ^ limit < 0 := by omega
      have HSN : ∀ f, Hid _ := fun f => sort_nil f wr
      have hF1 : IntsIn (fun k => k < wr.heap.size) wr (.slice a fs.length cap) fs := (hF.kept (Kept.of_below hB0 hS)).mono (fun k hk => by have := hS k hk; omega)
      have RL := Row.new wr 3 (intsV (List.replicate fs.length 0))
      have hBa : Below wr.heap.size wr (wr.alloc (.cells (intsV (List.replicate fs.length 0)) 3)) := (Below.refl _ wr).alloc (Nat.le_refl _) _
      have hsa : (wr.alloc (.cells (intsV (List.replicate fs.length 0)) 3)).heap.size = wr.heap.size + 1 := by simp
      have cb3 : (wr.alloc (.cells (intsV (List.replicate fs.length 0)) 3)).cell? ⟨w.heap.size, 0, none⟩ = some (.slice a fs.length cap) := (hBa.cell (p := ⟨w.heap.size, 0, none⟩) (by simp; omega)).trans cb
      have hF3 : IntsIn (fun k => k < wr.heap.size + 1) (wr.alloc (.cells (intsV (List.replicate fs.length 0)) 3)) (.slice a fs.length cap) fs := (hF1.kept (Kept.of_below hBa (fun _ h => h))).mono (fun k hk => by omega)
      clear hp1 h2l hk hlt
      generalize hw3 : wr.alloc (.cells (intsV (List.replicate fs.length 0)) 3) = w3 at RL hBa hsa cb3 hF3
      have hrows := rows_any (fun k => k < wr.heap.size + 1) a none cap 0 limit fs [] w3 (fun k hk => by omega) hF3 (.inl ⟨rfl, none, 0, rfl⟩) h1 h15 hl (by simp) (fun z hz => by simp at hz) (fun z hz => by rw [hfs z hz]; omega)
      have HRW : Hid (Calls Tryd.prog 86 #[.slice a fs.length cap, .slice none 0 0, .int .i64 limit] w3 _) := hrows
      clear hrows hF3 hF1 hF
      go_wp2_with fail
      refine Calls.mono (HSN _).out ?_
      rintro e w2 ⟨rfl, rfl⟩
      clear HSN
      go_wp2_with fail
      refine Calls.mono HRW.out ?_
      rintro e w4 ⟨GA, rfl, hGA, hRows, hB4⟩
      have hs4 := hB4.size
      have RL4 := RL.below hB4 (by omega)
      have hsp := callsIn_wide.1 (spend_zero (fun _ => False) none 0 GA w2.heap.size limit fs.length w3.heap.size (singlesL fs []) [] (List.replicate fs.length 0) w4 (fun k hk => hk.elim) hRows (.inl ⟨rfl, none, 0, rfl⟩) RL4 (fun h => h) h1 h15 rfl (upto_length _ _) (by simp) (fun z hz => by simp at hz) (fun v hv => by simp at hv; exact hv.2) (fun k hk => by rw [spR_zero]; exact Nat.zero_le _))
      rw [spR_zero, List.length_replicate] at hsp
      have HSP : Hid (Calls Tryd.prog 85 #[.slice (some ⟨GA, 0, none⟩) limit limit, .slice none 0 0, .slice (some ⟨w2.heap.size, 0, none⟩) fs.length fs.length] w4 _) := hsp
      clear hsp HRW hRows
      go_wp2_with fail
      rw [hs0] at HSP
      refine Calls.mono HSP.out ?_
      rintro e w5 ⟨rfl, hR5, hK5⟩
      have HF5 : Hid _ := hR5
      have HB5 : Hid (Below w.heap.size w w5) := (((hB0.trans (hBa.mono (by omega))).trans (hB4.mono (by omega))).trans (hK5.below (fun k hk => ⟨by omega, by omega⟩)))
      clear HSP hR5 hK5
      go_wp2
      exact bodyPost_ret (v := .tuple #[.slice (some ⟨w.heap.size + 1, 0, none⟩) fs.length fs.length, .int .i64 0]) (by simp [results, Tryd.f76, go_sem]) rfl ⟨_, rfl, HF5.out, HB5.out, Nat.le_succ _⟩
end Go.Proofs.YtinbilbgipfemaaDoor
