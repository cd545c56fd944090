/- Why there is no archive of some files: namesOf, tooBig, allRight; refusal of one file. -/
import Derived.Test.YtibnafngkcpafaaGreatDoorZwr
import Derived.Test.YtibnafngkcpafaaGreatDoorZru
import Derived.WalkMore
namespace Go.Proofs.YtibnafngkcpafaaGreatDoor
open Go.RowKit

theorem Tryz.info9 : (Tryz.prog.info? 9).map (fun i => (i.zero, i.size, i.bytes)) = some (some (.string .empty), 1, 16) := by kernel_rfl

set_option maxRecDepth 100000 in
set_option maxHeartbeats 1000000 in
theorem namesOf_any (S : Nat → Prop) (a : Option Addr) (cap : Nat) (fs : List Fil) (w : World) (hl : fs.length ≤ 1000000) (hS : ∀ k, S k → k < w.heap.size) (hF : FilesIn S w (.slice a fs.length cap) fs) :
    Calls Tryz.prog 29 #[.slice a fs.length cap] w fun e w' => ∃ g c, e = .returned (.slice g fs.length c) ∧ w'.ownsRow w.heap.size 9 1 (.slice g fs.length c) fs.length (fs.map (fun f => Value.string f.nm)) ∧ Below w.heap.size w w' := by
  obtain ⟨i0, hi, hz0, hz1, hz2⟩ := info_parts Tryz.info9
  go_enter Tryz.func29, Tryz.ntmps29
  go_wp2
  go_loopw [3, 8] (fun v3 v8 wr => ∃ (k : Nat) (g : Option Addr) (c : Nat), k ≤ fs.length ∧ v8 = .int .i64 (k : Int) ∧ v3 = .slice g k c ∧ Hid (wr.ownsRow w.heap.size 9 1 (.slice g k c) k ((fs.take k).map (fun f => Value.string f.nm))) ∧ Hid (Below w.heap.size w wr)) (fun _ v8 _ => fs.length - (intOf v8).toNat)
  case atStart => exact ⟨0, none, 0, Nat.zero_le _, rfl, rfl, World.ownsRow_nil _ _ _ _, Below.refl _ _⟩
  case round =>
    obtain ⟨k, g, c, hk, rfl, rfl, HO, HB⟩ := hrel
    by_cases hlt : k < fs.length
    · have t1 : (k : Int) < (fs.length : Int) := by omega
      have hFr : FilesIn S wr (.slice a fs.length cap) fs := FilesIn.kept (Kept.of_below HB.out hS) hF
      obtain ⟨b, off, rfl, hSb, e0, e1⟩ := hFr.at k hlt
      have HT : Hid ((fs.take (k + 1)).map (fun f => Value.string f.nm) = (fs.take k).map (fun f => Value.string f.nm) ++ [.string (fs[k]?.getD default).nm]) := by
        show _ = _
        rw [List.take_succ_eq_append_getElem hlt, List.map_append, List.getElem?_eq_getElem hlt]
        rfl
      generalize fs[k]?.getD default = f at e0 e1 HT
      obtain ⟨nm, fa, fcap, zs⟩ := f
      simp only [Fil.dat] at e0 e1 HT
      have ho1 := HO.out.alloc (.cells #[.string nm, .slice fa zs.length fcap] 33)
      have hbs := HB.out.size
      go_wp2_with (at_builtin; refine wpList_append_own2 _ rfl (.tmp 12) (.tmp 15) 26 rfl w.heap.size 9 i0 (.string .empty) 1 16 Tryz.underlying26 hi hz0 hz1 hz2 rfl (by decide) _ _ _ rfl (ho1.alloc _) ⟨(wr.alloc (.cells #[.string nm, .slice fa zs.length fcap] 33)).heap.size, 0, none⟩ 1 1 [.string nm] (by simp [go_sem]) rfl (cell_one_new _ _ _) (by simp [Value.oneCell']) (by unfold maxLen; omega) (by omega) (by simp; omega) ?_)
      intro v' w1 hown' hgrow hblk
      obtain ⟨g', c', rfl⟩ := owns_form hown'
      have HB1 : Hid (Below w.heap.size w w1) := ((HB.out.alloc hbs _).alloc (by simp; omega) _).grown hgrow (by simp; omega) (fun r e => (HO.out.lt r e).1)
      have HO1 : Hid (w1.ownsRow w.heap.size 9 1 (.slice g' (k + 1) c') (k + 1) ((fs.take (k + 1)).map (fun f => Value.string f.nm))) := by rw [HT.out, List.map_take]; exact hown'
      clear hown' hgrow hblk ho1
      go_wp2
      go_roundw
      case rel => exact ⟨k + 1, g', c', by omega, by go_num, rfl, HO1.out, HB1.out⟩
      case measure => simp [intOf]; omega
    · have t1 : ¬ ((k : Int) < (fs.length : Int)) := by omega
      obtain rfl : k = fs.length := by omega
      have HO2 : Hid (wr.ownsRow w.heap.size 9 1 (.slice g fs.length c) fs.length (fs.map (fun f => Value.string f.nm))) := by
        have := HO.out
        rw [List.take_length] at this
        exact this
      clear HO
      go_wp2
      go_ret
      exact ⟨g, c, rfl, HO2.out, HB.out⟩

set_option maxRecDepth 100000 in
set_option maxHeartbeats 400000 in
theorem tooBig_any (nm : ByteArray) (a : Option Addr) (n cap : Nat) (w : World) (hn : n ≤ 262144) : Calls Tryz.prog 32 #[.agg #[.string nm, .slice a n cap]] w fun e w' => e = .returned (.bool false) ∧ Below w.heap.size w w' := by
  have t1 : ¬ ((262144 : Int) < (n : Int)) := by omega
  go_enter Tryz.func32, Tryz.ntmps32
  go_wp2
  go_ret
  exact ⟨rfl, (Below.refl _ w).alloc (Nat.le_refl _) _⟩

set_option maxRecDepth 100000 in
set_option maxHeartbeats 1000000 in
theorem indexBig_any (S : Nat → Prop) (a : Option Addr) (cap : Nat) (fs : List Fil) (w : World) (hl : fs.length ≤ 1000000) (hS : ∀ k, S k → k < w.heap.size) (hF : FilesIn S w (.slice a fs.length cap) fs) (hz : ∀ f ∈ fs, f.zs.length ≤ 262144) :
    Calls Tryz.prog 52 #[.slice a fs.length cap, .func (.func 32) #[] #[]] w fun e w' => e = .returned (.int .i64 (-1)) ∧ Below w.heap.size w w' := by
  go_enter Tryz.func52, Tryz.ntmps52
  go_wp2
  go_loopw [8] (fun v8 wr => ∃ k : Nat, k ≤ fs.length ∧ v8 = .int .i64 (k : Int) ∧ Hid (Below w.heap.size w wr)) (fun v8 _ => fs.length - (intOf v8).toNat)
  case atStart => exact ⟨0, Nat.zero_le _, rfl, Below.refl _ _⟩
  case round =>
    obtain ⟨k, hk, rfl, HB⟩ := hrel
    by_cases hlt : k < fs.length
    · have t1 : (k : Int) < (fs.length : Int) := by omega
      have hFr : FilesIn S wr (.slice a fs.length cap) fs := FilesIn.kept (Kept.of_below HB.out hS) hF
      obtain ⟨b, off, rfl, hSb, e0, e1⟩ := hFr.at k hlt
      have hzk : (fs[k]?.getD default).zs.length ≤ 262144 := by rw [List.getElem?_eq_getElem hlt]; exact hz _ (List.getElem_mem hlt)
      generalize fs[k]?.getD default = f at e0 e1 hzk
      obtain ⟨nm, fa, fcap, zs⟩ := f
      simp only [Fil.dat] at e0 e1 hzk
      have HT : Hid (Calls Tryz.prog 32 #[.agg #[.string nm, .slice fa zs.length fcap]] wr _) := tooBig_any nm fa zs.length fcap wr hzk
      go_wp2_with fail
      refine Calls.mono HT.out ?_
      clear HT
      rintro e w1 ⟨rfl, hb1⟩
      have HB1 : Hid (Below w.heap.size w w1) := HB.out.trans (hb1.mono HB.out.size)
      clear hb1
      go_wp2
      go_roundw
      case rel => exact ⟨k + 1, by omega, by go_num, HB1.out⟩
      case measure => simp [intOf]; omega
    · have t1 : ¬ ((k : Int) < (fs.length : Int)) := by omega
      go_wp2
      go_ret
      exact ⟨rfl, HB.out⟩

set_option maxRecDepth 100000 in
set_option maxHeartbeats 400000 in
theorem anyBig_any (S : Nat → Prop) (a : Option Addr) (cap : Nat) (fs : List Fil) (w : World) (hl : fs.length ≤ 1000000) (hS : ∀ k, S k → k < w.heap.size) (hF : FilesIn S w (.slice a fs.length cap) fs) (hz : ∀ f ∈ fs, f.zs.length ≤ 262144) :
    Calls Tryz.prog 31 #[.slice a fs.length cap, .func (.func 32) #[] #[]] w fun e w' => e = .returned (.bool false) ∧ Below w.heap.size w w' := by
  go_enter Tryz.func31, Tryz.ntmps31
  go_wp2_with fail
  refine (indexBig_any S a cap fs w hl hS hF hz).mono ?_
  rintro e w1 ⟨rfl, hb1⟩
  go_wp2
  go_ret
  exact ⟨rfl, hb1⟩

/-- Texts in a row that can be read. -/
theorem owns_strs {w : World} {base : Nat} {g : Option Addr} {c n : Nat} {ps : List ByteArray} (h : w.ownsRow base 9 1 (.slice g n c) n (ps.map Value.string)) (hn : 0 < n) : ∃ b, g = some ⟨b, 0, none⟩ ∧ base ≤ b ∧ b < w.heap.size ∧ StrsIn w b ps := by
  rcases h.2 with ⟨_, h0⟩ | ⟨b, cap, cur, e, hb, hgb, h3, h4, h5, h6⟩
  · omega
  · simp only [Value.slice.injEq, true_and] at e
    obtain ⟨rfl, rfl⟩ := e
    refine ⟨b, rfl, hb, (Array.getElem?_eq_some_iff.1 hgb).1, fun j hj => ?_⟩
    have hc := h.cells (g := b) rfl j (.string (ps[j]?.getD .empty)) (by simp [hj])
    rwa [Go.WideShapes.add_plain, Nat.zero_add] at hc

set_option maxRecDepth 100000 in
set_option maxHeartbeats 1000000 in
theorem allRight_any (b cap : Nat) (ps : List ByteArray) (m : Int) (w : World) (hl : ps.length ≤ 1000000) (hb : b < w.heap.size) (h0 : 0 < w.heap.size) (hI : StrsIn w b ps) (hm : w.cell? ⟨0, 0, none⟩ = some (.int .i64 m)) (hr : ∀ p ∈ ps, rightS p = true) :
    Calls Tryz.prog 33 #[.slice (some ⟨b, 0, none⟩) ps.length cap] w fun e w' => e = .returned (.bool true) ∧ Below w.heap.size w w' := by
  go_enter Tryz.func33, Tryz.ntmps33
  go_wp2
  go_loopw [7] (fun v7 wr => ∃ k : Nat, k ≤ ps.length ∧ v7 = .int .i64 (k : Int) ∧ Hid (Below w.heap.size w wr)) (fun v7 _ => ps.length - (intOf v7).toNat)
  case atStart => exact ⟨0, Nat.zero_le _, rfl, Below.refl _ _⟩
  case round =>
    obtain ⟨k, hk, rfl, HB⟩ := hrel
    by_cases hlt : k < ps.length
    · have t1 : (k : Int) < (ps.length : Int) := by omega
      have hc := (HB.out.cell (p := ⟨b, k, none⟩) hb).trans (hI k hlt)
      have hmr := (HB.out.cell (p := ⟨0, 0, none⟩) h0).trans hm
      have hrk : rightS (ps[k]?.getD .empty) = true := by rw [List.getElem?_eq_getElem hlt]; exact hr _ (List.getElem_mem hlt)
      have hsz : (ps[k]?.getD .empty).size ≤ maxLen := by
        unfold rightS at hrk
        simp only [Bool.and_eq_true, decide_eq_true_eq] at hrk
        unfold maxLen
        omega
      generalize ps[k]?.getD .empty = p at hc hrk hsz
      have HT : Hid (Calls Tryz.prog 4 #[.string p] wr fun e w' => e = .returned (.bool (rightS p)) ∧ Below wr.heap.size wr w') := right_any p m wr hsz hmr
      rw [hrk] at HT
      clear hmr hsz
      go_wp2_with fail
      refine Calls.mono HT.out ?_
      clear HT
      rintro e w1 ⟨rfl, hb1⟩
      have HB1 : Hid (Below w.heap.size w w1) := HB.out.trans (hb1.mono HB.out.size)
      clear hb1
      go_wp2
      go_roundw
      case rel => exact ⟨k + 1, by omega, by go_num, HB1.out⟩
      case measure => simp [intOf]; omega
    · have t1 : ¬ ((k : Int) < (ps.length : Int)) := by omega
      go_wp2
      go_ret
      exact ⟨rfl, HB.out⟩

set_option maxRecDepth 100000 in
set_option maxHeartbeats 400000 in
theorem known0_any (w : World) : Calls Tryz.prog 30 #[.int .i64 0] w fun e w' => e = .returned (.bool true) ∧ w' = w := by
  go_enter Tryz.func30, Tryz.ntmps30
  go_wp2
  go_ret
  exact ⟨rfl, rfl⟩

set_option maxRecDepth 100000 in
set_option maxHeartbeats 1000000 in
theorem twice1_any (b cap : Nat) (p : ByteArray) (w : World) (hc : w.cell? ⟨b, 0, none⟩ = some (.string p)) :
    Calls Tryz.prog 34 #[.slice (some ⟨b, 0, none⟩) 1 cap] w fun e w' => e = .returned (.int .i64 1) ∧ w' = w := by
  go_enter Tryz.func34, Tryz.ntmps34
  go_wp2_with fail
  go_step3
  go_wp2_with fail
  go_step3
  go_wp2_with fail
  go_loop [3, 12] (fun v3 v12 => ∃ k : Nat, k ≤ 1 ∧ v12 = .int .i64 (k : Int) ∧ v3 = .int .i64 1) (fun _ v12 => 1 - (intOf v12).toNat)
  case atStart => exact ⟨0, by omega, rfl, rfl⟩
  case round =>
    obtain ⟨k, hk, rfl, rfl⟩ := hrel
    rcases (by omega : k = 0 ∨ k = 1) with rfl | rfl
    · go_wp2
      go_loop [3, 21] (fun v3 v21 => v21 = .int .i64 0 ∧ v3 = .int .i64 1) (fun _ _ => 0)
      case atStart => exact ⟨rfl, rfl⟩
      case round =>
        obtain ⟨rfl, rfl⟩ := hrel
        go_wp2
        go_round
        case rel => exact ⟨1, by omega, by go_num, rfl⟩
        case measure => simp [intOf]
    · go_wp2
      go_ret
      exact ⟨rfl, rfl⟩

set_option maxRecDepth 100000 in
set_option maxHeartbeats 1000000 in
theorem refusal1_any (S : Nat → Prop) (a : Option Addr) (cap : Nat) (f : Fil) (m : Int) (w : World) (hS : ∀ k, S k → k < w.heap.size) (h0 : 0 < w.heap.size) (hF : FilesIn S w (.slice a 1 cap) [f]) (hz : f.zs.length ≤ 262144) (hr : rightS f.nm = true) (hm : w.cell? ⟨0, 0, none⟩ = some (.int .i64 m)) :
    Calls Tryz.prog 15 #[.slice a 1 cap, .int .i64 0] w fun e w' => e = .returned (.int .i64 0) ∧ Below w.heap.size w w' := by
  have HN : Hid (Calls Tryz.prog 29 #[.slice a 1 cap] w fun e w' => ∃ g c, e = .returned (.slice g 1 c) ∧ w'.ownsRow w.heap.size 9 1 (.slice g 1 c) 1 ([f.nm].map Value.string) ∧ Below w.heap.size w w') := namesOf_any S a cap [f] w (by simp) hS hF
  go_enter Tryz.func15, Tryz.ntmps15
  go_wp2_with fail
  refine Calls.mono HN.out ?_
  clear HN
  rintro e w1 ⟨g, c, rfl, ho, hb1⟩
  obtain ⟨b, rfl, hb, hbl, hI⟩ := owns_strs ho (by omega)
  have hs1 := hb1.size
  have hF1 : FilesIn S w1 (.slice a 1 cap) [f] := FilesIn.kept (Kept.of_below hb1 hS) hF
  have hm1 := (hb1.cell (p := ⟨0, 0, none⟩) h0).trans hm
  have HBG : Hid (Calls Tryz.prog 31 #[.slice a 1 cap, .func (.func 32) #[] #[]] w1 fun e w' => e = .returned (.bool false) ∧ Below w1.heap.size w1 w') := anyBig_any S a cap [f] w1 (by simp) (fun k h => by have := hS k h; omega) hF1 (by simpa using hz)
  have HK : Hid _ := known0_any w1
  clear ho hm hF hF1
  go_wp2_with fail
  refine Calls.mono HK.out ?_
  clear HK
  rintro e w1' ⟨rfl, rfl⟩
  go_wp2_with fail
  refine Calls.mono HBG.out ?_
  clear HBG
  rintro e w2 ⟨rfl, hb2⟩
  have hs2 := hb2.size
  have hI2 : StrsIn w2 b [f.nm] := fun j hj => (hb2.cell (p := ⟨b, j, none⟩) hbl).trans (hI j hj)
  have hm2 := (hb2.cell (p := ⟨0, 0, none⟩) (by show 0 < _; omega)).trans hm1
  have HAR : Hid (Calls Tryz.prog 33 #[.slice (some ⟨b, 0, none⟩) 1 c] w2 fun e w' => e = .returned (.bool true) ∧ Below w2.heap.size w2 w') := allRight_any b c [f.nm] m w2 (by simp) (by omega) (by omega) hI2 hm2 (by simpa using hr)
  clear hm1 hI
  go_wp2_with fail
  refine Calls.mono HAR.out ?_
  clear HAR
  rintro e w3 ⟨rfl, hb3⟩
  have hc3 : w3.cell? ⟨b, 0, none⟩ = some (.string f.nm) := (hb3.cell (p := ⟨b, 0, none⟩) (by show b < _; omega)).trans (hI2 0 (by simp))
  have HTW : Hid _ := twice1_any b c f.nm w3 hc3
  clear hI2 hm2 hc3
  go_wp2_with fail
  refine Calls.mono HTW.out ?_
  clear HTW
  rintro e w3' ⟨rfl, rfl⟩
  go_wp2
  go_ret
  exact ⟨rfl, hb1.trans ((hb2.mono hs1).trans (hb3.mono (by omega)))⟩
end Go.Proofs.YtibnafngkcpafaaGreatDoor
