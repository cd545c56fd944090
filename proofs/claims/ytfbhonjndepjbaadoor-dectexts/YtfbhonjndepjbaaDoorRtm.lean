import Derived.Test.YtfbhonjndepjbaaDoorRofM
import Derived.Test.YtfbhonjndepjbaaDoorOrdM
/- trim: a number without noughts at its end. -/
namespace Go.Proofs.YtfbhonjndepjbaaDoor
open Go.RowKit

/-- A number of a sign and digits. -/
def bval (neg : Bool) (ds : List Int) : Int := if neg then -dval ds else dval ds
theorem bval_zero {neg : Bool} {ds : List Int} (h : dval ds = 0) : bval neg ds = 0 := by unfold bval; rw [h]; cases neg <;> rfl
theorem bval_neg {neg : Bool} {ds : List Int} (h : DgL ds) (h0 : dval ds ≠ 0) : decide (bval neg ds < 0) = neg ∧ (bval neg ds).natAbs = (dval ds).toNat := by
  have := dval_nonneg h
  unfold bval
  cases neg
  · exact ⟨decide_eq_false (by simp; omega), by simp; omega⟩
  · exact ⟨decide_eq_true (by simp; omega), by simp; omega⟩
theorem cells_src {w : World} {b off : Nat} {ds : List Int} (n : Nat) (hn : n ≤ ds.length) (h : ∀ j : Nat, j < ds.length → w.cell? ⟨b, off + j, none⟩ = some (.int .i64 (ds[j]?.getD 0))) :
    ∀ (j : Nat) (u : Value), ((ds.take n).map (Value.int .i64))[j]? = some u → w.cell? ((⟨b, off, none⟩ : Addr).add j) = some u := by
  intro j u hu
  have hj : j < n := by
    by_cases hj : j < n
    · exact hj
    · rw [List.getElem?_eq_none (by simp; omega)] at hu; cases hu
  rw [Go.WideShapes.add_plain, h j (by omega)]
  rw [List.getElem?_map, List.getElem?_take_of_lt hj, List.getElem?_eq_getElem (by omega)] at hu
  rw [List.getElem?_eq_getElem (by omega)]
  exact hu
set_option maxRecDepth 100000 in
set_option maxHeartbeats 2000000 in
theorem trim_new (neg : Bool) (sv : Value) (ds : List Int) (w : World) (hD : DgAt w sv ds) (hd : DgL ds) (hl : ds.length ≤ 1000) :
    Calls Tryd.prog 59 #[bv neg sv] w fun r w' => ∃ v, r = .returned v ∧ BigV w' (bval neg ds) v ∧ NewV w.heap.size v ∧ Below w.heap.size w w' := by
  obtain ⟨hI, a, cap, rfl, hcap, _⟩ := hD
  unfold bv
  obtain ⟨i0, hi, hzz⟩ := Option.map_eq_some_iff.1 Tryd.info3
  simp only [Prod.mk.injEq] at hzz
  obtain ⟨hz0, hz1, hz2⟩ := hzz
  have HI : Hid (IntsIn (· < w.heap.size) w (.slice a ds.length cap) ds) := hI
  have HDG : Hid (DgL ds) := hd
  have hcap2 : (ds.length : Int) ≤ (cap : Int) := by omega
  clear hI hd
  go_enter Tryd.func59, Tryd.ntmps59
  go_wp2_with fail
  have r1 := (Row.new w 45 #[.bool neg, .slice a ds.length cap]).alloc (.cells #[.bool false, .slice none 0 0] 45)
  have r2 := Row.new1 w (.cells #[.bool neg, .slice a ds.length cap] 45) 45 #[.bool false, .slice none 0 0]
  have hB := ((Below.refl _ w).alloc (Nat.le_refl _) (.cells #[.bool neg, .slice a ds.length cap] 45)).alloc (by simp) (.cells #[.bool false, .slice none 0 0] 45)
  obtain ⟨d0, d1⟩ := r1.duo
  go_wp2
  clear d0 d1
  go_loopw [3] (fun v wr => ∃ n : Nat, n ≤ ds.length ∧ v = .int .i64 (n : Int) ∧ Hid (∀ j, n ≤ j → ds[j]?.getD 0 = 0) ∧ Row wr w.heap.size 45 #[.bool neg, .slice a ds.length cap] ∧ Row wr (w.heap.size + 1) 45 #[.bool false, .slice none 0 0] ∧ Below w.heap.size w wr) (fun v _ => (intOf v).toNat)
  case atStart => exact ⟨ds.length, Nat.le_refl _, rfl, fun j hj => by rw [List.getElem?_eq_none hj]; rfl, r1, r2, hB⟩
  case round =>
    obtain ⟨n, hn, rfl, HZ, q1, q2, hBr⟩ := hrel
    clear r1 r2 hB
    obtain ⟨d0, d1⟩ := q1.duo
    obtain ⟨e0, e1⟩ := q2.duo
    by_cases h0 : n = 0
    · subst h0
      have z := q2.frozen
      have hz : dval ds = 0 := by
        refine dval_zeros fun d hd => ?_
        obtain ⟨i, hi, rfl⟩ := List.getElem_of_mem hd
        have := HZ.out i (Nat.zero_le _)
        rwa [List.getElem?_eq_getElem hi] at this
      have hBe := below_set (below_set hBr (B := w.heap.size + 1) 0 (.bool false) (by omega)) (B := w.heap.size + 1) 1 (.slice none 0 0) (by omega)
      have hZe := Row.set2 q2 (.bool false) (.slice none 0 0)
      have hlt := q2.lt
      have hlt1 := q1.lt
      go_wp2
      refine bodyPost_ret (ret_one rfl (g := w.heap.size + 1) rfl (load43 hZe rfl)) rfl ⟨_, rfl, ⟨.slice none 0 0, ?_, ?_⟩, ⟨_, _, rfl, new_nil _⟩, hBe⟩
      · rw [bval_zero hz]; rfl
      · rw [bval_zero hz]
        exact (show digs (0 : Int).natAbs = [] from digs_zero) ▸ dg_nil _
    · rcases HI.out.kept (Kept.of_below hBr (fun _ h => h)) with ⟨hnil, _⟩ | ⟨b, off, cap', he, hlt, hc⟩
      · exfalso; rw [hnil] at hn; simp at hn; omega
      · simp only [Value.slice.injEq, true_and] at he
        obtain ⟨rfl, rfl⟩ := he
        obtain ⟨m, hm⟩ : ∃ m, n = m + 1 := ⟨n - 1, by omega⟩
        have hnm : (n : Int) - 1 = (m : Int) := by omega
        have hmd : m < ds.length := by omega
        have cm := hc m hmd
        have hg0 : (0 : Int) < (n : Int) := by omega
        have hg1 : (m : Int) < (ds.length : Int) := by omega
        obtain ⟨d, hdd⟩ : ∃ d, ds[m]?.getD 0 = d := ⟨_, rfl⟩
        rw [hdd] at cm
        have HC : Hid (∀ j : Nat, j < ds.length → wr.cell? ⟨b, off + j, none⟩ = some (.int .i64 (ds[j]?.getD 0))) := hc
        have HDD : Hid (ds[m]?.getD 0 = d) := hdd
        have HM : Hid (n = m + 1) := hm
        have z1 := q1.lt
        have z2 := q2.lt
        clear hc hdd hm h0
        by_cases hd0 : d = 0
        · subst hd0
          have HZ2 : Hid (∀ j, m ≤ j → ds[j]?.getD 0 = 0) := by
            intro j hj
            by_cases hjm : j = m
            · rw [hjm]; exact HDD.out
            · exact HZ.out j (by have := HM.out; omega)
          go_wp2
          go_roundw
          case rel => exact ⟨m, by omega, rfl, HZ2, q1, q2, hBr⟩
          case measure => have := HM.out; simp [intOf]; omega
        · have g0 : (d == 0) = false := by simpa using hd0
          have g1 : ((n : Int) == 0) = false := by simp only [beq_eq_false_iff_ne]; omega
          obtain ⟨ht1, ht2⟩ := trim_digs HDG.out n hn HZ.out (.inr (by rw [show n - 1 = m by have := HM.out; omega, HDD.out]; exact hd0))
          have hv0 : dval ds ≠ 0 := by
            intro hv
            rw [hv, show (0 : Int).toNat = 0 from rfl, digs_zero] at ht1
            have := congrArg List.length ht1
            rw [List.length_take, List.length_nil] at this
            omega
          obtain ⟨hb1, hb2⟩ := bval_neg (neg := neg) HDG.out hv0
          have HT : Hid (ds.take n = digs (bval neg ds).natAbs ∧ decide (bval neg ds < 0) = neg) := ⟨by rw [hb2]; exact ht1, hb1⟩
          have HN1 : Hid (n ≤ ds.length) := hn
          clear ht1 ht2 hv0 hb1 hb2 HZ
          have hn1 : (n : Int) ≤ (cap : Int) := by omega
          go_wp2_with fail
          have hS : Below wr.heap.size wr wr.drew := (Below.refl _ wr).drew
          refine wp_region_M (fun wx : World => Below wr.heap.size wr wx) (fun j => decide (j < 9)) 10 rfl (by kernel_rfl) ?_
          refine wpM_held 0 (v := ?_) rfl (by kernel_rfl) (by kernel_rfl) rfl (fun _ _ _ h => h) rfl (by intro wx hx; go_simp <;> rfl) hS ?_
          refine wpM_held 1 (v := .bool neg) rfl (by kernel_rfl) (by kernel_rfl) rfl (fun _ _ _ h => h) rfl (by intro wx hx; obtain ⟨x0, x1⟩ := (q1.below hx q1.lt).duo; go_simp <;> rfl) hS ?_
          refine wpM_held 3 (v := ?_) rfl (by kernel_rfl) (by kernel_rfl) rfl (fun _ _ _ h => h) rfl (by intro wx hx; go_simp <;> rfl) hS ?_
          refine wpM_held 4 (v := .slice (some ⟨b, off, none⟩) ds.length cap) rfl (by kernel_rfl) (by kernel_rfl) rfl (fun _ _ _ h => h) rfl (by intro wx hx; obtain ⟨x0, x1⟩ := (q1.below hx q1.lt).duo; go_simp <;> rfl) hS ?_
          refine wpM_held 5 (v := .int .i64 (n : Int)) rfl (by kernel_rfl) (by kernel_rfl) rfl (fun _ _ _ h => h) rfl (by intro wx hx; go_simp <;> rfl) hS ?_
          refine wpM_held 6 (v := .slice (some ⟨b, off, none⟩) n cap) rfl (by kernel_rfl) (by kernel_rfl) rfl (fun _ _ _ h => h) rfl (by intro wx hx; go_simp <;> first | rfl | omega) hS ?_
          refine wpM_one 2 rfl (by kernel_rfl) rfl ?_
          go_wp2_with fail
          have hW1 : Below wr.heap.size wr (wr.alloc (.cells #[] 3)).drew := ((Below.refl _ wr).alloc (Nat.le_refl _) _).drew
          have hO0 : (wr.alloc (.cells #[] 3)).drew.ownsRow wr.heap.size 3 1 (.slice (some ⟨wr.heap.size, 0, none⟩) 0 0) 0 [] := World.ownsRow_made wr #[] 0 (Nat.le_refl _) (by unfold maxLen; omega) rfl
          have hzs : wr.heap.size ≤ (wr.alloc (.cells #[] 3)).drew.heap.size := hW1.size
          have HSRC : Hid (∀ (j : Nat) (u : Value), ((ds.take n).map (Value.int .i64))[j]? = some u → (wr.alloc (.cells #[] 3)).drew.cell? ((⟨b, off, none⟩ : Addr).add j) = some u) :=
            cells_src n HN1.out (fun j hj => ((Kept.of_below (S := fun k => k < wr.heap.size) hW1 (fun _ h => h)).cell (p := ⟨b, off + j, none⟩) (by show b < wr.heap.size; have : b < w.heap.size := hlt; omega)).trans (HC.out j hj))
          refine ⟨fun _ => hW1, ?_⟩
          generalize hWg : (wr.alloc (.cells #[] 3)).drew = W1 at *
          clear hWg
          have hlen : ((ds.take n).map (Value.int .i64)).length = n * 1 := by rw [List.length_map, List.length_take, Nat.min_eq_left HN1.out]; omega
          refine wpM_one 7 rfl (by kernel_rfl) rfl ?_
          refine wpList_append_own2 _ rfl (.tmp 25) (.tmp 29) 43 rfl wr.heap.size 3 i0 (.int .i64 0) 1 8 Tryd.underlying43 hi hz0 hz1 hz2 rfl (by decide) _ _ _ rfl hO0 ⟨b, off, none⟩ n cap ((ds.take n).map (Value.int .i64)) rfl hlen HSRC.out (by intro u hu; obtain ⟨x, _, rfl⟩ := List.mem_map.1 hu; rfl) (by unfold maxLen; omega) (by omega) hzs ?_
          intro v1 x1 hown1 hgrow1 hblk1
          have hW2 : Below wr.heap.size wr x1 := hW1.grown hgrow1 hzs (fun k e => (hO0.lt k e).1)
          have HO : Hid (OwnD wr.heap.size x1 v1 (ds.take n)) := by
            show OwnD _ _ _ _
            unfold OwnD
            rw [List.length_take, Nat.min_eq_left HN1.out]
            simpa using hown1
          rw [Nat.zero_add] at hown1
          obtain ⟨g1, k1, rfl⟩ := owns_form hown1
          clear hown1 hgrow1 hblk1 HSRC hO0 hlen
          go_wp2_with fail
          refine ⟨fun _ => hW2, ?_⟩
          have p2 := q2.below hW2 q2.lt
          obtain ⟨y0, y1⟩ := p2.duo
          have zf := p2.frozen
          refine wpM_one 8 rfl (by kernel_rfl) rfl ?_
          go_wp2_with fail
          refine ⟨fun _ => hW2, ?_⟩
          refine wpM_one 9 rfl (by kernel_rfl) rfl ?_
          go_wp2_with fail
          refine ⟨fun h => by simp at h, ?_⟩
          refine wpM_done (by kernel_rfl) ?_
          have hBx := hBr.trans (hW2.mono hBr.size)
          have hBe := below_set (below_set hBx (B := w.heap.size + 1) 0 (.bool neg) (by omega)) (B := w.heap.size + 1) 1 (.slice g1 n k1) (by omega)
          have hZe := Row.set2 p2 (.bool neg) (.slice g1 n k1)
          have hOe : DgAt ((x1.setCell ⟨w.heap.size + 1, 0, none⟩ (.bool neg)).setCell ⟨w.heap.size + 1, 1, none⟩ (.slice g1 n k1)) (.slice g1 n k1) (ds.take n) :=
            OwnD.dg (B := wr.heap.size) (owns_kept HO.out (((Kept.refl (fun k => k ≠ w.heap.size + 1) x1).setCell (p := ⟨w.heap.size + 1, 0, none⟩) (by simp) _).setCell (p := ⟨w.heap.size + 1, 1, none⟩) (by simp) _) (fun k hk e => by have := (HO.out.lt k hk).1; omega))
          go_wp2
          refine bodyPost_ret (ret_one rfl (g := w.heap.size + 1) rfl (load43 hZe rfl)) rfl ⟨_, rfl, ⟨.slice g1 n k1, ?_, ?_⟩, ⟨_, _, rfl, HO.out.new.mono hBr.size⟩, hBe⟩
          · rw [HT.out.2]; rfl
          · rw [← HT.out.1]; exact hOe
theorem trim_any (neg : Bool) (sv : Value) (ds : List Int) (w : World) (hD : DgAt w sv ds) (hd : DgL ds) (hl : ds.length ≤ 1000) :
    Calls Tryd.prog 59 #[bv neg sv] w fun r w' => ∃ v, r = .returned v ∧ BigV w' (bval neg ds) v ∧ Below w.heap.size w w' := by
  refine (trim_new neg sv ds w hD hd hl).mono ?_
  rintro r w' ⟨v, h1, h2, _, h3⟩
  exact ⟨v, h1, h2, h3⟩
end Go.Proofs.YtfbhonjndepjbaaDoor
