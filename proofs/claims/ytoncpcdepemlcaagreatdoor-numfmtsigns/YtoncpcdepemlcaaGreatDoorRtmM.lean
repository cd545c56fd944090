import Derived.Test.YtoncpcdepemlcaaGreatDoorRofM
import Derived.Test.YtoncpcdepemlcaaGreatDoorOrdM
import Derived.Laws.MakeOwn
import Derived.Test.YtoncpcdepemlcaaGreatDoorWbsM
import Derived.Test.YtoncpcdepemlcaaGreatDoorWprM
import Derived.Test.YtoncpcdepemlcaaGreatDoorWprM
/- trim: a number without noughts at its end. -/
namespace Go.Proofs.YtoncpcdepemlcaaGreatDoor
open Go.RowKit

/-- A number of a sign and digits. -/
def bval (neg : Bool) (ds : List Int) : Int := if neg then -dval ds else dval ds
theorem bval_zero {neg : Bool} {ds : List Int} (h : dval ds = 0) : bval neg ds = 0 := by unfold bval; rw [h]; cases neg <;> rfl
theorem bval_neg {neg : Bool} {ds : List Int} (h : DgL ds) (h0 : dval ds ≠ 0) : decide (bval neg ds < 0) = neg ∧ (bval neg ds).natAbs = (dval ds).toNat := by
  have := dval_nonneg h
  unfold bval
  cases neg
  · exact ⟨decide_eq_false (by simp; omega), by simp; omega⟩
  · exact ⟨decide_eq_true (by simp; omega), by simp; omega⟩
theorem cells_src {w : World} {b off : Nat} {ds : List Int} (n : Nat) (hn : n ≤ ds.length) (h : ∀ j : Nat, j < ds.length → w.cell? ⟨b, off + j, none⟩ = some (.int .i64 (ds[j]?.getD 0))) :
    ∀ (j : Nat) (u : Value), ((ds.take n).map (Value.int .i64))[j]? = some u → w.cell? ((⟨b, off, none⟩ : Addr).add j) = some u := by
  intro j u hu
  have hj : j < n := by
    by_cases hj : j < n
    · exact hj
    · rw [List.getElem?_eq_none (by simp; omega)] at hu; cases hu
  rw [Go.WideShapes.add_plain, h j (by omega)]
  rw [List.getElem?_map, List.getElem?_take_of_lt hj, List.getElem?_eq_getElem (by omega)] at hu
  rw [List.getElem?_eq_getElem (by omega)]
  exact hu
set_option maxRecDepth 100000 in
set_option maxHeartbeats 2000000 in
theorem trim_new (neg : Bool) (sv : Value) (ds : List Int) (w : World) (hD : DgAt w sv ds) (hd : DgL ds) (hl : ds.length ≤ 1000) :
    Calls Tryz.prog 65 #[bv neg sv] w fun r w' => ∃ v, r = .returned v ∧ BigV w' (bval neg ds) v ∧ NewV w.heap.size v ∧ Below w.heap.size w w' := by
  obtain ⟨hI, a, cap, rfl, hcap, _⟩ := hD
  unfold bv
  obtain ⟨i0, hi, hzz⟩ := Option.map_eq_some_iff.1 Tryz.info3
  simp only [Prod.mk.injEq] at hzz
  obtain ⟨hz0, hz1, hz2⟩ := hzz
  have HI : Hid (IntsIn (· < w.heap.size) w (.slice a ds.length cap) ds) := hI
  have HDG : Hid (DgL ds) := hd
  have hcap2 : (ds.length : Int) ≤ (cap : Int) := by omega
  clear hI hd
  go_enter Tryz.func65, Tryz.ntmps65
  go_wp2_with fail
  have r1 := (Row.new w 72 #[.bool neg, .slice a ds.length cap]).alloc (.cells #[.bool false, .slice none 0 0] 72)
  have r2 := Row.new1 w (.cells #[.bool neg, .slice a ds.length cap] 72) 72 #[.bool false, .slice none 0 0]
  have hB := ((Below.refl _ w).alloc (Nat.le_refl _) (.cells #[.bool neg, .slice a ds.length cap] 72)).alloc (by simp) (.cells #[.bool false, .slice none 0 0] 72)
  obtain ⟨d0, d1⟩ := r1.duo
  go_wp2
  clear d0 d1
  go_loopw [3] (fun v wr => ∃ n : Nat, n ≤ ds.length ∧ v = .int .i64 (n : Int) ∧ Hid (∀ j, n ≤ j → ds[j]?.getD 0 = 0) ∧ Row wr w.heap.size 72 #[.bool neg, .slice a ds.length cap] ∧ Row wr (w.heap.size + 1) 72 #[.bool false, .slice none 0 0] ∧ Below w.heap.size w wr) (fun v _ => (intOf v).toNat)
  case atStart => exact ⟨ds.length, Nat.le_refl _, rfl, fun j hj => by rw [List.getElem?_eq_none hj]; rfl, r1, r2, hB⟩
  case round =>
    obtain ⟨n, hn, rfl, HZ, q1, q2, hBr⟩ := hrel
    clear r1 r2 hB
    obtain ⟨d0, d1⟩ := q1.duo
    obtain ⟨e0, e1⟩ := q2.duo
    by_cases h0 : n = 0
    · subst h0
      have z := q2.frozen
      have hz : dval ds = 0 := by
        refine dval_zeros fun d hd => ?_
        obtain ⟨i, hi, rfl⟩ := List.getElem_of_mem hd
        have := HZ.out i (Nat.zero_le _)
        rwa [List.getElem?_eq_getElem hi] at this
      have hBe := below_set (below_set hBr (B := w.heap.size + 1) 0 (.bool false) (by omega)) (B := w.heap.size + 1) 1 (.slice none 0 0) (by omega)
      have hZe := Row.set2 q2 (.bool false) (.slice none 0 0)
      have hlt := q2.lt
      have hlt1 := q1.lt
      go_wp2
      refine bodyPost_ret (ret_one rfl (g := w.heap.size + 1) rfl (load43 hZe rfl)) rfl ⟨_, rfl, ⟨.slice none 0 0, ?_, ?_⟩, ⟨_, _, rfl, new_nil _⟩, hBe⟩
      · rw [bval_zero hz]; rfl
      · rw [bval_zero hz]
        exact (show digs (0 : Int).natAbs = [] from digs_zero) ▸ dg_nil _
    · rcases HI.out.kept (Kept.of_below hBr (fun _ h => h)) with ⟨hnil, _⟩ | ⟨b, off, cap', he, hlt, hc⟩
      · exfalso; rw [hnil] at hn; simp at hn; omega
      · simp only [Value.slice.injEq, true_and] at he
        obtain ⟨rfl, rfl⟩ := he
        obtain ⟨m, hm⟩ : ∃ m, n = m + 1 := ⟨n - 1, by omega⟩
        have hnm : (n : Int) - 1 = (m : Int) := by omega
        have hmd : m < ds.length := by omega
        have cm := hc m hmd
        have hg0 : (0 : Int) < (n : Int) := by omega
        have hg1 : (m : Int) < (ds.length : Int) := by omega
        obtain ⟨d, hdd⟩ : ∃ d, ds[m]?.getD 0 = d := ⟨_, rfl⟩
        rw [hdd] at cm
        have HC : Hid (∀ j : Nat, j < ds.length → wr.cell? ⟨b, off + j, none⟩ = some (.int .i64 (ds[j]?.getD 0))) := hc
        have HDD : Hid (ds[m]?.getD 0 = d) := hdd
        have HM : Hid (n = m + 1) := hm
        have z1 := q1.lt
        have z2 := q2.lt
        clear hc hdd hm h0
        by_cases hd0 : d = 0
        · subst hd0
          have HZ2 : Hid (∀ j, m ≤ j → ds[j]?.getD 0 = 0) := by
            intro j hj
            by_cases hjm : j = m
            · rw [hjm]; exact HDD.out
            · exact HZ.out j (by have := HM.out; omega)
          go_wp2
          go_roundw
          case rel => exact ⟨m, by omega, rfl, HZ2, q1, q2, hBr⟩
          case measure => have := HM.out; simp [intOf]; omega
        · have g0 : (d == 0) = false := by simpa using hd0
          have g1 : ((n : Int) == 0) = false := by simp only [beq_eq_false_iff_ne]; omega
          obtain ⟨ht1, ht2⟩ := trim_digs HDG.out n hn HZ.out (.inr (by rw [show n - 1 = m by have := HM.out; omega, HDD.out]; exact hd0))
          have hv0 : dval ds ≠ 0 := by
            intro hv
            rw [hv, show (0 : Int).toNat = 0 from rfl, digs_zero] at ht1
            have := congrArg List.length ht1
            rw [List.length_take, List.length_nil] at this
            omega
          obtain ⟨hb1, hb2⟩ := bval_neg (neg := neg) HDG.out hv0
          have HT : Hid (ds.take n = digs (bval neg ds).natAbs ∧ decide (bval neg ds < 0) = neg) := ⟨by rw [hb2]; exact ht1, hb1⟩
          have HN1 : Hid (n ≤ ds.length) := hn
          clear ht1 ht2 hv0 hb1 hb2 HZ
          have hn1 : (n : Int) ≤ (cap : Int) := by omega
          go_wp2_with fail
          have hS : Below wr.heap.size wr wr.drew := (Below.refl _ wr).drew
          refine wp_region_M (fun wx : World => Below wr.heap.size wr wx) (fun j => decide (j < 9)) 10 rfl (by kernel_rfl) ?_
          refine wpM_held 0 (v := ?_) rfl (by kernel_rfl) (by kernel_rfl) rfl (fun _ _ _ h => h) rfl (by intro wx hx; go_simp <;> rfl) hS ?_
          refine wpM_held 1 (v := .bool neg) rfl (by kernel_rfl) (by kernel_rfl) rfl (fun _ _ _ h => h) rfl (by intro wx hx; obtain ⟨x0, x1⟩ := (q1.below hx q1.lt).duo; go_simp <;> rfl) hS ?_
          refine wpM_held 3 (v := ?_) rfl (by kernel_rfl) (by kernel_rfl) rfl (fun _ _ _ h => h) rfl (by intro wx hx; go_simp <;> rfl) hS ?_
          refine wpM_held 4 (v := .slice (some ⟨b, off, none⟩) ds.length cap) rfl (by kernel_rfl) (by kernel_rfl) rfl (fun _ _ _ h => h) rfl (by intro wx hx; obtain ⟨x0, x1⟩ := (q1.below hx q1.lt).duo; go_simp <;> rfl) hS ?_
          refine wpM_held 5 (v := .int .i64 (n : Int)) rfl (by kernel_rfl) (by kernel_rfl) rfl (fun _ _ _ h => h) rfl (by intro wx hx; go_simp <;> rfl) hS ?_
          refine wpM_held 6 (v := .slice (some ⟨b, off, none⟩) n cap) rfl (by kernel_rfl) (by kernel_rfl) rfl (fun _ _ _ h => h) rfl (by intro wx hx; go_simp <;> first | rfl | omega) hS ?_
          refine wpM_one 2 rfl (by kernel_rfl) rfl ?_
          go_wp2_with fail
          have hW1 : Below wr.heap.size wr (wr.alloc (.cells #[] 3)).drew := ((Below.refl _ wr).alloc (Nat.le_refl _) _).drew
          have hO0 : (wr.alloc (.cells #[] 3)).drew.ownsRow wr.heap.size 3 1 (.slice (some ⟨wr.heap.size, 0, none⟩) 0 0) 0 [] := World.ownsRow_made wr #[] 0 (Nat.le_refl _) (by unfold maxLen; omega) rfl
          have hzs : wr.heap.size ≤ (wr.alloc (.cells #[] 3)).drew.heap.size := hW1.size
          have HSRC : Hid (∀ (j : Nat) (u : Value), ((ds.take n).map (Value.int .i64))[j]? = some u → (wr.alloc (.cells #[] 3)).drew.cell? ((⟨b, off, none⟩ : Addr).add j) = some u) :=
            cells_src n HN1.out (fun j hj => ((Kept.of_below (S := fun k => k < wr.heap.size) hW1 (fun _ h => h)).cell (p := ⟨b, off + j, none⟩) (by show b < wr.heap.size; have : b < w.heap.size := hlt; omega)).trans (HC.out j hj))
          refine ⟨fun _ => hW1, ?_⟩
          generalize hWg : (wr.alloc (.cells #[] 3)).drew = W1 at *
          clear hWg
          have hlen : ((ds.take n).map (Value.int .i64)).length = n * 1 := by rw [List.length_map, List.length_take, Nat.min_eq_left HN1.out]; omega
          refine wpM_one 7 rfl (by kernel_rfl) rfl ?_
          refine wpList_append_own2 _ rfl (.tmp 25) (.tmp 29) 70 rfl wr.heap.size 3 i0 (.int .i64 0) 1 8 Tryz.underlying70 hi hz0 hz1 hz2 rfl (by decide) _ _ _ rfl hO0 ⟨b, off, none⟩ n cap ((ds.take n).map (Value.int .i64)) rfl hlen HSRC.out (by intro u hu; obtain ⟨x, _, rfl⟩ := List.mem_map.1 hu; rfl) (by unfold maxLen; omega) (by omega) hzs ?_
          intro v1 x1 hown1 hgrow1 hblk1
          have hW2 : Below wr.heap.size wr x1 := hW1.grown hgrow1 hzs (fun k e => (hO0.lt k e).1)
          have HO : Hid (OwnD wr.heap.size x1 v1 (ds.take n)) := by
            show OwnD _ _ _ _
            unfold OwnD
            rw [List.length_take, Nat.min_eq_left HN1.out]
            simpa using hown1
          rw [Nat.zero_add] at hown1
          obtain ⟨g1, k1, rfl⟩ := owns_form hown1
          clear hown1 hgrow1 hblk1 HSRC hO0 hlen
          go_wp2_with fail
          refine ⟨fun _ => hW2, ?_⟩
          have p2 := q2.below hW2 q2.lt
          obtain ⟨y0, y1⟩ := p2.duo
          have zf := p2.frozen
          refine wpM_one 8 rfl (by kernel_rfl) rfl ?_
          go_wp2_with fail
          refine ⟨fun _ => hW2, ?_⟩
          refine wpM_one 9 rfl (by kernel_rfl) rfl ?_
          go_wp2_with fail
          refine ⟨fun h => by simp at h, ?_⟩
          refine wpM_done (by kernel_rfl) ?_
          have hBx := hBr.trans (hW2.mono hBr.size)
          have hBe := below_set (below_set hBx (B := w.heap.size + 1) 0 (.bool neg) (by omega)) (B := w.heap.size + 1) 1 (.slice g1 n k1) (by omega)
          have hZe := Row.set2 p2 (.bool neg) (.slice g1 n k1)
          have hOe : DgAt ((x1.setCell ⟨w.heap.size + 1, 0, none⟩ (.bool neg)).setCell ⟨w.heap.size + 1, 1, none⟩ (.slice g1 n k1)) (.slice g1 n k1) (ds.take n) :=
            OwnD.dg (B := wr.heap.size) (owns_kept HO.out (((Kept.refl (fun k => k ≠ w.heap.size + 1) x1).setCell (p := ⟨w.heap.size + 1, 0, none⟩) (by simp) _).setCell (p := ⟨w.heap.size + 1, 1, none⟩) (by simp) _) (fun k hk e => by have := (HO.out.lt k hk).1; omega))
          go_wp2
          refine bodyPost_ret (ret_one rfl (g := w.heap.size + 1) rfl (load43 hZe rfl)) rfl ⟨_, rfl, ⟨.slice g1 n k1, ?_, ?_⟩, ⟨_, _, rfl, HO.out.new.mono hBr.size⟩, hBe⟩
          · rw [HT.out.2]; rfl
          · rw [← HT.out.1]; exact hOe
theorem trim_any (neg : Bool) (sv : Value) (ds : List Int) (w : World) (hD : DgAt w sv ds) (hd : DgL ds) (hl : ds.length ≤ 1000) :
    Calls Tryz.prog 65 #[bv neg sv] w fun r w' => ∃ v, r = .returned v ∧ BigV w' (bval neg ds) v ∧ Below w.heap.size w w' := by
  refine (trim_new neg sv ds w hD hd hl).mono ?_
  rintro r w' ⟨v, h1, h2, _, h3⟩
  exact ⟨v, h1, h2, h3⟩
end Go.Proofs.YtoncpcdepemlcaaGreatDoor
/- Shift: times ten, again and again. -/
namespace Go.Proofs.YtoncpcdepemlcaaGreatDoor
open Go.RowKit

theorem make41 (n : Nat) (hn : n ≤ 1000) (w : World) : (Instr.makeSlice 70 (.int .i64 (n : Int)) (.int .i64 (n : Int))).run Tryz.prog w = .ok (.slice (some ⟨w.heap.size, 0, none⟩) n n) (w.alloc (.cells (madeCells #[.int .i64 0] n) 3)) := by
  obtain ⟨i0, hi, hzz⟩ := Option.map_eq_some_iff.1 Tryz.info3
  simp only [Prod.mk.injEq] at hzz
  obtain ⟨hz0, hz1, hz2⟩ := hzz
  have := run_makeSlice (P := Tryz.prog) w 70 3 i0 _ Tryz.underlying70 hi hz0 .i64 .i64 (n : Int) (n : Int) (by omega) (by omega) (by rw [hz1]; simp; omega) (by rw [hz2]; omega) (by omega)
  rw [hz1] at this
  simpa [Value.cells] using this
theorem made_zeros (n : Nat) : (madeCells #[.int .i64 0] n).toList = (List.replicate n (0 : Int)).map (Value.int .i64) := by
  rw [toList_madeCells_one]
  simp
theorem shift_val (x : Int) (n : Nat) : bval (decide (x < 0)) (List.replicate n 0 ++ digs x.natAbs) = x * 10 ^ n ∧ DgL (List.replicate n 0 ++ digs x.natAbs) := by
  have h1 : dval (List.replicate n (0 : Int) ++ digs x.natAbs) = 10 ^ n * (x.natAbs : Int) := by
    rw [dval_append, dval_zeros (fun d hd => (List.mem_replicate.1 hd).2), List.length_replicate, dval_digs]
    omega
  refine ⟨?_, fun d hd => ?_⟩
  · unfold bval
    rw [h1, Int.mul_comm]
    by_cases h : x < 0
    · rw [decide_eq_true h, if_pos rfl, ← Int.neg_mul]
      congr 1; omega
    · rw [decide_eq_false h, if_neg (by simp)]
      congr 1; omega
  · rcases List.mem_append.1 hd with hd | hd
    · rw [(List.mem_replicate.1 hd).2]; omega
    · exact digs_dg _ d hd
theorem row_cell {W : World} {B i : Nat} {t : TypeId} {cs : Array Value} (h : Row W B t cs) : W.cell? ⟨B, i, none⟩ = cs[i]? := cell_of_row W B i cs t (0, 0) h
/-- A Big's cell is written: digits elsewhere stay. -/
theorem DgAt.store {W : World} {sv : Value} {ds : List Int} (h : DgAt W sv ds) {B : Nat} {p : Bool} {x : Option Addr} {y z : Nat} (hR : Row W B 72 #[.bool p, .slice x y z]) (u u' : Value) :
    DgAt ((W.setCell ⟨B, 0, none⟩ u).setCell ⟨B, 1, none⟩ u') sv ds := by
  refine ⟨?_, h.2⟩
  have hk := ((Kept.refl (fun k => k ≠ B) W).setCell (p := ⟨B, 0, none⟩) (by simp) u).setCell (p := ⟨B, 1, none⟩) (by simp) u'
  rcases h.1 with h0 | ⟨b, off, c, e, hb, hc⟩
  · exact .inl h0
  · by_cases h0 : ds = []
    · subst h0; exact .inl ⟨rfl, _, _, e⟩
    · have hl : 0 < ds.length := List.length_pos_iff.2 h0
      have hne : b ≠ B := by
        rintro rfl
        have h1 := hc 0 hl
        rw [row_cell hR] at h1
        match off, h1 with
        | 0, h1 => simp at h1
        | 1, h1 => simp at h1
        | o + 2, h1 => simp at h1
      exact .inr ⟨b, off, c, e, Nat.lt_of_lt_of_le hb hk.size, fun j hj => (hk.cell (p := ⟨b, off + j, none⟩) hne).trans (hc j hj)⟩
set_option maxRecDepth 100000 in
set_option maxHeartbeats 1000000 in
theorem shift_new (x : Int) (v : Value) (n : Nat) (w : World) (hV : BigV w x v) (hn : n ≤ 300) (hx : (digs x.natAbs).length ≤ 600) :
    Calls Tryz.prog 62 #[v, .int .i64 (n : Int)] w fun r w' => ∃ v', r = .returned v' ∧ BigV w' (x * 10 ^ n) v' ∧ NewV w.heap.size v' ∧ Below w.heap.size w w' := by
  obtain ⟨sv, rfl, hD⟩ := hV
  obtain ⟨hsv, hsd⟩ := shift_val x n
  have HT : ∀ W sv', DgAt W sv' (List.replicate n 0 ++ digs x.natAbs) → Hid (Calls Tryz.prog 65 #[.agg #[.bool (decide (x < 0)), sv']] W fun r w' => ∃ v', r = .returned v' ∧ BigV w' (x * 10 ^ n) v' ∧ NewV W.heap.size v' ∧ Below W.heap.size W w') := fun W sv' h => by
    have := trim_new (decide (x < 0)) sv' _ W h hsd (by rw [List.length_append, List.length_replicate]; omega)
    rw [hsv] at this
    exact this
  clear hsv hsd
  unfold bv
  generalize decide (x < 0) = neg at *
  generalize digs x.natAbs = ds at *
  obtain ⟨_, a, c, rfl, _, _⟩ := id hD
  have HD : Hid (DgAt w (.slice a ds.length c) ds) := hD
  clear hD
  go_enter Tryz.func62, Tryz.ntmps62
  go_wp2_with fail
  have r1 := (Row.new w 72 #[.bool neg, .slice a ds.length c]).alloc (.cells #[.bool false, .slice none 0 0] 72)
  have r2 := Row.new1 w (.cells #[.bool neg, .slice a ds.length c] 72) 72 #[.bool false, .slice none 0 0]
  have hB := ((Below.refl _ w).alloc (Nat.le_refl _) (.cells #[.bool neg, .slice a ds.length c] 72)).alloc (by simp) (.cells #[.bool false, .slice none 0 0] 72)
  generalize (w.alloc (.cells #[.bool neg, .slice a ds.length c] 72)).alloc (.cells #[.bool false, .slice none 0 0] 72) = W at *
  have hS : Below W.heap.size W W.drew := (Below.refl _ W).drew
  have hz2 := r2.lt
  refine wp_region_M (fun wx : World => Below W.heap.size W wx) (fun j => decide (j < 9)) 10 rfl (by kernel_rfl) ?_
  refine wpM_held 0 (v := ?_) rfl (by kernel_rfl) (by kernel_rfl) rfl (fun _ _ _ h => h) rfl (by intro wx hx; go_simp <;> rfl) hS ?_
  refine wpM_held 1 (v := .bool neg) rfl (by kernel_rfl) (by kernel_rfl) rfl (fun _ _ _ h => h) rfl (by intro wx hx; obtain ⟨x0, x1⟩ := (r1.below hx r1.lt).duo; go_simp <;> rfl) hS ?_
  refine wpM_held 2 (v := .int .i64 (n : Int)) rfl (by kernel_rfl) (by kernel_rfl) rfl (fun _ _ _ h => h) rfl (by intro wx hx; go_simp <;> rfl) hS ?_
  refine wpM_held 4 (v := ?_) rfl (by kernel_rfl) (by kernel_rfl) rfl (fun _ _ _ h => h) rfl (by intro wx hx; go_simp <;> rfl) hS ?_
  refine wpM_held 5 (v := .slice a ds.length c) rfl (by kernel_rfl) (by kernel_rfl) rfl (fun _ _ _ h => h) rfl (by intro wx hx; obtain ⟨x0, x1⟩ := (r1.below hx r1.lt).duo; go_simp <;> rfl) hS ?_
  refine wpM_one 3 rfl (by kernel_rfl) rfl ?_
  have mk := make41 n (by omega)
  go_wp2_with fail
  have hsz0 : (madeCells #[Value.int .i64 0] n).size = n * 1 := by rw [size_madeCells]; omega
  have hO0 : (W.alloc (.cells (madeCells #[.int .i64 0] n) 3)).drew.ownsRow W.heap.size 3 1 (.slice (some ⟨W.heap.size, 0, none⟩) n n) n ((List.replicate n (0 : Int)).map (Value.int .i64)) := by
    have := World.ownsRow_lit (base := W.heap.size) (e := 3) (size := 1) W (madeCells #[.int .i64 0] n) n (Nat.le_refl _) (by unfold maxLen; omega) hsz0
    rw [made_zeros] at this
    exact this
  have hW1 : Below W.heap.size W (W.alloc (.cells (madeCells #[.int .i64 0] n) 3)).drew := ((Below.refl _ W).alloc (Nat.le_refl _) _).drew
  clear mk hsz0
  generalize (W.alloc (.cells (madeCells #[.int .i64 0] n) 3)).drew = W1 at *
  refine ⟨fun _ => hW1, ?_⟩
  have hD1 : DgAt W1 (.slice a ds.length c) ds := (HD.out.below hB).below (hW1.mono (Nat.le_refl _))
  refine wpM_one 6 rfl (by kernel_rfl) rfl ?_
  refine wpList_append_dg _ rfl (.tmp 8) (.tmp 10) rfl W.heap.size _ _ _ rfl hO0 _ ds rfl hD1 (by omega) hW1.size ?_
  intro v1 x1 hown1 hgrow1
  have hW2 : Below W.heap.size W x1 := hW1.grown hgrow1 hW1.size (fun k e => (hO0.lt k e).1)
  have hDg : DgAt x1 v1 (List.replicate n 0 ++ ds) := by
    refine OwnD.dg (B := W.heap.size) ?_
    unfold OwnD
    rw [List.length_append, List.length_replicate, List.map_append]
    exact hown1
  obtain ⟨g1, k1, rfl⟩ := owns_form hown1
  have HTT := HT x1 _ hDg
  clear hown1 hgrow1 hO0 hD1 HT hDg
  go_wp2_with fail
  refine ⟨fun _ => hW2, ?_⟩
  refine wpM_one 7 rfl (by kernel_rfl) rfl ?_
  go_wp2_with fail
  refine ⟨fun _ => hW2, ?_⟩
  refine wpM_one 8 rfl (by kernel_rfl) rfl ?_
  go_wp2_with fail
  refine Calls.mono HTT.out ?_
  rintro _ x2 ⟨v2, rfl, hV2, hN2, hb2⟩
  obtain ⟨s2, rfl, hD2⟩ := hV2
  have hN2 := hN2.get.mono hW2.size
  have hW3 : Below W.heap.size W x2 := hW2.trans (hb2.mono hW2.size)
  obtain ⟨_, a2, c2, rfl, _, _⟩ := id hD2
  clear hb2 HTT
  unfold bv
  obtain ⟨ng, hng⟩ : ∃ ng, decide (x * 10 ^ n < 0) = ng := ⟨_, rfl⟩
  have HNG : Hid (decide (x * 10 ^ n < 0) = ng) := hng
  rw [hng]
  clear hng
  go_wp2_with fail
  refine ⟨fun _ => hW3, ?_⟩
  have p2 := r2.below hW3 r2.lt
  obtain ⟨y0, y1⟩ := p2.duo
  have zf := p2.frozen
  refine wpM_one 9 rfl (by kernel_rfl) rfl ?_
  go_wp2_with fail
  refine ⟨fun h => by simp at h, ?_⟩
  refine wpM_done (by kernel_rfl) ?_
  have hBx := hB.trans (hW3.mono (by omega))
  have hBe := below_set (below_set hBx (B := w.heap.size + 1) 0 (.bool ng) (by omega)) (B := w.heap.size + 1) 1 (.slice a2 (digs (x * 10 ^ n).natAbs).length c2) (by omega)
  have hZe := Row.set2 p2 (.bool ng) (.slice a2 (digs (x * 10 ^ n).natAbs).length c2)
  have hDe := hD2.store p2 (.bool ng) (.slice a2 (digs (x * 10 ^ n).natAbs).length c2)
  go_wp2
  exact bodyPost_ret (ret_one rfl (g := w.heap.size + 1) rfl (load43 hZe rfl)) rfl ⟨_, rfl, ⟨_, by rw [HNG.out]; rfl, hDe⟩, ⟨_, _, rfl, hN2.mono (by omega)⟩, hBe⟩
theorem shift_any (x : Int) (v : Value) (n : Nat) (w : World) (hV : BigV w x v) (hn : n ≤ 300) (hx : (digs x.natAbs).length ≤ 600) :
    Calls Tryz.prog 62 #[v, .int .i64 (n : Int)] w fun r w' => ∃ v', r = .returned v' ∧ BigV w' (x * 10 ^ n) v' ∧ Below w.heap.size w w' := by
  refine (shift_new x v n w hV hn hx).mono ?_
  rintro r w' ⟨v, h1, h2, _, h3⟩
  exact ⟨v, h1, h2, h3⟩
end Go.Proofs.YtoncpcdepemlcaaGreatDoor
/- more: which of two rows of digits is the greater number. -/
namespace Go.Proofs.YtoncpcdepemlcaaGreatDoor
open Go.RowKit

theorem dval_tail (ds : List Int) : dval ds = ds[0]?.getD 0 + 10 * dval ds.tail := by cases ds <;> simp [dval]
theorem tail_get (ds : List Int) (j : Nat) : ds.tail[j]?.getD 0 = ds[j + 1]?.getD 0 := by cases ds <;> simp
theorem dval_ext : ∀ (n : Nat) (a b : List Int), a.length ≤ n → b.length ≤ n → (∀ j : Nat, a[j]?.getD 0 = b[j]?.getD 0) → dval a = dval b
  | 0, a, b, ha, hb, _ => by rw [List.eq_nil_of_length_eq_zero (by omega : a.length = 0), List.eq_nil_of_length_eq_zero (by omega : b.length = 0)]
  | n + 1, a, b, ha, hb, h => by
    rw [dval_tail a, dval_tail b, h 0, dval_ext n a.tail b.tail (by simp; omega) (by simp; omega) (fun j => by rw [tail_get, tail_get, h])]
theorem dgl_tail {ds : List Int} (h : DgL ds) : DgL ds.tail := fun d hd => h d (List.mem_of_mem_tail hd)
theorem dval_more : ∀ (i : Nat) (a b : List Int), DgL a → DgL b → (∀ j : Nat, i < j → a[j]?.getD 0 = b[j]?.getD 0) → b[i]?.getD 0 < a[i]?.getD 0 → dval b < dval a
  | 0, a, b, ha, hb, h, hi => by
    rw [dval_tail a, dval_tail b, dval_ext (a.length + b.length) a.tail b.tail (by simp; omega) (by simp; omega) (fun j => by rw [tail_get, tail_get, h (j + 1) (by omega)])]
    omega
  | i + 1, a, b, ha, hb, h, hi => by
    have ih := dval_more i a.tail b.tail (dgl_tail ha) (dgl_tail hb) (fun j hj => by rw [tail_get, tail_get, h (j + 1) (by omega)]) (by rw [tail_get, tail_get]; exact hi)
    have h1 := ha.get 0
    have h2 := hb.get 0
    rw [dval_tail a, dval_tail b]
    omega
def cI (x y : Int) : Int := if y < x then 1 else if x < y then -1 else 0
set_option maxRecDepth 100000 in
set_option maxHeartbeats 2000000 in
theorem more_any (na nb : Bool) (sa sb : Value) (da db : List Int) (w : World) (hA : DgAt w sa da) (hB : DgAt w sb db) (ga : DgL da) (gb : DgL db) (la : da.length ≤ 1000) (lb : db.length ≤ 1000) :
    Calls Tryz.prog 63 #[bv na sa, bv nb sb] w fun r w' => r = .returned (.int .i64 (cI (dval da) (dval db))) ∧ Below w.heap.size w w' := by
  obtain ⟨_, a1, c1, rfl, _, _⟩ := id hA
  obtain ⟨_, a2, c2, rfl, _, _⟩ := id hB
  obtain ⟨ci, HCI⟩ : ∃ ci, Hid (cI (dval da) (dval db) = ci) := ⟨_, rfl⟩
  rw [HCI.out]
  have HA : Hid (DgAt w (.slice a1 da.length c1) da) := hA
  have HB : Hid (DgAt w (.slice a2 db.length c2) db) := hB
  have HGA : Hid (DgL da) := ga
  have HGB : Hid (DgL db) := gb
  have HAT : ∀ W (i : Nat), DgAt W (.slice a1 da.length c1) da → Hid (Calls Tryz.prog 98 #[.agg #[.bool na, .slice a1 da.length c1], .int .i64 (i : Int)] W fun r w' => r = .returned (.int .i64 (da[i]?.getD 0)) ∧ Below W.heap.size W w') := fun W i h => by
    have := at_any na a1 c1 da (i : Int) W h.1
    rw [if_pos (by omega), Int.toNat_natCast] at this
    exact this
  have HBT : ∀ W (i : Nat), DgAt W (.slice a2 db.length c2) db → Hid (Calls Tryz.prog 98 #[.agg #[.bool nb, .slice a2 db.length c2], .int .i64 (i : Int)] W fun r w' => r = .returned (.int .i64 (db[i]?.getD 0)) ∧ Below W.heap.size W w') := fun W i h => by
    have := at_any nb a2 c2 db (i : Int) W h.1
    rw [if_pos (by omega), Int.toNat_natCast] at this
    exact this
  unfold bv
  clear hA hB ga gb
  go_enter Tryz.func63, Tryz.ntmps63
  go_wp2_with fail
  have r1 := (Row.new w 72 #[.bool na, .slice a1 da.length c1]).alloc (.cells #[.bool nb, .slice a2 db.length c2] 72)
  have r2 := Row.new1 w (.cells #[.bool na, .slice a1 da.length c1] 72) 72 #[.bool nb, .slice a2 db.length c2]
  have hB0 := ((Below.refl _ w).alloc (Nat.le_refl _) (.cells #[.bool na, .slice a1 da.length c1] 72)).alloc (by simp) (.cells #[.bool nb, .slice a2 db.length c2] 72)
  obtain ⟨d0, d1⟩ := r1.duo
  obtain ⟨e0, e1⟩ := r2.duo
  go_wp2
  clear d0 d1 e0 e1
  go_loopw [5] (fun v wr => ∃ k : Nat, k ≤ da.length + db.length + 1 ∧ v = .int .i64 ((k : Int) - 1) ∧ Hid (∀ j : Nat, k ≤ j → da[j]?.getD 0 = db[j]?.getD 0) ∧ Row wr w.heap.size 72 #[.bool na, .slice a1 da.length c1] ∧ Row wr (w.heap.size + 1) 72 #[.bool nb, .slice a2 db.length c2] ∧ Hid (Below w.heap.size w wr)) (fun v _ => (intOf v + 1).toNat)
  case atStart => exact ⟨da.length + db.length + 1, Nat.le_refl _, by congr 1; omega, fun j hj => by rw [List.getElem?_eq_none (by omega), List.getElem?_eq_none (by omega)], r1, r2, hB0⟩
  case round =>
    obtain ⟨k, hk, rfl, HE, q1, q2, HBr⟩ := hrel
    clear r1 r2 hB0
    by_cases h0 : k = 0
    · subst h0
      have hci : ci = 0 := by
        rw [← HCI.out]
        have := dval_ext (da.length + db.length) da db (by omega) (by omega) (fun j => HE.out j (Nat.zero_le _))
        unfold cI; rw [this]; simp
      have HC0 : Hid (ci = 0) := hci
      clear hci
      go_wp2
      go_ret
      exact ⟨by rw [HC0.out]; rfl, HBr.out⟩
    · obtain ⟨i, hi⟩ : ∃ i, k = i + 1 := ⟨k - 1, by omega⟩
      have hki : (k : Int) - 1 = (i : Int) := by omega
      have HKI : Hid (k = i + 1) := hi
      obtain ⟨x, ha⟩ : ∃ x, da[i]?.getD 0 = x := ⟨_, rfl⟩
      obtain ⟨y, hb⟩ : ∃ y, db[i]?.getD 0 = y := ⟨_, rfl⟩
      have hbx := HGA.out.get i
      have hby := HGB.out.get i
      rw [ha] at hbx
      rw [hb] at hby
      have hB0 := HBr.out
      clear hi h0
      rcases Int.lt_trichotomy x y with hxy | hxy | hxy
      · have hci : Hid (ci = -1) := by
          show _ = _
          rw [← HCI.out]
          have := dval_more i db da HGB.out HGA.out (fun j hj => (HE.out j (by have := HKI.out; omega)).symm) (by rw [ha, hb]; exact hxy)
          unfold cI; rw [if_neg (by omega), if_pos this]
        have g1 : decide (y < x) = false := decide_eq_false (by omega)
        go_wp2_with fail
        have hS : Below wr.heap.size wr wr.drew := (Below.refl _ wr).drew
        refine wp_region_M (fun wx : World => Below wr.heap.size wr wx) (fun j => decide (j < 7)) 7 rfl (by kernel_rfl) ?_
        refine wpM_held 0 (v := .agg #[.bool na, .slice a1 da.length c1]) rfl (by kernel_rfl) (by kernel_rfl) rfl (fun _ _ _ h => h) rfl (by intro wx hx; obtain ⟨x0, x1⟩ := (q1.below hx q1.lt).duo; go_simp <;> rfl) hS ?_
        refine wpM_held 1 (v := .int .i64 (i : Int)) rfl (by kernel_rfl) (by kernel_rfl) rfl (fun _ _ _ h => h) rfl (by intro wx hx; go_simp <;> rfl) hS ?_
        refine wpM_held 3 (v := .agg #[.bool nb, .slice a2 db.length c2]) rfl (by kernel_rfl) (by kernel_rfl) rfl (fun _ _ _ h => h) rfl (by intro wx hx; obtain ⟨x0, x1⟩ := (q2.below hx q2.lt).duo; go_simp <;> rfl) hS ?_
        refine wpM_held 4 (v := .int .i64 (i : Int)) rfl (by kernel_rfl) (by kernel_rfl) rfl (fun _ _ _ h => h) rfl (by intro wx hx; go_simp <;> rfl) hS ?_
        refine wpM_one 2 rfl (by kernel_rfl) rfl ?_
        go_wp2_with fail
        refine Calls.mono (HAT _ i (HA.out.below (hB0.trans (hS.mono hB0.size)))).out ?_
        rintro _ wa ⟨rfl, ba⟩
        have hS1 : Below wr.heap.size wr wa := hS.trans (ba.mono hS.size)
        clear ba
        rw [ha]
        go_wp2_with fail
        refine ⟨fun _ => hS1, ?_⟩
        refine wpM_one 5 rfl (by kernel_rfl) rfl ?_
        go_wp2_with fail
        refine Calls.mono (HBT _ i (HB.out.below (hB0.trans (hS1.mono hB0.size)))).out ?_
        rintro _ wb ⟨rfl, bb⟩
        have hS2 : Below wr.heap.size wr wb := hS1.trans (bb.mono hS1.size)
        clear bb hS1 hS
        rw [hb]
        go_wp2_with fail
        refine ⟨fun _ => hS2, ?_⟩
        refine wpM_one 6 rfl (by kernel_rfl) rfl ?_
        go_wp2_with fail
        refine ⟨fun _ => hS2, ?_⟩
        refine wpM_done (by kernel_rfl) ?_
        have q1 := q1.below hS2 q1.lt
        have q2 := q2.below hS2 q2.lt
        have hB02 := hB0.trans (hS2.mono hB0.size)
        clear hS2
        clear HBr
        go_wp2_with fail
        have hS : Below wb.heap.size wb wb.drew := (Below.refl _ wb).drew
        refine wp_region_M (fun wx : World => Below wb.heap.size wb wx) (fun j => decide (j < 7)) 7 rfl (by kernel_rfl) ?_
        refine wpM_held 0 (v := .agg #[.bool na, .slice a1 da.length c1]) rfl (by kernel_rfl) (by kernel_rfl) rfl (fun _ _ _ h => h) rfl (by intro wx hx; obtain ⟨x0, x1⟩ := (q1.below hx q1.lt).duo; go_simp <;> rfl) hS ?_
        refine wpM_held 1 (v := .int .i64 (i : Int)) rfl (by kernel_rfl) (by kernel_rfl) rfl (fun _ _ _ h => h) rfl (by intro wx hx; go_simp <;> rfl) hS ?_
        refine wpM_held 3 (v := .agg #[.bool nb, .slice a2 db.length c2]) rfl (by kernel_rfl) (by kernel_rfl) rfl (fun _ _ _ h => h) rfl (by intro wx hx; obtain ⟨x0, x1⟩ := (q2.below hx q2.lt).duo; go_simp <;> rfl) hS ?_
        refine wpM_held 4 (v := .int .i64 (i : Int)) rfl (by kernel_rfl) (by kernel_rfl) rfl (fun _ _ _ h => h) rfl (by intro wx hx; go_simp <;> rfl) hS ?_
        refine wpM_one 2 rfl (by kernel_rfl) rfl ?_
        go_wp2_with fail
        refine Calls.mono (HAT _ i (HA.out.below (hB02.trans (hS.mono hB02.size)))).out ?_
        rintro _ wc ⟨rfl, ba⟩
        have hS1 : Below wb.heap.size wb wc := hS.trans (ba.mono hS.size)
        clear ba
        rw [ha]
        go_wp2_with fail
        refine ⟨fun _ => hS1, ?_⟩
        refine wpM_one 5 rfl (by kernel_rfl) rfl ?_
        go_wp2_with fail
        refine Calls.mono (HBT _ i (HB.out.below (hB02.trans (hS1.mono hB02.size)))).out ?_
        rintro _ wd ⟨rfl, bb⟩
        have hS2 : Below wb.heap.size wb wd := hS1.trans (bb.mono hS1.size)
        clear bb hS1 hS
        rw [hb]
        go_wp2_with fail
        refine ⟨fun _ => hS2, ?_⟩
        refine wpM_one 6 rfl (by kernel_rfl) rfl ?_
        go_wp2_with fail
        refine ⟨fun _ => hS2, ?_⟩
        refine wpM_done (by kernel_rfl) ?_
        have q1 := q1.below hS2 q1.lt
        have q2 := q2.below hS2 q2.lt
        have hB022 := hB02.trans (hS2.mono hB02.size)
        clear hS2
        go_wp2
        go_ret
        exact ⟨by rw [hci.out]; rfl, hB022⟩
      · have HXY : Hid (x = y) := hxy
        have g1 : decide (y < x) = false := decide_eq_false (by omega)
        have g2 : decide (x < y) = false := decide_eq_false (by omega)
        clear hxy
        go_wp2_with fail
        have hS : Below wr.heap.size wr wr.drew := (Below.refl _ wr).drew
        refine wp_region_M (fun wx : World => Below wr.heap.size wr wx) (fun j => decide (j < 7)) 7 rfl (by kernel_rfl) ?_
        refine wpM_held 0 (v := .agg #[.bool na, .slice a1 da.length c1]) rfl (by kernel_rfl) (by kernel_rfl) rfl (fun _ _ _ h => h) rfl (by intro wx hx; obtain ⟨x0, x1⟩ := (q1.below hx q1.lt).duo; go_simp <;> rfl) hS ?_
        refine wpM_held 1 (v := .int .i64 (i : Int)) rfl (by kernel_rfl) (by kernel_rfl) rfl (fun _ _ _ h => h) rfl (by intro wx hx; go_simp <;> rfl) hS ?_
        refine wpM_held 3 (v := .agg #[.bool nb, .slice a2 db.length c2]) rfl (by kernel_rfl) (by kernel_rfl) rfl (fun _ _ _ h => h) rfl (by intro wx hx; obtain ⟨x0, x1⟩ := (q2.below hx q2.lt).duo; go_simp <;> rfl) hS ?_
        refine wpM_held 4 (v := .int .i64 (i : Int)) rfl (by kernel_rfl) (by kernel_rfl) rfl (fun _ _ _ h => h) rfl (by intro wx hx; go_simp <;> rfl) hS ?_
        refine wpM_one 2 rfl (by kernel_rfl) rfl ?_
        go_wp2_with fail
        refine Calls.mono (HAT _ i (HA.out.below (hB0.trans (hS.mono hB0.size)))).out ?_
        rintro _ wa ⟨rfl, ba⟩
        have hS1 : Below wr.heap.size wr wa := hS.trans (ba.mono hS.size)
        clear ba
        rw [ha]
        go_wp2_with fail
        refine ⟨fun _ => hS1, ?_⟩
        refine wpM_one 5 rfl (by kernel_rfl) rfl ?_
        go_wp2_with fail
        refine Calls.mono (HBT _ i (HB.out.below (hB0.trans (hS1.mono hB0.size)))).out ?_
        rintro _ wb ⟨rfl, bb⟩
        have hS2 : Below wr.heap.size wr wb := hS1.trans (bb.mono hS1.size)
        clear bb hS1 hS
        rw [hb]
        go_wp2_with fail
        refine ⟨fun _ => hS2, ?_⟩
        refine wpM_one 6 rfl (by kernel_rfl) rfl ?_
        go_wp2_with fail
        refine ⟨fun _ => hS2, ?_⟩
        refine wpM_done (by kernel_rfl) ?_
        have q1 := q1.below hS2 q1.lt
        have q2 := q2.below hS2 q2.lt
        have hB02 := hB0.trans (hS2.mono hB0.size)
        clear hS2
        clear HBr
        go_wp2_with fail
        have hS : Below wb.heap.size wb wb.drew := (Below.refl _ wb).drew
        refine wp_region_M (fun wx : World => Below wb.heap.size wb wx) (fun j => decide (j < 7)) 7 rfl (by kernel_rfl) ?_
        refine wpM_held 0 (v := .agg #[.bool na, .slice a1 da.length c1]) rfl (by kernel_rfl) (by kernel_rfl) rfl (fun _ _ _ h => h) rfl (by intro wx hx; obtain ⟨x0, x1⟩ := (q1.below hx q1.lt).duo; go_simp <;> rfl) hS ?_
        refine wpM_held 1 (v := .int .i64 (i : Int)) rfl (by kernel_rfl) (by kernel_rfl) rfl (fun _ _ _ h => h) rfl (by intro wx hx; go_simp <;> rfl) hS ?_
        refine wpM_held 3 (v := .agg #[.bool nb, .slice a2 db.length c2]) rfl (by kernel_rfl) (by kernel_rfl) rfl (fun _ _ _ h => h) rfl (by intro wx hx; obtain ⟨x0, x1⟩ := (q2.below hx q2.lt).duo; go_simp <;> rfl) hS ?_
        refine wpM_held 4 (v := .int .i64 (i : Int)) rfl (by kernel_rfl) (by kernel_rfl) rfl (fun _ _ _ h => h) rfl (by intro wx hx; go_simp <;> rfl) hS ?_
        refine wpM_one 2 rfl (by kernel_rfl) rfl ?_
        go_wp2_with fail
        refine Calls.mono (HAT _ i (HA.out.below (hB02.trans (hS.mono hB02.size)))).out ?_
        rintro _ wc ⟨rfl, ba⟩
        have hS1 : Below wb.heap.size wb wc := hS.trans (ba.mono hS.size)
        clear ba
        rw [ha]
        go_wp2_with fail
        refine ⟨fun _ => hS1, ?_⟩
        refine wpM_one 5 rfl (by kernel_rfl) rfl ?_
        go_wp2_with fail
        refine Calls.mono (HBT _ i (HB.out.below (hB02.trans (hS1.mono hB02.size)))).out ?_
        rintro _ wd ⟨rfl, bb⟩
        have hS2 : Below wb.heap.size wb wd := hS1.trans (bb.mono hS1.size)
        clear bb hS1 hS
        rw [hb]
        go_wp2_with fail
        refine ⟨fun _ => hS2, ?_⟩
        refine wpM_one 6 rfl (by kernel_rfl) rfl ?_
        go_wp2_with fail
        refine ⟨fun _ => hS2, ?_⟩
        refine wpM_done (by kernel_rfl) ?_
        have q1 := q1.below hS2 q1.lt
        have q2 := q2.below hS2 q2.lt
        have hB022 := hB02.trans (hS2.mono hB02.size)
        clear hS2
        have HE2 : Hid (∀ j : Nat, i ≤ j → da[j]?.getD 0 = db[j]?.getD 0) := by
          intro j hj
          by_cases hji : j = i
          · rw [hji, ha, hb]; exact HXY.out
          · exact HE.out j (by have := HKI.out; omega)
        go_wp2
        go_roundw
        case rel => exact ⟨i, by have := HKI.out; omega, by go_num, HE2, q1, q2, hB022⟩
        case measure => have := HKI.out; simp [intOf]; omega
      · have hci : Hid (ci = 1) := by
          show _ = _
          rw [← HCI.out]
          have := dval_more i da db HGA.out HGB.out (fun j hj => HE.out j (by have := HKI.out; omega)) (by rw [ha, hb]; exact hxy)
          unfold cI; rw [if_pos this]
        go_wp2_with fail
        have hS : Below wr.heap.size wr wr.drew := (Below.refl _ wr).drew
        refine wp_region_M (fun wx : World => Below wr.heap.size wr wx) (fun j => decide (j < 7)) 7 rfl (by kernel_rfl) ?_
        refine wpM_held 0 (v := .agg #[.bool na, .slice a1 da.length c1]) rfl (by kernel_rfl) (by kernel_rfl) rfl (fun _ _ _ h => h) rfl (by intro wx hx; obtain ⟨x0, x1⟩ := (q1.below hx q1.lt).duo; go_simp <;> rfl) hS ?_
        refine wpM_held 1 (v := .int .i64 (i : Int)) rfl (by kernel_rfl) (by kernel_rfl) rfl (fun _ _ _ h => h) rfl (by intro wx hx; go_simp <;> rfl) hS ?_
        refine wpM_held 3 (v := .agg #[.bool nb, .slice a2 db.length c2]) rfl (by kernel_rfl) (by kernel_rfl) rfl (fun _ _ _ h => h) rfl (by intro wx hx; obtain ⟨x0, x1⟩ := (q2.below hx q2.lt).duo; go_simp <;> rfl) hS ?_
        refine wpM_held 4 (v := .int .i64 (i : Int)) rfl (by kernel_rfl) (by kernel_rfl) rfl (fun _ _ _ h => h) rfl (by intro wx hx; go_simp <;> rfl) hS ?_
        refine wpM_one 2 rfl (by kernel_rfl) rfl ?_
        go_wp2_with fail
        refine Calls.mono (HAT _ i (HA.out.below (hB0.trans (hS.mono hB0.size)))).out ?_
        rintro _ wa ⟨rfl, ba⟩
        have hS1 : Below wr.heap.size wr wa := hS.trans (ba.mono hS.size)
        clear ba
        rw [ha]
        go_wp2_with fail
        refine ⟨fun _ => hS1, ?_⟩
        refine wpM_one 5 rfl (by kernel_rfl) rfl ?_
        go_wp2_with fail
        refine Calls.mono (HBT _ i (HB.out.below (hB0.trans (hS1.mono hB0.size)))).out ?_
        rintro _ wb ⟨rfl, bb⟩
        have hS2 : Below wr.heap.size wr wb := hS1.trans (bb.mono hS1.size)
        clear bb hS1 hS
        rw [hb]
        go_wp2_with fail
        refine ⟨fun _ => hS2, ?_⟩
        refine wpM_one 6 rfl (by kernel_rfl) rfl ?_
        go_wp2_with fail
        refine ⟨fun _ => hS2, ?_⟩
        refine wpM_done (by kernel_rfl) ?_
        have q1 := q1.below hS2 q1.lt
        have q2 := q2.below hS2 q2.lt
        have hB02 := hB0.trans (hS2.mono hB0.size)
        clear hS2
        go_wp2
        go_ret
        exact ⟨by rw [hci.out]; rfl, hB02⟩
end Go.Proofs.YtoncpcdepemlcaaGreatDoor
/- Pure: sums and differences of rows of digits, place by place. -/
namespace Go.Proofs.YtoncpcdepemlcaaGreatDoor

theorem dval_take (l : List Int) (k : Nat) : dval (l.take (k + 1)) = dval (l.take k) + 10 ^ k * l[k]?.getD 0 := by
  by_cases h : k < l.length
  · rw [List.take_add_one, dval_append, List.length_take, Nat.min_eq_left (by omega), List.getElem?_eq_getElem h]
    simp [dval]
  · rw [List.take_of_length_le (by omega), List.take_of_length_le (by omega), List.getElem?_eq_none (by omega)]
    simp
theorem dval_lt {ds : List Int} (h : DgL ds) : dval ds < 10 ^ ds.length := by
  induction ds with
  | nil => simp [dval]
  | cons d r ih =>
    have h1 := h d (by simp)
    have h2 := ih (fun x hx => h x (by simp [hx]))
    show d + 10 * dval r < 10 ^ (r.length + 1)
    rw [Int.pow_succ]
    omega
theorem pow10_pos (k : Nat) : (0 : Int) < 10 ^ k := Int.pow_pos (by omega)
theorem dval_snoc (ds : List Int) (d : Int) : dval (ds ++ [d]) = dval ds + 10 ^ ds.length * d := by rw [dval_append]; simp [dval]
/-- One place of a sum. -/
theorem sum_place {da db ds : List Int} {k : Nat} {c d c' : Int} (hl : ds.length = k) (h : dval ds + 10 ^ k * c = dval (da.take k) + dval (db.take k)) (hn : da[k]?.getD 0 + db[k]?.getD 0 + c = 10 * c' + d) :
    dval (ds ++ [d]) + 10 ^ (k + 1) * c' = dval (da.take (k + 1)) + dval (db.take (k + 1)) := by
  rw [dval_take, dval_take, dval_snoc, hl, Int.pow_succ]
  have e : (10 : Int) ^ k * (da[k]?.getD 0 + db[k]?.getD 0 + c) = 10 ^ k * (10 * c' + d) := by rw [hn]
  rw [Int.mul_add, Int.mul_add, Int.mul_add] at e
  rw [Int.mul_assoc]
  omega
theorem less_place {da db ds : List Int} {k : Nat} {c d c' : Int} (hl : ds.length = k) (h : dval ds - 10 ^ k * c = dval (da.take k) - dval (db.take k)) (hn : da[k]?.getD 0 - db[k]?.getD 0 - c = d - 10 * c') :
    dval (ds ++ [d]) - 10 ^ (k + 1) * c' = dval (da.take (k + 1)) - dval (db.take (k + 1)) := by
  rw [dval_take, dval_take, dval_snoc, hl, Int.pow_succ]
  have e : (10 : Int) ^ k * (da[k]?.getD 0 - db[k]?.getD 0 - c) = 10 ^ k * (d - 10 * c') := by rw [hn]
  rw [Int.mul_sub, Int.mul_sub, Int.mul_sub] at e
  rw [Int.mul_assoc]
  omega
theorem sum_end {da db ds : List Int} {k : Nat} {c : Int} (ha : DgL da) (hb : DgL db) (hd : DgL ds) (hk : k = max da.length db.length + 1) (hc : 0 ≤ c) (h : dval ds + 10 ^ k * c = dval (da.take k) + dval (db.take k)) : dval ds = dval da + dval db := by
  rw [List.take_of_length_le (by omega), List.take_of_length_le (by omega)] at h
  have h1 := dval_lt ha
  have h2 := dval_lt hb
  have h3 := dval_nonneg hd
  have p1 : (10 : Int) ^ da.length ≤ 10 ^ (max da.length db.length) := by
    have := Nat.pow_le_pow_right (show 0 < 10 by decide) (Nat.le_max_left da.length db.length)
    exact_mod_cast this
  have p2 : (10 : Int) ^ db.length ≤ 10 ^ (max da.length db.length) := by
    have := Nat.pow_le_pow_right (show 0 < 10 by decide) (Nat.le_max_right da.length db.length)
    exact_mod_cast this
  rw [hk, Int.pow_succ] at h
  have hp := pow10_pos (max da.length db.length)
  generalize (10 : Int) ^ (max da.length db.length) = P at *
  by_cases h0 : c = 0
  · subst h0; simp at h; omega
  · exfalso
    have : P * 10 * 1 ≤ P * 10 * c := Int.mul_le_mul_of_nonneg_left (by omega) (by omega)
    omega
theorem less_end {da db ds : List Int} {c : Int} (ha : DgL da) (hb : DgL db) (hd : DgL ds) (hl : ds.length = da.length) (hle : dval db ≤ dval da) (hc : 0 ≤ c) (h : dval ds - 10 ^ da.length * c = dval (da.take da.length) - dval (db.take da.length)) : dval ds = dval da - dval db := by
  rw [List.take_length] at h
  have h1 := dval_lt ha
  have h4 := dval_lt hd
  rw [hl] at h4
  have e : dval db = dval (db.take da.length) + 10 ^ (db.take da.length).length * dval (db.drop da.length) := by
    rw [← dval_append, List.take_append_drop]
  have h5 := dval_nonneg (fun d hd' => hb d (List.mem_of_mem_drop hd') : DgL (db.drop da.length))
  have h6 := dval_nonneg (fun d hd' => hb d (List.mem_of_mem_take hd') : DgL (db.take da.length))
  have hp := pow10_pos da.length
  have e2 : dval db = dval (db.take da.length) := by
    by_cases hlen : db.length ≤ da.length
    · rw [List.take_of_length_le hlen]
    · rw [List.length_take, Nat.min_eq_left (by omega)] at e
      by_cases h0 : dval (db.drop da.length) = 0
      · rw [h0] at e; omega
      · exfalso
        have : (10 : Int) ^ da.length * 1 ≤ 10 ^ da.length * dval (db.drop da.length) := Int.mul_le_mul_of_nonneg_left (by omega) (by omega)
        omega
  rw [← e2] at h
  generalize (10 : Int) ^ da.length = P at *
  by_cases h0 : c = 0
  · subst h0; simp at h; omega
  · exfalso
    have : P * 1 ≤ P * c := Int.mul_le_mul_of_nonneg_left (by omega) (by omega)
    omega
end Go.Proofs.YtoncpcdepemlcaaGreatDoor
/- sum: of two rows of digits. -/
namespace Go.Proofs.YtoncpcdepemlcaaGreatDoor
open Go.RowKit

set_option maxRecDepth 100000 in
set_option maxHeartbeats 2000000 in
theorem sum_digs (na nb : Bool) (sa sb : Value) (da db : List Int) (w : World) (hA : DgAt w sa da) (hB : DgAt w sb db) (ga : DgL da) (gb : DgL db) (la : da.length ≤ 900) (lb : db.length ≤ 900) :
    Calls Tryz.prog 99 #[bv na sa, bv nb sb] w fun r w' => ∃ sv ds, r = .returned sv ∧ DgAt w' sv ds ∧ DgL ds ∧ dval ds = dval da + dval db ∧ ds.length ≤ max da.length db.length + 1 ∧ Below w.heap.size w w' := by
  obtain ⟨i0, hi, hzz⟩ := Option.map_eq_some_iff.1 Tryz.info3
  simp only [Prod.mk.injEq] at hzz
  obtain ⟨hz0, hz1, hz2⟩ := hzz
  obtain ⟨_, a1, c1, rfl, _, _⟩ := id hA
  obtain ⟨_, a2, c2, rfl, _, _⟩ := id hB
  have HA : Hid (DgAt w (.slice a1 da.length c1) da) := hA
  have HB : Hid (DgAt w (.slice a2 db.length c2) db) := hB
  have HGA : Hid (DgL da) := ga
  have HGB : Hid (DgL db) := gb
  have HAT : ∀ W (i : Nat), DgAt W (.slice a1 da.length c1) da → Hid (Calls Tryz.prog 98 #[.agg #[.bool na, .slice a1 da.length c1], .int .i64 (i : Int)] W fun r w' => r = .returned (.int .i64 (da[i]?.getD 0)) ∧ Below W.heap.size W w') := fun W i h => by
    have := at_any na a1 c1 da (i : Int) W h.1
    rw [if_pos (by omega), Int.toNat_natCast] at this
    exact this
  have HBT : ∀ W (i : Nat), DgAt W (.slice a2 db.length c2) db → Hid (Calls Tryz.prog 98 #[.agg #[.bool nb, .slice a2 db.length c2], .int .i64 (i : Int)] W fun r w' => r = .returned (.int .i64 (db[i]?.getD 0)) ∧ Below W.heap.size W w') := fun W i h => by
    have := at_any nb a2 c2 db (i : Int) W h.1
    rw [if_pos (by omega), Int.toNat_natCast] at this
    exact this
  unfold bv
  clear hA hB ga gb
  go_enter Tryz.func99, Tryz.ntmps99
  go_wp2_with fail
  have r1 := (Row.new w 72 #[.bool na, .slice a1 da.length c1]).alloc (.cells #[.bool nb, .slice a2 db.length c2] 72)
  have r2 := Row.new1 w (.cells #[.bool na, .slice a1 da.length c1] 72) 72 #[.bool nb, .slice a2 db.length c2]
  have hB0 := ((Below.refl _ w).alloc (Nat.le_refl _) (.cells #[.bool na, .slice a1 da.length c1] 72)).alloc (by simp) (.cells #[.bool nb, .slice a2 db.length c2] 72)
  obtain ⟨M, hM⟩ : ∃ M, max da.length db.length + 1 = M := ⟨_, rfl⟩
  have HM : Hid (M = max da.length db.length + 1) := hM.symm
  have hM2 : M ≤ 901 := by omega
  have hM3 : ∀ k : Nat, k < M ↔ (k ≤ da.length ∨ k ≤ db.length) := fun k => by omega
  have HM3 : Hid (∀ k : Nat, k < M ↔ (k ≤ da.length ∨ k ≤ db.length)) := hM3
  clear hM hM3
  go_wp2
  go_loopw [5, 6, 7] (fun v5 v6 v7 wr => ∃ (k : Nat) (c : Int) (ds : List Int), k ≤ M ∧ v7 = .int .i64 (k : Int) ∧ v6 = .int .i64 c ∧ OwnD w.heap.size wr v5 ds ∧ Hid (ds.length = k ∧ 0 ≤ c ∧ c ≤ 1 ∧ DgL ds ∧ dval ds + 10 ^ k * c = dval (da.take k) + dval (db.take k)) ∧ Row wr w.heap.size 72 #[.bool na, .slice a1 da.length c1] ∧ Row wr (w.heap.size + 1) 72 #[.bool nb, .slice a2 db.length c2] ∧ Below w.heap.size w wr) (fun _ _ v7 _ => M - (intOf v7).toNat)
  case atStart => exact ⟨0, 0, [], Nat.zero_le _, rfl, rfl, World.ownsRow_nil _ _ _ _, ⟨rfl, Int.le_refl _, by omega, fun d hd => by simp at hd, by simp [dval]⟩, r1, r2, hB0⟩
  case round =>
    obtain ⟨k, c, ds, hk, rfl, rfl, hO, HI, q1, q2, hB1⟩ := hrel
    clear r1 r2 hB0
    obtain ⟨d0, d1⟩ := q1.duo
    obtain ⟨e0, e1⟩ := q2.duo
    obtain ⟨gu, cu, rfl⟩ := hO.form
    have hcb := HI.out.2.1
    have hcb2 := HI.out.2.2.1
    have hdl : ds.length ≤ 901 := by rw [HI.out.1]; omega
    have hk9 : (k : Int) ≤ 901 := by omega
    by_cases hkM : k < M
    · have HK : Hid (k < M) := hkM
      have hor : (decide ((k : Int) ≤ (da.length : Int)) = true ∧ decide (k ≤ da.length) = true) ∨ ((decide ((k : Int) ≤ (da.length : Int)) = false ∧ decide (k ≤ da.length) = false) ∧ decide ((k : Int) ≤ (db.length : Int)) = true ∧ decide (k ≤ db.length) = true) := by
        have := (HM3.out k).1 hkM
        by_cases h : k ≤ da.length
        · exact .inl ⟨decide_eq_true (by omega), decide_eq_true (by omega)⟩
        · exact .inr ⟨⟨decide_eq_false (by omega), decide_eq_false (by omega)⟩, decide_eq_true (by omega), decide_eq_true (by omega)⟩
      obtain ⟨x, ha⟩ : ∃ x, da[k]?.getD 0 = x := ⟨_, rfl⟩
      obtain ⟨y, hb⟩ : ∃ y, db[k]?.getD 0 = y := ⟨_, rfl⟩
      have hbx := HGA.out.get k
      have hby := HGB.out.get k
      rw [ha] at hbx
      rw [hb] at hby
      have bx1 := hbx.1
      have bx2 := hbx.2
      have by1 := hby.1
      have by2 := hby.2
      obtain ⟨n, hn⟩ : ∃ n, x + y + c = n := ⟨_, rfl⟩
      have hn0 : 0 ≤ n := by omega
      have hn1 : n ≤ 19 := by omega
      obtain ⟨d, hd⟩ : ∃ d, n.tmod 10 = d := ⟨_, rfl⟩
      obtain ⟨c', hc'⟩ : ∃ c', n.tdiv 10 = c' := ⟨_, rfl⟩
      have hd9 : 0 ≤ d ∧ d ≤ 9 ∧ 0 ≤ c' ∧ c' ≤ 1 ∧ n = 10 * c' + d := by
        rw [← hd, ← hc', Int.tmod_eq_emod_of_nonneg hn0, Int.tdiv_eq_ediv_of_nonneg hn0]; omega
      have HI2 : Hid ((ds ++ [d]).length = k + 1 ∧ 0 ≤ c' ∧ c' ≤ 1 ∧ DgL (ds ++ [d]) ∧ dval (ds ++ [d]) + 10 ^ (k + 1) * c' = dval (da.take (k + 1)) + dval (db.take (k + 1))) := by
        obtain ⟨i1, i2, i3, i4, i5⟩ := HI.out
        refine ⟨by simp [i1], hd9.2.2.1, hd9.2.2.2.1, fun z hz => ?_, sum_place i1 i5 (by rw [ha, hb, hn]; exact hd9.2.2.2.2)⟩
        rcases List.mem_append.1 hz with hz | hz
        · exact i4 z hz
        · rw [List.mem_singleton.1 hz]; exact ⟨hd9.1, hd9.2.1⟩
      have bc1 := hd9.2.2.1
      have bc2 := hd9.2.2.2.1
      have bd1 := hd9.1
      have bd2 := hd9.2.1
      clear hd9 HI hbx hby hcb hcb2
      rcases hor with ⟨g1, g1n⟩ | ⟨⟨g1, g1n⟩, g2, g2n⟩
      · go_wp2_with fail
        have hS : Below wr.heap.size wr wr.drew := (Below.refl _ wr).drew
        refine wp_region_M (fun wx : World => Below wr.heap.size wr wx) (fun j => decide (j < 10)) 10 rfl (by kernel_rfl) ?_
        refine wpM_held 0 (v := .agg #[.bool na, .slice a1 da.length c1]) rfl (by kernel_rfl) (by kernel_rfl) rfl (fun _ _ _ h => h) rfl (by intro wx hx; obtain ⟨x0, x1⟩ := (q1.below hx q1.lt).duo; go_simp <;> rfl) hS ?_
        refine wpM_held 1 (v := .int .i64 (k : Int)) rfl (by kernel_rfl) (by kernel_rfl) rfl (fun _ _ _ h => h) rfl (by intro wx hx; go_simp <;> rfl) hS ?_
        refine wpM_held 3 (v := .agg #[.bool nb, .slice a2 db.length c2]) rfl (by kernel_rfl) (by kernel_rfl) rfl (fun _ _ _ h => h) rfl (by intro wx hx; obtain ⟨x0, x1⟩ := (q2.below hx q2.lt).duo; go_simp <;> rfl) hS ?_
        refine wpM_held 4 (v := .int .i64 (k : Int)) rfl (by kernel_rfl) (by kernel_rfl) rfl (fun _ _ _ h => h) rfl (by intro wx hx; go_simp <;> rfl) hS ?_
        refine wpM_held 7 (v := .int .i64 c) rfl (by kernel_rfl) (by kernel_rfl) rfl (fun _ _ _ h => h) rfl (by intro wx hx; go_simp <;> rfl) hS ?_
        refine wpM_one 2 rfl (by kernel_rfl) rfl ?_
        go_wp2_with fail
        refine Calls.mono (HAT _ k (HA.out.below (hB1.trans (hS.mono hB1.size)))).out ?_
        rintro _ wa ⟨rfl, ba⟩
        have hS1 : Below wr.heap.size wr wa := hS.trans (ba.mono hS.size)
        clear ba
        rw [ha]
        go_wp2_with fail
        refine ⟨fun _ => hS1, ?_⟩
        refine wpM_one 5 rfl (by kernel_rfl) rfl ?_
        go_wp2_with fail
        refine Calls.mono (HBT _ k (HB.out.below (hB1.trans (hS1.mono hB1.size)))).out ?_
        rintro _ wb ⟨rfl, bb⟩
        have hS2 : Below wr.heap.size wr wb := hS1.trans (bb.mono hS1.size)
        clear bb hS1 hS
        rw [hb]
        go_wp2_with fail
        refine ⟨fun _ => hS2, ?_⟩
        refine wpM_one 6 rfl (by kernel_rfl) rfl ?_
        go_wp2_with fail
        refine ⟨fun _ => hS2, ?_⟩
        refine wpM_one 8 rfl (by kernel_rfl) rfl ?_
        go_wp2_with fail
        refine ⟨fun _ => hS2, ?_⟩
        refine wpM_one 9 rfl (by kernel_rfl) rfl ?_
        go_wp2_with fail
        refine ⟨fun _ => hS2, ?_⟩
        refine wpM_done (by kernel_rfl) ?_
        have q1 := q1.below hS2 q1.lt
        have q2 := q2.below hS2 q2.lt
        have hB2 := hB1.trans (hS2.mono hB1.size)
        have hO2 := hO.below hS2
        clear hS2 hO hB1
        have hbs := hB2.size
        have HNW : Hid _ := new_one wb d
        have hO3 : (wb.alloc (.cells #[.int .i64 d] 3)).ownsRow w.heap.size 3 1 (.slice gu ds.length cu) ds.length (ds.map (Value.int .i64)) := World.ownsRow.alloc hO2 _
        have p1 := q1.alloc (.cells #[.int .i64 d] 3)
        have p2 := q2.alloc (.cells #[.int .i64 d] 3)
        have hB3 := hB2.alloc hbs (.cells #[.int .i64 d] 3)
        clear hO2 hB2 q1 q2
        go_wp2_with (at_builtin; refine wpList_append_own2 _ rfl (.tmp 32) (.tmp 35) 70 rfl w.heap.size 3 i0 (.int .i64 0) 1 8 Tryz.underlying70 hi hz0 hz1 hz2 rfl (by decide) _ _ _ rfl hO3 ⟨wb.heap.size, 0, none⟩ 1 1 [.int .i64 d] rfl rfl HNW.out (by simp [Value.oneCell']) (by unfold maxLen; omega) (by omega) (by simp; omega) ?_)
        intro v1 x1 hown1 hgrow1 hblk1
        have t1 := row_grownO p1 hO3 hgrow1 (by decide)
        have t2 := row_grownO p2 hO3 hgrow1 (by decide)
        have hB4 := below_grownO hB3 (by simp; omega) hO3 hgrow1
        have hO4 := OwnD.snoc hown1
        clear hown1 hgrow1 hblk1 p1 p2 hB3 hO3 HNW
        go_wp2
        go_roundw
        case rel => exact ⟨k + 1, c', ds ++ [d], HK.out, by go_num, rfl, hO4, HI2, t1, t2, hB4⟩
        case measure => have := HK.out; simp [intOf]; omega
      · go_wp2_with fail
        have hS : Below wr.heap.size wr wr.drew := (Below.refl _ wr).drew
        refine wp_region_M (fun wx : World => Below wr.heap.size wr wx) (fun j => decide (j < 10)) 10 rfl (by kernel_rfl) ?_
        refine wpM_held 0 (v := .agg #[.bool na, .slice a1 da.length c1]) rfl (by kernel_rfl) (by kernel_rfl) rfl (fun _ _ _ h => h) rfl (by intro wx hx; obtain ⟨x0, x1⟩ := (q1.below hx q1.lt).duo; go_simp <;> rfl) hS ?_
        refine wpM_held 1 (v := .int .i64 (k : Int)) rfl (by kernel_rfl) (by kernel_rfl) rfl (fun _ _ _ h => h) rfl (by intro wx hx; go_simp <;> rfl) hS ?_
        refine wpM_held 3 (v := .agg #[.bool nb, .slice a2 db.length c2]) rfl (by kernel_rfl) (by kernel_rfl) rfl (fun _ _ _ h => h) rfl (by intro wx hx; obtain ⟨x0, x1⟩ := (q2.below hx q2.lt).duo; go_simp <;> rfl) hS ?_
        refine wpM_held 4 (v := .int .i64 (k : Int)) rfl (by kernel_rfl) (by kernel_rfl) rfl (fun _ _ _ h => h) rfl (by intro wx hx; go_simp <;> rfl) hS ?_
        refine wpM_held 7 (v := .int .i64 c) rfl (by kernel_rfl) (by kernel_rfl) rfl (fun _ _ _ h => h) rfl (by intro wx hx; go_simp <;> rfl) hS ?_
        refine wpM_one 2 rfl (by kernel_rfl) rfl ?_
        go_wp2_with fail
        refine Calls.mono (HAT _ k (HA.out.below (hB1.trans (hS.mono hB1.size)))).out ?_
        rintro _ wa ⟨rfl, ba⟩
        have hS1 : Below wr.heap.size wr wa := hS.trans (ba.mono hS.size)
        clear ba
        rw [ha]
        go_wp2_with fail
        refine ⟨fun _ => hS1, ?_⟩
        refine wpM_one 5 rfl (by kernel_rfl) rfl ?_
        go_wp2_with fail
        refine Calls.mono (HBT _ k (HB.out.below (hB1.trans (hS1.mono hB1.size)))).out ?_
        rintro _ wb ⟨rfl, bb⟩
        have hS2 : Below wr.heap.size wr wb := hS1.trans (bb.mono hS1.size)
        clear bb hS1 hS
        rw [hb]
        go_wp2_with fail
        refine ⟨fun _ => hS2, ?_⟩
        refine wpM_one 6 rfl (by kernel_rfl) rfl ?_
        go_wp2_with fail
        refine ⟨fun _ => hS2, ?_⟩
        refine wpM_one 8 rfl (by kernel_rfl) rfl ?_
        go_wp2_with fail
        refine ⟨fun _ => hS2, ?_⟩
        refine wpM_one 9 rfl (by kernel_rfl) rfl ?_
        go_wp2_with fail
        refine ⟨fun _ => hS2, ?_⟩
        refine wpM_done (by kernel_rfl) ?_
        have q1 := q1.below hS2 q1.lt
        have q2 := q2.below hS2 q2.lt
        have hB2 := hB1.trans (hS2.mono hB1.size)
        have hO2 := hO.below hS2
        clear hS2 hO hB1
        have hbs := hB2.size
        have HNW : Hid _ := new_one wb d
        have hO3 : (wb.alloc (.cells #[.int .i64 d] 3)).ownsRow w.heap.size 3 1 (.slice gu ds.length cu) ds.length (ds.map (Value.int .i64)) := World.ownsRow.alloc hO2 _
        have p1 := q1.alloc (.cells #[.int .i64 d] 3)
        have p2 := q2.alloc (.cells #[.int .i64 d] 3)
        have hB3 := hB2.alloc hbs (.cells #[.int .i64 d] 3)
        clear hO2 hB2 q1 q2
        go_wp2_with (at_builtin; refine wpList_append_own2 _ rfl (.tmp 32) (.tmp 35) 70 rfl w.heap.size 3 i0 (.int .i64 0) 1 8 Tryz.underlying70 hi hz0 hz1 hz2 rfl (by decide) _ _ _ rfl hO3 ⟨wb.heap.size, 0, none⟩ 1 1 [.int .i64 d] rfl rfl HNW.out (by simp [Value.oneCell']) (by unfold maxLen; omega) (by omega) (by simp; omega) ?_)
        intro v1 x1 hown1 hgrow1 hblk1
        have t1 := row_grownO p1 hO3 hgrow1 (by decide)
        have t2 := row_grownO p2 hO3 hgrow1 (by decide)
        have hB4 := below_grownO hB3 (by simp; omega) hO3 hgrow1
        have hO4 := OwnD.snoc hown1
        clear hown1 hgrow1 hblk1 p1 p2 hB3 hO3 HNW
        go_wp2
        go_roundw
        case rel => exact ⟨k + 1, c', ds ++ [d], HK.out, by go_num, rfl, hO4, HI2, t1, t2, hB4⟩
        case measure => have := HK.out; simp [intOf]; omega
    · have hke : k = M := by omega
      have g1 : decide ((k : Int) ≤ (da.length : Int)) = false := decide_eq_false (by have := (HM3.out k).2; omega)
      have g2 : decide ((k : Int) ≤ (db.length : Int)) = false := decide_eq_false (by have := (HM3.out k).2; omega)
      have g3 : decide (k ≤ da.length) = false := decide_eq_false (by have := (HM3.out k).2; omega)
      have g4 : decide (k ≤ db.length) = false := decide_eq_false (by have := (HM3.out k).2; omega)
      obtain ⟨i1, i2, i3, i4, i5⟩ := HI.out
      have hres := sum_end HGA.out HGB.out i4 (hke.trans HM.out) i2 i5
      have HR : Hid (DgAt wr (.slice gu ds.length cu) ds ∧ DgL ds ∧ dval ds = dval da + dval db ∧ ds.length ≤ max da.length db.length + 1) := ⟨hO.dg, i4, hres, by rw [i1, hke, HM.out]; exact Nat.le_refl _⟩
      clear i1 i2 i3 i4 i5 hres hke hkM HI HM HM3
      go_wp2
      go_ret
      exact ⟨_, ds, rfl, HR.out.1, HR.out.2.1, HR.out.2.2.1, HR.out.2.2.2, hB1⟩
end Go.Proofs.YtoncpcdepemlcaaGreatDoor
/- less: one row of digits less another. -/
namespace Go.Proofs.YtoncpcdepemlcaaGreatDoor
open Go.RowKit

set_option maxRecDepth 100000 in
set_option maxHeartbeats 2000000 in
theorem less_digs (na nb : Bool) (sa sb : Value) (da db : List Int) (w : World) (hA : DgAt w sa da) (hB : DgAt w sb db) (ga : DgL da) (gb : DgL db) (la : da.length ≤ 900) (_lb : db.length ≤ 900) (hle : dval db ≤ dval da) :
    Calls Tryz.prog 97 #[bv na sa, bv nb sb] w fun r w' => ∃ sv ds, r = .returned sv ∧ DgAt w' sv ds ∧ DgL ds ∧ dval ds = dval da - dval db ∧ ds.length ≤ max da.length db.length + 1 ∧ Below w.heap.size w w' := by
  obtain ⟨i0, hi, hzz⟩ := Option.map_eq_some_iff.1 Tryz.info3
  simp only [Prod.mk.injEq] at hzz
  obtain ⟨hz0, hz1, hz2⟩ := hzz
  obtain ⟨_, a1, c1, rfl, _, _⟩ := id hA
  obtain ⟨_, a2, c2, rfl, _, _⟩ := id hB
  have HA : Hid (DgAt w (.slice a1 da.length c1) da) := hA
  have HB : Hid (DgAt w (.slice a2 db.length c2) db) := hB
  have HGA : Hid (DgL da) := ga
  have HGB : Hid (DgL db) := gb
  have HAT : ∀ W (i : Nat), DgAt W (.slice a1 da.length c1) da → Hid (Calls Tryz.prog 98 #[.agg #[.bool na, .slice a1 da.length c1], .int .i64 (i : Int)] W fun r w' => r = .returned (.int .i64 (da[i]?.getD 0)) ∧ Below W.heap.size W w') := fun W i h => by
    have := at_any na a1 c1 da (i : Int) W h.1
    rw [if_pos (by omega), Int.toNat_natCast] at this
    exact this
  have HBT : ∀ W (i : Nat), DgAt W (.slice a2 db.length c2) db → Hid (Calls Tryz.prog 98 #[.agg #[.bool nb, .slice a2 db.length c2], .int .i64 (i : Int)] W fun r w' => r = .returned (.int .i64 (db[i]?.getD 0)) ∧ Below W.heap.size W w') := fun W i h => by
    have := at_any nb a2 c2 db (i : Int) W h.1
    rw [if_pos (by omega), Int.toNat_natCast] at this
    exact this
  unfold bv
  clear hA hB ga gb
  go_enter Tryz.func97, Tryz.ntmps97
  go_wp2_with fail
  have r1 := (Row.new w 72 #[.bool na, .slice a1 da.length c1]).alloc (.cells #[.bool nb, .slice a2 db.length c2] 72)
  have r2 := Row.new1 w (.cells #[.bool na, .slice a1 da.length c1] 72) 72 #[.bool nb, .slice a2 db.length c2]
  have hB0 := ((Below.refl _ w).alloc (Nat.le_refl _) (.cells #[.bool na, .slice a1 da.length c1] 72)).alloc (by simp) (.cells #[.bool nb, .slice a2 db.length c2] 72)
  have HLE : Hid (dval db ≤ dval da) := hle
  clear hle
  go_wp2
  go_loopw [5, 6, 7] (fun v5 v6 v7 wr => ∃ (k : Nat) (c : Int) (ds : List Int), k ≤ da.length ∧ v7 = .int .i64 (k : Int) ∧ v6 = .int .i64 c ∧ OwnD w.heap.size wr v5 ds ∧ Hid (ds.length = k ∧ 0 ≤ c ∧ c ≤ 1 ∧ DgL ds ∧ dval ds - 10 ^ k * c = dval (da.take k) - dval (db.take k)) ∧ Row wr w.heap.size 72 #[.bool na, .slice a1 da.length c1] ∧ Row wr (w.heap.size + 1) 72 #[.bool nb, .slice a2 db.length c2] ∧ Below w.heap.size w wr) (fun _ _ v7 _ => da.length - (intOf v7).toNat)
  case atStart => exact ⟨0, 0, [], Nat.zero_le _, rfl, rfl, World.ownsRow_nil _ _ _ _, ⟨rfl, Int.le_refl _, by omega, fun d hd => by simp at hd, by simp [dval]⟩, r1, r2, hB0⟩
  case round =>
    obtain ⟨k, c, ds, hk, rfl, rfl, hO, HI, q1, q2, hB1⟩ := hrel
    clear r1 r2 hB0
    obtain ⟨d0, d1⟩ := q1.duo
    obtain ⟨e0, e1⟩ := q2.duo
    obtain ⟨gu, cu, rfl⟩ := hO.form
    have hcb := HI.out.2.1
    have hcb2 := HI.out.2.2.1
    have hdl : ds.length ≤ 901 := by rw [HI.out.1]; omega
    have hk9 : (k : Int) ≤ 901 := by omega
    by_cases hkM : k < da.length
    · have HK : Hid (k < da.length) := hkM
      have g0 : (k : Int) < (da.length : Int) := by omega
      obtain ⟨x, ha⟩ : ∃ x, da[k]?.getD 0 = x := ⟨_, rfl⟩
      obtain ⟨y, hb⟩ : ∃ y, db[k]?.getD 0 = y := ⟨_, rfl⟩
      have hbx := HGA.out.get k
      have hby := HGB.out.get k
      rw [ha] at hbx
      rw [hb] at hby
      have bx1 := hbx.1
      have bx2 := hbx.2
      have by1 := hby.1
      have by2 := hby.2
      obtain ⟨n, hn⟩ : ∃ n, x - y - c = n := ⟨_, rfl⟩
      have hn0 : -10 ≤ n := by omega
      have hn1 : n ≤ 9 := by omega
      have key : ∀ d c' : Int, 0 ≤ d → d ≤ 9 → 0 ≤ c' → c' ≤ 1 → n = d - 10 * c' → Hid ((ds ++ [d]).length = k + 1 ∧ 0 ≤ c' ∧ c' ≤ 1 ∧ DgL (ds ++ [d]) ∧ dval (ds ++ [d]) - 10 ^ (k + 1) * c' = dval (da.take (k + 1)) - dval (db.take (k + 1))) := by
        intro d c' h1 h2 h3 h4 h5
        obtain ⟨i1, i2, i3, i4, i5⟩ := HI.out
        refine ⟨by simp [i1], h3, h4, fun z hz => ?_, less_place i1 i5 (by rw [ha, hb, hn]; exact h5)⟩
        rcases List.mem_append.1 hz with hz | hz
        · exact i4 z hz
        · rw [List.mem_singleton.1 hz]; exact ⟨h1, h2⟩
      by_cases hneg : n < 0
      · have HI2 := key (n + 10) 1 (by omega) (by omega) (by omega) (by omega) (by omega)
        clear key HI hbx hby hcb hcb2
        go_wp2_with fail
        have hS : Below wr.heap.size wr wr.drew := (Below.refl _ wr).drew
        refine wp_region_M (fun wx : World => Below wr.heap.size wr wx) (fun j => decide (j < 10)) 10 rfl (by kernel_rfl) ?_
        refine wpM_held 0 (v := .agg #[.bool na, .slice a1 da.length c1]) rfl (by kernel_rfl) (by kernel_rfl) rfl (fun _ _ _ h => h) rfl (by intro wx hx; obtain ⟨x0, x1⟩ := (q1.below hx q1.lt).duo; go_simp <;> rfl) hS ?_
        refine wpM_held 1 (v := .int .i64 (k : Int)) rfl (by kernel_rfl) (by kernel_rfl) rfl (fun _ _ _ h => h) rfl (by intro wx hx; go_simp <;> rfl) hS ?_
        refine wpM_held 3 (v := .agg #[.bool nb, .slice a2 db.length c2]) rfl (by kernel_rfl) (by kernel_rfl) rfl (fun _ _ _ h => h) rfl (by intro wx hx; obtain ⟨x0, x1⟩ := (q2.below hx q2.lt).duo; go_simp <;> rfl) hS ?_
        refine wpM_held 4 (v := .int .i64 (k : Int)) rfl (by kernel_rfl) (by kernel_rfl) rfl (fun _ _ _ h => h) rfl (by intro wx hx; go_simp <;> rfl) hS ?_
        refine wpM_held 7 (v := .int .i64 c) rfl (by kernel_rfl) (by kernel_rfl) rfl (fun _ _ _ h => h) rfl (by intro wx hx; go_simp <;> rfl) hS ?_
        refine wpM_one 2 rfl (by kernel_rfl) rfl ?_
        go_wp2_with fail
        refine Calls.mono (HAT _ k (HA.out.below (hB1.trans (hS.mono hB1.size)))).out ?_
        rintro _ wa ⟨rfl, ba⟩
        have hS1 : Below wr.heap.size wr wa := hS.trans (ba.mono hS.size)
        clear ba
        rw [ha]
        go_wp2_with fail
        refine ⟨fun _ => hS1, ?_⟩
        refine wpM_one 5 rfl (by kernel_rfl) rfl ?_
        go_wp2_with fail
        refine Calls.mono (HBT _ k (HB.out.below (hB1.trans (hS1.mono hB1.size)))).out ?_
        rintro _ wb ⟨rfl, bb⟩
        have hS2 : Below wr.heap.size wr wb := hS1.trans (bb.mono hS1.size)
        clear bb hS1 hS
        rw [hb]
        go_wp2_with fail
        refine ⟨fun _ => hS2, ?_⟩
        refine wpM_one 6 rfl (by kernel_rfl) rfl ?_
        go_wp2_with fail
        refine ⟨fun _ => hS2, ?_⟩
        refine wpM_one 8 rfl (by kernel_rfl) rfl ?_
        go_wp2_with fail
        refine ⟨fun _ => hS2, ?_⟩
        refine wpM_one 9 rfl (by kernel_rfl) rfl ?_
        go_wp2_with fail
        refine ⟨fun _ => hS2, ?_⟩
        refine wpM_done (by kernel_rfl) ?_
        have q1 := q1.below hS2 q1.lt
        have q2 := q2.below hS2 q2.lt
        have hB2 := hB1.trans (hS2.mono hB1.size)
        have hO2 := hO.below hS2
        clear hS2 hO hB1
        have hbs := hB2.size
        have HNW : Hid _ := new_one wb (n + 10)
        have hO3 : (wb.alloc (.cells #[.int .i64 (n + 10)] 3)).ownsRow w.heap.size 3 1 (.slice gu ds.length cu) ds.length (ds.map (Value.int .i64)) := World.ownsRow.alloc hO2 _
        have p1 := q1.alloc (.cells #[.int .i64 (n + 10)] 3)
        have p2 := q2.alloc (.cells #[.int .i64 (n + 10)] 3)
        have hB3 := hB2.alloc hbs (.cells #[.int .i64 (n + 10)] 3)
        clear hO2 hB2 q1 q2
        go_wp2_with (at_builtin; refine wpList_append_own2 _ rfl (.tmp 29) (.tmp 31) 70 rfl w.heap.size 3 i0 (.int .i64 0) 1 8 Tryz.underlying70 hi hz0 hz1 hz2 rfl (by decide) _ _ _ rfl hO3 ⟨wb.heap.size, 0, none⟩ 1 1 [.int .i64 (n + 10)] rfl rfl HNW.out (by simp [Value.oneCell']) (by unfold maxLen; omega) (by omega) (by simp; omega) ?_)
        intro v1 x1 hown1 hgrow1 hblk1
        have t1 := row_grownO p1 hO3 hgrow1 (by decide)
        have t2 := row_grownO p2 hO3 hgrow1 (by decide)
        have hB4 := below_grownO hB3 (by simp; omega) hO3 hgrow1
        have hO4 := OwnD.snoc hown1
        clear hown1 hgrow1 hblk1 p1 p2 hB3 hO3 HNW
        go_wp2
        go_roundw
        case rel => exact ⟨k + 1, 1, ds ++ [n + 10], HK.out, by go_num, rfl, hO4, HI2, t1, t2, hB4⟩
        case measure => have := HK.out; simp [intOf]; omega
      · have HI2 := key n 0 (by omega) (by omega) (by omega) (by omega) (by omega)
        clear key HI hbx hby hcb hcb2
        go_wp2_with fail
        have hS : Below wr.heap.size wr wr.drew := (Below.refl _ wr).drew
        refine wp_region_M (fun wx : World => Below wr.heap.size wr wx) (fun j => decide (j < 10)) 10 rfl (by kernel_rfl) ?_
        refine wpM_held 0 (v := .agg #[.bool na, .slice a1 da.length c1]) rfl (by kernel_rfl) (by kernel_rfl) rfl (fun _ _ _ h => h) rfl (by intro wx hx; obtain ⟨x0, x1⟩ := (q1.below hx q1.lt).duo; go_simp <;> rfl) hS ?_
        refine wpM_held 1 (v := .int .i64 (k : Int)) rfl (by kernel_rfl) (by kernel_rfl) rfl (fun _ _ _ h => h) rfl (by intro wx hx; go_simp <;> rfl) hS ?_
        refine wpM_held 3 (v := .agg #[.bool nb, .slice a2 db.length c2]) rfl (by kernel_rfl) (by kernel_rfl) rfl (fun _ _ _ h => h) rfl (by intro wx hx; obtain ⟨x0, x1⟩ := (q2.below hx q2.lt).duo; go_simp <;> rfl) hS ?_
        refine wpM_held 4 (v := .int .i64 (k : Int)) rfl (by kernel_rfl) (by kernel_rfl) rfl (fun _ _ _ h => h) rfl (by intro wx hx; go_simp <;> rfl) hS ?_
        refine wpM_held 7 (v := .int .i64 c) rfl (by kernel_rfl) (by kernel_rfl) rfl (fun _ _ _ h => h) rfl (by intro wx hx; go_simp <;> rfl) hS ?_
        refine wpM_one 2 rfl (by kernel_rfl) rfl ?_
        go_wp2_with fail
        refine Calls.mono (HAT _ k (HA.out.below (hB1.trans (hS.mono hB1.size)))).out ?_
        rintro _ wa ⟨rfl, ba⟩
        have hS1 : Below wr.heap.size wr wa := hS.trans (ba.mono hS.size)
        clear ba
        rw [ha]
        go_wp2_with fail
        refine ⟨fun _ => hS1, ?_⟩
        refine wpM_one 5 rfl (by kernel_rfl) rfl ?_
        go_wp2_with fail
        refine Calls.mono (HBT _ k (HB.out.below (hB1.trans (hS1.mono hB1.size)))).out ?_
        rintro _ wb ⟨rfl, bb⟩
        have hS2 : Below wr.heap.size wr wb := hS1.trans (bb.mono hS1.size)
        clear bb hS1 hS
        rw [hb]
        go_wp2_with fail
        refine ⟨fun _ => hS2, ?_⟩
        refine wpM_one 6 rfl (by kernel_rfl) rfl ?_
        go_wp2_with fail
        refine ⟨fun _ => hS2, ?_⟩
        refine wpM_one 8 rfl (by kernel_rfl) rfl ?_
        go_wp2_with fail
        refine ⟨fun _ => hS2, ?_⟩
        refine wpM_one 9 rfl (by kernel_rfl) rfl ?_
        go_wp2_with fail
        refine ⟨fun _ => hS2, ?_⟩
        refine wpM_done (by kernel_rfl) ?_
        have q1 := q1.below hS2 q1.lt
        have q2 := q2.below hS2 q2.lt
        have hB2 := hB1.trans (hS2.mono hB1.size)
        have hO2 := hO.below hS2
        clear hS2 hO hB1
        have hbs := hB2.size
        have HNW : Hid _ := new_one wb n
        have hO3 : (wb.alloc (.cells #[.int .i64 n] 3)).ownsRow w.heap.size 3 1 (.slice gu ds.length cu) ds.length (ds.map (Value.int .i64)) := World.ownsRow.alloc hO2 _
        have p1 := q1.alloc (.cells #[.int .i64 n] 3)
        have p2 := q2.alloc (.cells #[.int .i64 n] 3)
        have hB3 := hB2.alloc hbs (.cells #[.int .i64 n] 3)
        clear hO2 hB2 q1 q2
        go_wp2_with (at_builtin; refine wpList_append_own2 _ rfl (.tmp 29) (.tmp 31) 70 rfl w.heap.size 3 i0 (.int .i64 0) 1 8 Tryz.underlying70 hi hz0 hz1 hz2 rfl (by decide) _ _ _ rfl hO3 ⟨wb.heap.size, 0, none⟩ 1 1 [.int .i64 n] rfl rfl HNW.out (by simp [Value.oneCell']) (by unfold maxLen; omega) (by omega) (by simp; omega) ?_)
        intro v1 x1 hown1 hgrow1 hblk1
        have t1 := row_grownO p1 hO3 hgrow1 (by decide)
        have t2 := row_grownO p2 hO3 hgrow1 (by decide)
        have hB4 := below_grownO hB3 (by simp; omega) hO3 hgrow1
        have hO4 := OwnD.snoc hown1
        clear hown1 hgrow1 hblk1 p1 p2 hB3 hO3 HNW
        go_wp2
        go_roundw
        case rel => exact ⟨k + 1, 0, ds ++ [n], HK.out, by go_num, rfl, hO4, HI2, t1, t2, hB4⟩
        case measure => have := HK.out; simp [intOf]; omega
    · have hke : k = da.length := by omega
      have g1 : decide ((k : Int) < (da.length : Int)) = false := decide_eq_false (by omega)
      have g3 : decide (k < da.length) = false := decide_eq_false (by omega)
      obtain ⟨i1, i2, i3, i4, i5⟩ := HI.out
      rw [hke] at i1 i5
      have hres := less_end HGA.out HGB.out i4 i1 HLE.out i2 i5
      have HR : Hid (DgAt wr (.slice gu ds.length cu) ds ∧ DgL ds ∧ dval ds = dval da - dval db ∧ ds.length ≤ max da.length db.length + 1) := ⟨hO.dg, i4, hres, by rw [i1]; omega⟩
      clear i1 i2 i3 i4 i5 hres hke hkM HI
      go_wp2
      go_ret
      exact ⟨_, ds, rfl, HR.out.1, HR.out.2.1, HR.out.2.2.1, HR.out.2.2.2, hB1⟩
end Go.Proofs.YtoncpcdepemlcaaGreatDoor
/- Minus, Plus: the document's whole numbers. -/
namespace Go.Proofs.YtoncpcdepemlcaaGreatDoor
open Go.RowKit

theorem bval_minus (x : Int) : bval (!decide (x < 0)) (digs x.natAbs) = -x := by
  unfold bval
  rw [dval_digs]
  by_cases h : x < 0
  · rw [decide_eq_true h]; simp; omega
  · rw [decide_eq_false h]; simp; omega
set_option maxRecDepth 100000 in
set_option maxHeartbeats 1000000 in
theorem minus_any (x : Int) (v : Value) (w : World) (hV : BigV w x v) (hx : (digs x.natAbs).length ≤ 800) :
    Calls Tryz.prog 69 #[v] w fun r w' => ∃ v', r = .returned v' ∧ BigV w' (-x) v' ∧ Below w.heap.size w w' := by
  obtain ⟨sv, rfl, hD⟩ := hV
  have HT : ∀ W, Below w.heap.size w W → Hid (Calls Tryz.prog 65 #[.agg #[.bool (!decide (x < 0)), sv]] W fun r w' => ∃ v', r = .returned v' ∧ BigV w' (-x) v' ∧ Below W.heap.size W w') := fun W h => by
    have := trim_any (!decide (x < 0)) sv _ W (hD.below h) (digs_dg _) (by omega)
    rw [bval_minus] at this
    exact this
  unfold bv
  obtain ⟨ng, HNG⟩ : ∃ ng, Hid (decide (-x < 0) = ng) := ⟨_, rfl⟩
  generalize decide (x < 0) = neg at *
  obtain ⟨_, a, c, rfl, _, _⟩ := id hD
  clear hD
  generalize (digs x.natAbs).length = ln at *
  go_enter Tryz.func69, Tryz.ntmps69
  go_wp2_with fail
  have r1 := (Row.new w 72 #[.bool neg, .slice a ln c]).alloc (.cells #[.bool false, .slice none 0 0] 72)
  have r2 := Row.new1 w (.cells #[.bool neg, .slice a ln c] 72) 72 #[.bool false, .slice none 0 0]
  have hB := ((Below.refl _ w).alloc (Nat.le_refl _) (.cells #[.bool neg, .slice a ln c] 72)).alloc (by simp) (.cells #[.bool false, .slice none 0 0] 72)
  generalize (w.alloc (.cells #[.bool neg, .slice a ln c] 72)).alloc (.cells #[.bool false, .slice none 0 0] 72) = W at *
  obtain ⟨d0, d1⟩ := r1.duo
  have hz2 := r2.lt
  go_wp2_with fail
  refine Calls.mono (HT _ hB).out ?_
  rintro _ wb ⟨v2, rfl, hV2, bb⟩
  obtain ⟨s2, rfl, hD2⟩ := hV2
  obtain ⟨_, a6, c6, rfl, _, _⟩ := id hD2
  unfold bv
  rw [HNG.out]
  obtain ⟨lz, HLZ⟩ : ∃ lz, Hid ((digs (-x).natAbs).length = lz) := ⟨_, rfl⟩
  rw [HLZ.out]
  have p2 := r2.below bb r2.lt
  obtain ⟨y0, y1⟩ := p2.duo
  have zf := p2.frozen
  have hBx := hB.trans (bb.mono (by omega))
  have hBe := below_set (below_set hBx (B := w.heap.size + 1) 0 (.bool ng) (by omega)) (B := w.heap.size + 1) 1 (.slice a6 lz c6) (by omega)
  have hZe := Row.set2 p2 (.bool ng) (.slice a6 lz c6)
  rw [HLZ.out] at hD2
  have hDe := hD2.store p2 (.bool ng) (.slice a6 lz c6)
  clear bb hBx
  go_wp2
  exact bodyPost_ret (ret_one rfl (g := w.heap.size + 1) rfl (load43 hZe rfl)) rfl ⟨_, rfl, ⟨_, by rw [HNG.out]; rfl, hDe⟩, hBe⟩
set_option maxRecDepth 100000 in
set_option maxHeartbeats 2000000 in
theorem plus_any (x y : Int) (v u : Value) (w : World) (hV : BigV w x v) (hU : BigV w y u) (hx : (digs x.natAbs).length ≤ 800) (hy : (digs y.natAbs).length ≤ 800) :
    Calls Tryz.prog 64 #[v, u] w fun r w' => ∃ v', r = .returned v' ∧ BigV w' (x + y) v' ∧ Below w.heap.size w w' := by
  obtain ⟨sa, rfl, hA⟩ := hV
  obtain ⟨sb, rfl, hB'⟩ := hU
  have HT : ∀ (ng : Bool) W sv ds, DgAt W sv ds → DgL ds → ds.length ≤ max (digs x.natAbs).length (digs y.natAbs).length + 1 → bval ng ds = x + y → Hid (Calls Tryz.prog 65 #[.agg #[.bool ng, sv]] W fun r w' => ∃ v', r = .returned v' ∧ BigV w' (x + y) v' ∧ Below W.heap.size W w') := fun ng W sv ds h1 h2 h3 h4 => by
    have := trim_any ng sv ds W h1 h2 (by omega)
    rw [h4] at this
    exact this
  have HSU : ∀ W, Below w.heap.size w W → Hid (Calls Tryz.prog 99 #[bv (decide (x < 0)) sa, bv (decide (y < 0)) sb] W _) := fun W h => sum_digs (decide (x < 0)) (decide (y < 0)) sa sb _ _ W (hA.below h) (hB'.below h) (digs_dg _) (digs_dg _) (by omega) (by omega)
  have HLS : (y.natAbs : Int) ≤ x.natAbs → ∀ W, Below w.heap.size w W → Hid (Calls Tryz.prog 97 #[bv (decide (x < 0)) sa, bv (decide (y < 0)) sb] W _) := fun hle W h => less_digs (decide (x < 0)) (decide (y < 0)) sa sb _ _ W (hA.below h) (hB'.below h) (digs_dg _) (digs_dg _) (by omega) (by omega) (by rw [dval_digs, dval_digs]; exact hle)
  have HLT : (x.natAbs : Int) ≤ y.natAbs → ∀ W, Below w.heap.size w W → Hid (Calls Tryz.prog 97 #[bv (decide (y < 0)) sb, bv (decide (x < 0)) sa] W _) := fun hle W h => less_digs (decide (y < 0)) (decide (x < 0)) sb sa _ _ W (hB'.below h) (hA.below h) (digs_dg _) (digs_dg _) (by omega) (by omega) (by rw [dval_digs, dval_digs]; exact hle)
  have HMO : ∀ W, Below w.heap.size w W → Hid (Calls Tryz.prog 63 #[bv (decide (x < 0)) sa, bv (decide (y < 0)) sb] W _) := fun W h => more_any (decide (x < 0)) (decide (y < 0)) sa sb _ _ W (hA.below h) (hB'.below h) (digs_dg _) (digs_dg _) (by omega) (by omega)
  obtain ⟨ng, HNG⟩ : ∃ ng, Hid (decide (x + y < 0) = ng) := ⟨_, rfl⟩
  simp only [dval_digs] at HSU HLS HLT HMO
  obtain ⟨na, hna⟩ : ∃ na, decide (x < 0) = na := ⟨_, rfl⟩
  obtain ⟨nb, hnb⟩ : ∃ nb, decide (y < 0) = nb := ⟨_, rfl⟩
  have HNA : Hid (decide (x < 0) = na) := hna
  have HNB : Hid (decide (y < 0) = nb) := hnb
  rw [hna, hnb] at HSU HLS HMO
  rw [hna, hnb] at HLT
  rw [hna, hnb]
  clear hna hnb
  unfold bv at *
  obtain ⟨_, a1, c1, rfl, _, _⟩ := id hA
  obtain ⟨_, a2, c2, rfl, _, _⟩ := id hB'
  clear hA hB'
  obtain ⟨la, hla⟩ : ∃ la, (digs x.natAbs).length = la := ⟨_, rfl⟩
  obtain ⟨lb, hlb⟩ : ∃ lb, (digs y.natAbs).length = lb := ⟨_, rfl⟩
  rw [hla, hlb] at HT HSU HLS HLT HMO
  rw [hla] at hx
  rw [hlb] at hy
  rw [hla, hlb]
  clear hla hlb
  cases na <;> cases nb
  · go_enter Tryz.func64, Tryz.ntmps64
    go_wp2_with fail
    have r1 := ((Row.new w 72 #[.bool false, .slice a1 la c1]).alloc (.cells #[.bool false, .slice a2 lb c2] 72)).alloc (.cells #[.bool false, .slice none 0 0] 72)
    have r2 := (Row.new1 w (.cells #[.bool false, .slice a1 la c1] 72) 72 #[.bool false, .slice a2 lb c2]).alloc (.cells #[.bool false, .slice none 0 0] 72)
    have r3 : Row (((w.alloc (.cells #[.bool false, .slice a1 la c1] 72)).alloc (.cells #[.bool false, .slice a2 lb c2] 72)).alloc (.cells #[.bool false, .slice none 0 0] 72)) (w.heap.size + 1 + 1) 72 #[.bool false, .slice none 0 0] := by
      have := Row.new ((w.alloc (.cells #[.bool false, .slice a1 la c1] 72)).alloc (.cells #[.bool false, .slice a2 lb c2] 72)) 72 #[.bool false, .slice none 0 0]
      simpa using this
    have hB := (((Below.refl _ w).alloc (Nat.le_refl _) (.cells #[.bool false, .slice a1 la c1] 72)).alloc (by simp) (.cells #[.bool false, .slice a2 lb c2] 72)).alloc (by simp; omega) (.cells #[.bool false, .slice none 0 0] 72)
    generalize ((w.alloc (.cells #[.bool false, .slice a1 la c1] 72)).alloc (.cells #[.bool false, .slice a2 lb c2] 72)).alloc (.cells #[.bool false, .slice none 0 0] 72) = W at *
    obtain ⟨d0, d1⟩ := r1.duo
    obtain ⟨e0, e1⟩ := r2.duo
    have hz2 := r3.lt
    have hS : Below W.heap.size W W.drew := (Below.refl _ W).drew
    refine wp_region_M (fun wx : World => Below W.heap.size W wx) (fun j => decide (j < 7)) 8 rfl (by kernel_rfl) ?_
    refine wpM_held 0 (v := ?_) rfl (by kernel_rfl) (by kernel_rfl) rfl (fun _ _ _ h => h) rfl (by intro wx hx; go_simp <;> rfl) hS ?_
    refine wpM_held 1 (v := .bool false) rfl (by kernel_rfl) (by kernel_rfl) rfl (fun _ _ _ h => h) rfl (by intro wx hx; obtain ⟨x0, x1⟩ := (r1.below hx r1.lt).duo; go_simp <;> rfl) hS ?_
    refine wpM_held 2 (v := .agg #[.bool false, .slice a1 la c1]) rfl (by kernel_rfl) (by kernel_rfl) rfl (fun _ _ _ h => h) rfl (by intro wx hx; obtain ⟨x0, x1⟩ := (r1.below hx r1.lt).duo; go_simp <;> rfl) hS ?_
    refine wpM_held 3 (v := .agg #[.bool false, .slice a2 lb c2]) rfl (by kernel_rfl) (by kernel_rfl) rfl (fun _ _ _ h => h) rfl (by intro wx hx; obtain ⟨x0, x1⟩ := (r2.below hx r2.lt).duo; go_simp <;> rfl) hS ?_
    refine wpM_one 4 rfl (by kernel_rfl) rfl ?_
    go_wp2_with fail
    refine Calls.mono (HSU _ (hB.trans (hS.mono (by omega)))).out ?_
    rintro _ wa ⟨sv, ds, rfl, s1, s2, s3, s4, ba⟩
    have hS1 : Below W.heap.size W wa := hS.trans (ba.mono hS.size)
    have HTR := HT false wa sv ds s1 s2 s4 (by unfold bval; rw [s3]; have h1 := HNA.out; have h2 := HNB.out; simp at h1 h2 ⊢; omega)
    obtain ⟨_, a5, c5, rfl, _, _⟩ := id s1
    clear ba s1 s2 s3 s4 hS
    go_wp2_with fail
    refine ⟨fun _ => hS1, ?_⟩
    refine wpM_one 5 rfl (by kernel_rfl) rfl ?_
    go_wp2_with fail
    refine ⟨fun _ => hS1, ?_⟩
    refine wpM_one 6 rfl (by kernel_rfl) rfl ?_
    go_wp2_with fail
    refine Calls.mono HTR.out ?_
    rintro _ wb ⟨v2, rfl, hV2, bb⟩
    obtain ⟨s2, rfl, hD2⟩ := hV2
    have hW3 : Below W.heap.size W wb := hS1.trans (bb.mono hS1.size)
    obtain ⟨_, a6, c6, rfl, _, _⟩ := id hD2
    clear bb HTR hS1
    unfold bv
    rw [HNG.out]
    go_wp2_with fail
    refine ⟨fun _ => hW3, ?_⟩
    have p2 := r3.below hW3 r3.lt
    obtain ⟨y0, y1⟩ := p2.duo
    have zf := p2.frozen
    refine wpM_one 7 rfl (by kernel_rfl) rfl ?_
    go_wp2_with fail
    refine ⟨fun h => by simp at h, ?_⟩
    refine wpM_done (by kernel_rfl) ?_
    have hBx := hB.trans (hW3.mono (by omega))
    have hBe := below_set (below_set hBx (B := w.heap.size + 1 + 1) 0 (.bool ng) (by omega)) (B := w.heap.size + 1 + 1) 1 (.slice a6 (digs (x + y).natAbs).length c6) (by omega)
    have hZe := Row.set2 p2 (.bool ng) (.slice a6 (digs (x + y).natAbs).length c6)
    have hDe := hD2.store p2 (.bool ng) (.slice a6 (digs (x + y).natAbs).length c6)
    go_wp2
    exact bodyPost_ret (ret_one rfl (g := w.heap.size + 1 + 1) rfl (load43 hZe rfl)) rfl ⟨_, rfl, ⟨_, by rw [HNG.out]; rfl, hDe⟩, hBe⟩
  · go_enter Tryz.func64, Tryz.ntmps64
    go_wp2_with fail
    have r1 := ((Row.new w 72 #[.bool false, .slice a1 la c1]).alloc (.cells #[.bool true, .slice a2 lb c2] 72)).alloc (.cells #[.bool false, .slice none 0 0] 72)
    have r2 := (Row.new1 w (.cells #[.bool false, .slice a1 la c1] 72) 72 #[.bool true, .slice a2 lb c2]).alloc (.cells #[.bool false, .slice none 0 0] 72)
    have r3 : Row (((w.alloc (.cells #[.bool false, .slice a1 la c1] 72)).alloc (.cells #[.bool true, .slice a2 lb c2] 72)).alloc (.cells #[.bool false, .slice none 0 0] 72)) (w.heap.size + 1 + 1) 72 #[.bool false, .slice none 0 0] := by
      have := Row.new ((w.alloc (.cells #[.bool false, .slice a1 la c1] 72)).alloc (.cells #[.bool true, .slice a2 lb c2] 72)) 72 #[.bool false, .slice none 0 0]
      simpa using this
    have hB := (((Below.refl _ w).alloc (Nat.le_refl _) (.cells #[.bool false, .slice a1 la c1] 72)).alloc (by simp) (.cells #[.bool true, .slice a2 lb c2] 72)).alloc (by simp; omega) (.cells #[.bool false, .slice none 0 0] 72)
    generalize ((w.alloc (.cells #[.bool false, .slice a1 la c1] 72)).alloc (.cells #[.bool true, .slice a2 lb c2] 72)).alloc (.cells #[.bool false, .slice none 0 0] 72) = W at *
    obtain ⟨d0, d1⟩ := r1.duo
    obtain ⟨e0, e1⟩ := r2.duo
    have hz2 := r3.lt
    refine Calls.mono (HMO _ hB).out ?_
    rintro _ W2 ⟨rfl, hbW⟩
    have r1 := r1.below hbW r1.lt
    have r2 := r2.below hbW r2.lt
    have r3 := r3.below hbW r3.lt
    have hB := hB.trans (hbW.mono (by omega))
    have hz2 := r3.lt
    clear hbW d0 d1 e0 e1 HMO HSU
    obtain ⟨d0, d1⟩ := r1.duo
    obtain ⟨e0, e1⟩ := r2.duo
    obtain ⟨ci, hci⟩ : ∃ ci, cI (x.natAbs : Int) (y.natAbs : Int) = ci := ⟨_, rfl⟩
    rw [hci]
    by_cases hle : (y.natAbs : Int) ≤ x.natAbs
    · have g2 : (0 : Int) ≤ ci := by rw [← hci]; unfold cI; split <;> (try split) <;> omega
      have HL := HLS hle
      have HLE : Hid ((y.natAbs : Int) ≤ x.natAbs) := hle
      clear hci hle HLS HLT
      go_wp2_with fail
      have hS : Below W2.heap.size W2 W2.drew := (Below.refl _ W2).drew
      refine wp_region_M (fun wx : World => Below W2.heap.size W2 wx) (fun j => decide (j < 7)) 8 rfl (by kernel_rfl) ?_
      refine wpM_held 0 (v := ?_) rfl (by kernel_rfl) (by kernel_rfl) rfl (fun _ _ _ h => h) rfl (by intro wx hx; go_simp <;> rfl) hS ?_
      refine wpM_held 1 (v := .bool false) rfl (by kernel_rfl) (by kernel_rfl) rfl (fun _ _ _ h => h) rfl (by intro wx hx; obtain ⟨x0, x1⟩ := (r1.below hx r1.lt).duo; go_simp <;> rfl) hS ?_
      refine wpM_held 2 (v := .agg #[.bool false, .slice a1 la c1]) rfl (by kernel_rfl) (by kernel_rfl) rfl (fun _ _ _ h => h) rfl (by intro wx hx; obtain ⟨x0, x1⟩ := (r1.below hx r1.lt).duo; go_simp <;> rfl) hS ?_
      refine wpM_held 3 (v := .agg #[.bool true, .slice a2 lb c2]) rfl (by kernel_rfl) (by kernel_rfl) rfl (fun _ _ _ h => h) rfl (by intro wx hx; obtain ⟨x0, x1⟩ := (r2.below hx r2.lt).duo; go_simp <;> rfl) hS ?_
      refine wpM_one 4 rfl (by kernel_rfl) rfl ?_
      go_wp2_with fail
      refine Calls.mono (HL _ (hB.trans (hS.mono (by omega)))).out ?_
      rintro _ wa ⟨sv, ds, rfl, s1, s2, s3, s4, ba⟩
      have hS1 : Below W2.heap.size W2 wa := hS.trans (ba.mono hS.size)
      have HTR := HT false wa sv ds s1 s2 s4 (by unfold bval; rw [s3]; have h1 := HNA.out; have h2 := HNB.out; have h4 := HLE.out; simp at h1 h2 ⊢; omega)
      obtain ⟨_, a5, c5, rfl, _, _⟩ := id s1
      clear ba s1 s2 s3 s4 hS
      go_wp2_with fail
      refine ⟨fun _ => hS1, ?_⟩
      refine wpM_one 5 rfl (by kernel_rfl) rfl ?_
      go_wp2_with fail
      refine ⟨fun _ => hS1, ?_⟩
      refine wpM_one 6 rfl (by kernel_rfl) rfl ?_
      go_wp2_with fail
      refine Calls.mono HTR.out ?_
      rintro _ wb ⟨v2, rfl, hV2, bb⟩
      obtain ⟨s2, rfl, hD2⟩ := hV2
      have hW3 : Below W2.heap.size W2 wb := hS1.trans (bb.mono hS1.size)
      obtain ⟨_, a6, c6, rfl, _, _⟩ := id hD2
      clear bb HTR hS1
      unfold bv
      rw [HNG.out]
      go_wp2_with fail
      refine ⟨fun _ => hW3, ?_⟩
      have p2 := r3.below hW3 r3.lt
      obtain ⟨y0, y1⟩ := p2.duo
      have zf := p2.frozen
      refine wpM_one 7 rfl (by kernel_rfl) rfl ?_
      go_wp2_with fail
      refine ⟨fun h => by simp at h, ?_⟩
      refine wpM_done (by kernel_rfl) ?_
      have hBx := hB.trans (hW3.mono (by omega))
      have hBe := below_set (below_set hBx (B := w.heap.size + 1 + 1) 0 (.bool ng) (by omega)) (B := w.heap.size + 1 + 1) 1 (.slice a6 (digs (x + y).natAbs).length c6) (by omega)
      have hZe := Row.set2 p2 (.bool ng) (.slice a6 (digs (x + y).natAbs).length c6)
      have hDe := hD2.store p2 (.bool ng) (.slice a6 (digs (x + y).natAbs).length c6)
      go_wp2
      exact bodyPost_ret (ret_one rfl (g := w.heap.size + 1 + 1) rfl (load43 hZe rfl)) rfl ⟨_, rfl, ⟨_, by rw [HNG.out]; rfl, hDe⟩, hBe⟩
    · have g2 : decide ((0 : Int) ≤ ci) = false := by
        refine decide_eq_false ?_
        rw [← hci]; unfold cI; split <;> (try split) <;> omega
      have HL := HLT (by omega)
      have HLE : Hid (¬ (y.natAbs : Int) ≤ x.natAbs) := hle
      clear hci hle HLS HLT
      go_wp2_with fail
      have hS : Below W2.heap.size W2 W2.drew := (Below.refl _ W2).drew
      refine wp_region_M (fun wx : World => Below W2.heap.size W2 wx) (fun j => decide (j < 7)) 8 rfl (by kernel_rfl) ?_
      refine wpM_held 0 (v := ?_) rfl (by kernel_rfl) (by kernel_rfl) rfl (fun _ _ _ h => h) rfl (by intro wx hx; go_simp <;> rfl) hS ?_
      refine wpM_held 1 (v := .bool true) rfl (by kernel_rfl) (by kernel_rfl) rfl (fun _ _ _ h => h) rfl (by intro wx hx; obtain ⟨x0, x1⟩ := (r2.below hx r2.lt).duo; go_simp <;> rfl) hS ?_
      refine wpM_held 2 (v := .agg #[.bool true, .slice a2 lb c2]) rfl (by kernel_rfl) (by kernel_rfl) rfl (fun _ _ _ h => h) rfl (by intro wx hx; obtain ⟨x0, x1⟩ := (r2.below hx r2.lt).duo; go_simp <;> rfl) hS ?_
      refine wpM_held 3 (v := .agg #[.bool false, .slice a1 la c1]) rfl (by kernel_rfl) (by kernel_rfl) rfl (fun _ _ _ h => h) rfl (by intro wx hx; obtain ⟨x0, x1⟩ := (r1.below hx r1.lt).duo; go_simp <;> rfl) hS ?_
      refine wpM_one 4 rfl (by kernel_rfl) rfl ?_
      go_wp2_with fail
      refine Calls.mono (HL _ (hB.trans (hS.mono (by omega)))).out ?_
      rintro _ wa ⟨sv, ds, rfl, s1, s2, s3, s4, ba⟩
      rw [Nat.max_comm] at s4
      have hS1 : Below W2.heap.size W2 wa := hS.trans (ba.mono hS.size)
      have HTR := HT true wa sv ds s1 s2 s4 (by unfold bval; rw [s3]; have h1 := HNA.out; have h2 := HNB.out; have h4 := HLE.out; simp at h1 h2 ⊢; omega)
      obtain ⟨_, a5, c5, rfl, _, _⟩ := id s1
      clear ba s1 s2 s3 s4 hS
      go_wp2_with fail
      refine ⟨fun _ => hS1, ?_⟩
      refine wpM_one 5 rfl (by kernel_rfl) rfl ?_
      go_wp2_with fail
      refine ⟨fun _ => hS1, ?_⟩
      refine wpM_one 6 rfl (by kernel_rfl) rfl ?_
      go_wp2_with fail
      refine Calls.mono HTR.out ?_
      rintro _ wb ⟨v2, rfl, hV2, bb⟩
      obtain ⟨s2, rfl, hD2⟩ := hV2
      have hW3 : Below W2.heap.size W2 wb := hS1.trans (bb.mono hS1.size)
      obtain ⟨_, a6, c6, rfl, _, _⟩ := id hD2
      clear bb HTR hS1
      unfold bv
      rw [HNG.out]
      go_wp2_with fail
      refine ⟨fun _ => hW3, ?_⟩
      have p2 := r3.below hW3 r3.lt
      obtain ⟨y0, y1⟩ := p2.duo
      have zf := p2.frozen
      refine wpM_one 7 rfl (by kernel_rfl) rfl ?_
      go_wp2_with fail
      refine ⟨fun h => by simp at h, ?_⟩
      refine wpM_done (by kernel_rfl) ?_
      have hBx := hB.trans (hW3.mono (by omega))
      have hBe := below_set (below_set hBx (B := w.heap.size + 1 + 1) 0 (.bool ng) (by omega)) (B := w.heap.size + 1 + 1) 1 (.slice a6 (digs (x + y).natAbs).length c6) (by omega)
      have hZe := Row.set2 p2 (.bool ng) (.slice a6 (digs (x + y).natAbs).length c6)
      have hDe := hD2.store p2 (.bool ng) (.slice a6 (digs (x + y).natAbs).length c6)
      go_wp2
      exact bodyPost_ret (ret_one rfl (g := w.heap.size + 1 + 1) rfl (load43 hZe rfl)) rfl ⟨_, rfl, ⟨_, by rw [HNG.out]; rfl, hDe⟩, hBe⟩
  · go_enter Tryz.func64, Tryz.ntmps64
    go_wp2_with fail
    have r1 := ((Row.new w 72 #[.bool true, .slice a1 la c1]).alloc (.cells #[.bool false, .slice a2 lb c2] 72)).alloc (.cells #[.bool false, .slice none 0 0] 72)
    have r2 := (Row.new1 w (.cells #[.bool true, .slice a1 la c1] 72) 72 #[.bool false, .slice a2 lb c2]).alloc (.cells #[.bool false, .slice none 0 0] 72)
    have r3 : Row (((w.alloc (.cells #[.bool true, .slice a1 la c1] 72)).alloc (.cells #[.bool false, .slice a2 lb c2] 72)).alloc (.cells #[.bool false, .slice none 0 0] 72)) (w.heap.size + 1 + 1) 72 #[.bool false, .slice none 0 0] := by
      have := Row.new ((w.alloc (.cells #[.bool true, .slice a1 la c1] 72)).alloc (.cells #[.bool false, .slice a2 lb c2] 72)) 72 #[.bool false, .slice none 0 0]
      simpa using this
    have hB := (((Below.refl _ w).alloc (Nat.le_refl _) (.cells #[.bool true, .slice a1 la c1] 72)).alloc (by simp) (.cells #[.bool false, .slice a2 lb c2] 72)).alloc (by simp; omega) (.cells #[.bool false, .slice none 0 0] 72)
    generalize ((w.alloc (.cells #[.bool true, .slice a1 la c1] 72)).alloc (.cells #[.bool false, .slice a2 lb c2] 72)).alloc (.cells #[.bool false, .slice none 0 0] 72) = W at *
    obtain ⟨d0, d1⟩ := r1.duo
    obtain ⟨e0, e1⟩ := r2.duo
    have hz2 := r3.lt
    refine Calls.mono (HMO _ hB).out ?_
    rintro _ W2 ⟨rfl, hbW⟩
    have r1 := r1.below hbW r1.lt
    have r2 := r2.below hbW r2.lt
    have r3 := r3.below hbW r3.lt
    have hB := hB.trans (hbW.mono (by omega))
    have hz2 := r3.lt
    clear hbW d0 d1 e0 e1 HMO HSU
    obtain ⟨d0, d1⟩ := r1.duo
    obtain ⟨e0, e1⟩ := r2.duo
    obtain ⟨ci, hci⟩ : ∃ ci, cI (x.natAbs : Int) (y.natAbs : Int) = ci := ⟨_, rfl⟩
    rw [hci]
    by_cases hle : (y.natAbs : Int) ≤ x.natAbs
    · have g2 : (0 : Int) ≤ ci := by rw [← hci]; unfold cI; split <;> (try split) <;> omega
      have HL := HLS hle
      have HLE : Hid ((y.natAbs : Int) ≤ x.natAbs) := hle
      clear hci hle HLS HLT
      go_wp2_with fail
      have hS : Below W2.heap.size W2 W2.drew := (Below.refl _ W2).drew
      refine wp_region_M (fun wx : World => Below W2.heap.size W2 wx) (fun j => decide (j < 7)) 8 rfl (by kernel_rfl) ?_
      refine wpM_held 0 (v := ?_) rfl (by kernel_rfl) (by kernel_rfl) rfl (fun _ _ _ h => h) rfl (by intro wx hx; go_simp <;> rfl) hS ?_
      refine wpM_held 1 (v := .bool true) rfl (by kernel_rfl) (by kernel_rfl) rfl (fun _ _ _ h => h) rfl (by intro wx hx; obtain ⟨x0, x1⟩ := (r1.below hx r1.lt).duo; go_simp <;> rfl) hS ?_
      refine wpM_held 2 (v := .agg #[.bool true, .slice a1 la c1]) rfl (by kernel_rfl) (by kernel_rfl) rfl (fun _ _ _ h => h) rfl (by intro wx hx; obtain ⟨x0, x1⟩ := (r1.below hx r1.lt).duo; go_simp <;> rfl) hS ?_
      refine wpM_held 3 (v := .agg #[.bool false, .slice a2 lb c2]) rfl (by kernel_rfl) (by kernel_rfl) rfl (fun _ _ _ h => h) rfl (by intro wx hx; obtain ⟨x0, x1⟩ := (r2.below hx r2.lt).duo; go_simp <;> rfl) hS ?_
      refine wpM_one 4 rfl (by kernel_rfl) rfl ?_
      go_wp2_with fail
      refine Calls.mono (HL _ (hB.trans (hS.mono (by omega)))).out ?_
      rintro _ wa ⟨sv, ds, rfl, s1, s2, s3, s4, ba⟩
      have hS1 : Below W2.heap.size W2 wa := hS.trans (ba.mono hS.size)
      have HTR := HT true wa sv ds s1 s2 s4 (by unfold bval; rw [s3]; have h1 := HNA.out; have h2 := HNB.out; have h4 := HLE.out; simp at h1 h2 ⊢; omega)
      obtain ⟨_, a5, c5, rfl, _, _⟩ := id s1
      clear ba s1 s2 s3 s4 hS
      go_wp2_with fail
      refine ⟨fun _ => hS1, ?_⟩
      refine wpM_one 5 rfl (by kernel_rfl) rfl ?_
      go_wp2_with fail
      refine ⟨fun _ => hS1, ?_⟩
      refine wpM_one 6 rfl (by kernel_rfl) rfl ?_
      go_wp2_with fail
      refine Calls.mono HTR.out ?_
      rintro _ wb ⟨v2, rfl, hV2, bb⟩
      obtain ⟨s2, rfl, hD2⟩ := hV2
      have hW3 : Below W2.heap.size W2 wb := hS1.trans (bb.mono hS1.size)
      obtain ⟨_, a6, c6, rfl, _, _⟩ := id hD2
      clear bb HTR hS1
      unfold bv
      rw [HNG.out]
      go_wp2_with fail
      refine ⟨fun _ => hW3, ?_⟩
      have p2 := r3.below hW3 r3.lt
      obtain ⟨y0, y1⟩ := p2.duo
      have zf := p2.frozen
      refine wpM_one 7 rfl (by kernel_rfl) rfl ?_
      go_wp2_with fail
      refine ⟨fun h => by simp at h, ?_⟩
      refine wpM_done (by kernel_rfl) ?_
      have hBx := hB.trans (hW3.mono (by omega))
      have hBe := below_set (below_set hBx (B := w.heap.size + 1 + 1) 0 (.bool ng) (by omega)) (B := w.heap.size + 1 + 1) 1 (.slice a6 (digs (x + y).natAbs).length c6) (by omega)
      have hZe := Row.set2 p2 (.bool ng) (.slice a6 (digs (x + y).natAbs).length c6)
      have hDe := hD2.store p2 (.bool ng) (.slice a6 (digs (x + y).natAbs).length c6)
      go_wp2
      exact bodyPost_ret (ret_one rfl (g := w.heap.size + 1 + 1) rfl (load43 hZe rfl)) rfl ⟨_, rfl, ⟨_, by rw [HNG.out]; rfl, hDe⟩, hBe⟩
    · have g2 : decide ((0 : Int) ≤ ci) = false := by
        refine decide_eq_false ?_
        rw [← hci]; unfold cI; split <;> (try split) <;> omega
      have HL := HLT (by omega)
      have HLE : Hid (¬ (y.natAbs : Int) ≤ x.natAbs) := hle
      clear hci hle HLS HLT
      go_wp2_with fail
      have hS : Below W2.heap.size W2 W2.drew := (Below.refl _ W2).drew
      refine wp_region_M (fun wx : World => Below W2.heap.size W2 wx) (fun j => decide (j < 7)) 8 rfl (by kernel_rfl) ?_
      refine wpM_held 0 (v := ?_) rfl (by kernel_rfl) (by kernel_rfl) rfl (fun _ _ _ h => h) rfl (by intro wx hx; go_simp <;> rfl) hS ?_
      refine wpM_held 1 (v := .bool false) rfl (by kernel_rfl) (by kernel_rfl) rfl (fun _ _ _ h => h) rfl (by intro wx hx; obtain ⟨x0, x1⟩ := (r2.below hx r2.lt).duo; go_simp <;> rfl) hS ?_
      refine wpM_held 2 (v := .agg #[.bool false, .slice a2 lb c2]) rfl (by kernel_rfl) (by kernel_rfl) rfl (fun _ _ _ h => h) rfl (by intro wx hx; obtain ⟨x0, x1⟩ := (r2.below hx r2.lt).duo; go_simp <;> rfl) hS ?_
      refine wpM_held 3 (v := .agg #[.bool true, .slice a1 la c1]) rfl (by kernel_rfl) (by kernel_rfl) rfl (fun _ _ _ h => h) rfl (by intro wx hx; obtain ⟨x0, x1⟩ := (r1.below hx r1.lt).duo; go_simp <;> rfl) hS ?_
      refine wpM_one 4 rfl (by kernel_rfl) rfl ?_
      go_wp2_with fail
      refine Calls.mono (HL _ (hB.trans (hS.mono (by omega)))).out ?_
      rintro _ wa ⟨sv, ds, rfl, s1, s2, s3, s4, ba⟩
      rw [Nat.max_comm] at s4
      have hS1 : Below W2.heap.size W2 wa := hS.trans (ba.mono hS.size)
      have HTR := HT false wa sv ds s1 s2 s4 (by unfold bval; rw [s3]; have h1 := HNA.out; have h2 := HNB.out; have h4 := HLE.out; simp at h1 h2 ⊢; omega)
      obtain ⟨_, a5, c5, rfl, _, _⟩ := id s1
      clear ba s1 s2 s3 s4 hS
      go_wp2_with fail
      refine ⟨fun _ => hS1, ?_⟩
      refine wpM_one 5 rfl (by kernel_rfl) rfl ?_
      go_wp2_with fail
      refine ⟨fun _ => hS1, ?_⟩
      refine wpM_one 6 rfl (by kernel_rfl) rfl ?_
      go_wp2_with fail
      refine Calls.mono HTR.out ?_
      rintro _ wb ⟨v2, rfl, hV2, bb⟩
      obtain ⟨s2, rfl, hD2⟩ := hV2
      have hW3 : Below W2.heap.size W2 wb := hS1.trans (bb.mono hS1.size)
      obtain ⟨_, a6, c6, rfl, _, _⟩ := id hD2
      clear bb HTR hS1
      unfold bv
      rw [HNG.out]
      go_wp2_with fail
      refine ⟨fun _ => hW3, ?_⟩
      have p2 := r3.below hW3 r3.lt
      obtain ⟨y0, y1⟩ := p2.duo
      have zf := p2.frozen
      refine wpM_one 7 rfl (by kernel_rfl) rfl ?_
      go_wp2_with fail
      refine ⟨fun h => by simp at h, ?_⟩
      refine wpM_done (by kernel_rfl) ?_
      have hBx := hB.trans (hW3.mono (by omega))
      have hBe := below_set (below_set hBx (B := w.heap.size + 1 + 1) 0 (.bool ng) (by omega)) (B := w.heap.size + 1 + 1) 1 (.slice a6 (digs (x + y).natAbs).length c6) (by omega)
      have hZe := Row.set2 p2 (.bool ng) (.slice a6 (digs (x + y).natAbs).length c6)
      have hDe := hD2.store p2 (.bool ng) (.slice a6 (digs (x + y).natAbs).length c6)
      go_wp2
      exact bodyPost_ret (ret_one rfl (g := w.heap.size + 1 + 1) rfl (load43 hZe rfl)) rfl ⟨_, rfl, ⟨_, by rw [HNG.out]; rfl, hDe⟩, hBe⟩
  · go_enter Tryz.func64, Tryz.ntmps64
    go_wp2_with fail
    have r1 := ((Row.new w 72 #[.bool true, .slice a1 la c1]).alloc (.cells #[.bool true, .slice a2 lb c2] 72)).alloc (.cells #[.bool false, .slice none 0 0] 72)
    have r2 := (Row.new1 w (.cells #[.bool true, .slice a1 la c1] 72) 72 #[.bool true, .slice a2 lb c2]).alloc (.cells #[.bool false, .slice none 0 0] 72)
    have r3 : Row (((w.alloc (.cells #[.bool true, .slice a1 la c1] 72)).alloc (.cells #[.bool true, .slice a2 lb c2] 72)).alloc (.cells #[.bool false, .slice none 0 0] 72)) (w.heap.size + 1 + 1) 72 #[.bool false, .slice none 0 0] := by
      have := Row.new ((w.alloc (.cells #[.bool true, .slice a1 la c1] 72)).alloc (.cells #[.bool true, .slice a2 lb c2] 72)) 72 #[.bool false, .slice none 0 0]
      simpa using this
    have hB := (((Below.refl _ w).alloc (Nat.le_refl _) (.cells #[.bool true, .slice a1 la c1] 72)).alloc (by simp) (.cells #[.bool true, .slice a2 lb c2] 72)).alloc (by simp; omega) (.cells #[.bool false, .slice none 0 0] 72)
    generalize ((w.alloc (.cells #[.bool true, .slice a1 la c1] 72)).alloc (.cells #[.bool true, .slice a2 lb c2] 72)).alloc (.cells #[.bool false, .slice none 0 0] 72) = W at *
    obtain ⟨d0, d1⟩ := r1.duo
    obtain ⟨e0, e1⟩ := r2.duo
    have hz2 := r3.lt
    have hS : Below W.heap.size W W.drew := (Below.refl _ W).drew
    refine wp_region_M (fun wx : World => Below W.heap.size W wx) (fun j => decide (j < 7)) 8 rfl (by kernel_rfl) ?_
    refine wpM_held 0 (v := ?_) rfl (by kernel_rfl) (by kernel_rfl) rfl (fun _ _ _ h => h) rfl (by intro wx hx; go_simp <;> rfl) hS ?_
    refine wpM_held 1 (v := .bool true) rfl (by kernel_rfl) (by kernel_rfl) rfl (fun _ _ _ h => h) rfl (by intro wx hx; obtain ⟨x0, x1⟩ := (r1.below hx r1.lt).duo; go_simp <;> rfl) hS ?_
    refine wpM_held 2 (v := .agg #[.bool true, .slice a1 la c1]) rfl (by kernel_rfl) (by kernel_rfl) rfl (fun _ _ _ h => h) rfl (by intro wx hx; obtain ⟨x0, x1⟩ := (r1.below hx r1.lt).duo; go_simp <;> rfl) hS ?_
    refine wpM_held 3 (v := .agg #[.bool true, .slice a2 lb c2]) rfl (by kernel_rfl) (by kernel_rfl) rfl (fun _ _ _ h => h) rfl (by intro wx hx; obtain ⟨x0, x1⟩ := (r2.below hx r2.lt).duo; go_simp <;> rfl) hS ?_
    refine wpM_one 4 rfl (by kernel_rfl) rfl ?_
    go_wp2_with fail
    refine Calls.mono (HSU _ (hB.trans (hS.mono (by omega)))).out ?_
    rintro _ wa ⟨sv, ds, rfl, s1, s2, s3, s4, ba⟩
    have hS1 : Below W.heap.size W wa := hS.trans (ba.mono hS.size)
    have HTR := HT true wa sv ds s1 s2 s4 (by unfold bval; rw [s3]; have h1 := HNA.out; have h2 := HNB.out; simp at h1 h2 ⊢; omega)
    obtain ⟨_, a5, c5, rfl, _, _⟩ := id s1
    clear ba s1 s2 s3 s4 hS
    go_wp2_with fail
    refine ⟨fun _ => hS1, ?_⟩
    refine wpM_one 5 rfl (by kernel_rfl) rfl ?_
    go_wp2_with fail
    refine ⟨fun _ => hS1, ?_⟩
    refine wpM_one 6 rfl (by kernel_rfl) rfl ?_
    go_wp2_with fail
    refine Calls.mono HTR.out ?_
    rintro _ wb ⟨v2, rfl, hV2, bb⟩
    obtain ⟨s2, rfl, hD2⟩ := hV2
    have hW3 : Below W.heap.size W wb := hS1.trans (bb.mono hS1.size)
    obtain ⟨_, a6, c6, rfl, _, _⟩ := id hD2
    clear bb HTR hS1
    unfold bv
    rw [HNG.out]
    go_wp2_with fail
    refine ⟨fun _ => hW3, ?_⟩
    have p2 := r3.below hW3 r3.lt
    obtain ⟨y0, y1⟩ := p2.duo
    have zf := p2.frozen
    refine wpM_one 7 rfl (by kernel_rfl) rfl ?_
    go_wp2_with fail
    refine ⟨fun h => by simp at h, ?_⟩
    refine wpM_done (by kernel_rfl) ?_
    have hBx := hB.trans (hW3.mono (by omega))
    have hBe := below_set (below_set hBx (B := w.heap.size + 1 + 1) 0 (.bool ng) (by omega)) (B := w.heap.size + 1 + 1) 1 (.slice a6 (digs (x + y).natAbs).length c6) (by omega)
    have hZe := Row.set2 p2 (.bool ng) (.slice a6 (digs (x + y).natAbs).length c6)
    have hDe := hD2.store p2 (.bool ng) (.slice a6 (digs (x + y).natAbs).length c6)
    go_wp2
    exact bodyPost_ret (ret_one rfl (g := w.heap.size + 1 + 1) rfl (load43 hZe rfl)) rfl ⟨_, rfl, ⟨_, by rw [HNG.out]; rfl, hDe⟩, hBe⟩
end Go.Proofs.YtoncpcdepemlcaaGreatDoor
/- fits: is a whole number the C of a Dec? -/
namespace Go.Proofs.YtoncpcdepemlcaaGreatDoor
open Go.RowKit

def fitsB (z : Int) : Bool := decide (-9223372036854775808 ≤ z) && decide (z ≤ 9223372036854775807)
theorem one_rowD (w w1 : World) (o1 : Array Value) (t1 : TypeId) (h : Below ((w.alloc (.cells o1 t1)).heap.size) (w.alloc (.cells o1 t1)) w1) :
    Row w1 w.heap.size t1 o1 ∧ Below w.heap.size w w1 :=
  ⟨(Row.new w t1 o1).below h (by simp), ((Below.refl _ w).alloc (Nat.le_refl _) _).trans (h.mono (by simp))⟩
theorem digs_big : (digs 9223372036854775808).length ≤ 800 := Nat.le_trans (digs_len _ 19 (by decide)) (by decide)
set_option maxRecDepth 100000 in
set_option maxHeartbeats 1000000 in
theorem fits_any (z : Int) (v : Value) (w : World) (hV : BigV w z v) (hz : (digs z.natAbs).length ≤ 800) :
    Calls Tryz.prog 67 #[v] w fun r w' => r = .returned (.bool (fitsB z)) ∧ Below w.heap.size w w' := by
  obtain ⟨sa, rfl, hA⟩ := hV
  obtain ⟨fb, HFB⟩ : ∃ fb, Hid (fitsB z = fb) := ⟨_, rfl⟩
  rw [HFB.out]
  have HO : ∀ W, Hid (Calls Tryz.prog 33 #[.int .i64 (-9223372036854775808)] W _) := fun W => of_any (-9223372036854775808) ⟨by decide, by decide⟩ W
  obtain ⟨na, hna⟩ : ∃ na, decide (z < 0) = na := ⟨_, rfl⟩
  have HNA : Hid (decide (z < 0) = na) := hna
  have HMO : ∀ W sb, Below w.heap.size w W → DgAt W sb (digs 9223372036854775808) → Hid (Calls Tryz.prog 63 #[bv na sa, bv na sb] W fun r w' => r = .returned (.int .i64 (cI (z.natAbs : Int) 9223372036854775808)) ∧ Below W.heap.size W w') := fun W sb h hb => by
    have := more_any na na sa sb _ _ W (hA.below h) hb (digs_dg _) (digs_dg _) (by omega) (by have := digs_big; omega)
    rw [dval_digs, dval_digs] at this
    exact this
  rw [hna]
  clear hna
  obtain ⟨_, a1, c1, rfl, _, _⟩ := id hA
  clear hA
  generalize (digs z.natAbs).length = la at *
  unfold bv at *
  go_enter Tryz.func67, Tryz.ntmps67
  go_wp2_with fail
  refine Calls.mono (HO _).out ?_
  rintro _ w1 ⟨v1, rfl, hV1, b1⟩
  obtain ⟨sb, rfl, hB⟩ := hV1
  obtain ⟨r1, hB1⟩ := one_rowD w w1 _ _ b1
  rw [show (-9223372036854775808 : Int).natAbs = 9223372036854775808 from rfl] at hB
  obtain ⟨_, a2, c2, rfl, _, _⟩ := id hB
  obtain ⟨lb, hlb⟩ : ∃ lb, (digs 9223372036854775808).length = lb := ⟨_, rfl⟩
  rw [hlb] at hB
  rw [hlb]
  rw [show decide ((-9223372036854775808 : Int) < 0) = true from rfl]
  unfold bv
  clear b1 HO hlb
  obtain ⟨d0, d1⟩ := r1.duo
  have hz1 := r1.lt
  have hal : ∀ o, Below w1.heap.size w1 (w1.alloc o) := fun o => (Below.refl _ w1).alloc (Nat.le_refl _) o
  have HM := HMO (w1.alloc (.cells #[.bool na, .slice a2 lb c2] 72)) _ (hB1.trans ((hal _).mono hB1.size)) (hB.below (hal _))
  have hB2 := hB1.trans ((hal (.cells #[.bool na, .slice a2 lb c2] 72)).mono hB1.size)
  have r2 := r1.below (hal (.cells #[.bool na, .slice a2 lb c2] 72)) hz1
  clear hB hal HMO hB1 r1
  go_wp2_with fail
  refine Calls.mono HM.out ?_
  rintro _ w2 ⟨rfl, b2⟩
  have r3 := r2.below b2 r2.lt
  have hB3 := hB2.trans (b2.mono (by have := hB2.size; simp at this ⊢; omega))
  clear b2 HM r2 hB2 d0 d1
  obtain ⟨d0, d1⟩ := r3.duo
  have hz3 := r3.lt
  rcases Int.lt_trichotomy (z.natAbs : Int) 9223372036854775808 with h | h | h
  · have hc : cI (z.natAbs : Int) 9223372036854775808 = -1 := by unfold cI; rw [if_neg (by omega), if_pos h]
    have HF : Hid (fb = true) := by
      show _ = _
      rw [← HFB.out]; unfold fitsB; rw [decide_eq_true (by omega), decide_eq_true (by omega)]; rfl
    rw [hc]
    clear hc h
    go_wp2
    go_ret
    exact ⟨by rw [HF.out]; rfl, hB3⟩
  · have hc : cI (z.natAbs : Int) 9223372036854775808 = 0 := by unfold cI; rw [if_neg (by omega), if_neg (by omega)]
    have HF : Hid (fb = na) := by
      show _ = _
      rw [← HFB.out, ← HNA.out]; unfold fitsB
      by_cases hz0 : z < 0
      · rw [decide_eq_true (by omega), decide_eq_true (by omega), decide_eq_true hz0]; rfl
      · rw [decide_eq_true (show (-9223372036854775808 : Int) ≤ z by omega), decide_eq_false (show ¬ z ≤ 9223372036854775807 by omega), decide_eq_false hz0]; rfl
    rw [hc]
    clear hc h
    go_wp2
    go_ret
    exact ⟨by rw [HF.out]; rfl, hB3⟩
  · have hc : cI (z.natAbs : Int) 9223372036854775808 = 1 := by unfold cI; rw [if_pos (by omega)]
    have HF : Hid (fb = false) := by
      show _ = _
      rw [← HFB.out]; unfold fitsB
      by_cases hz0 : z < 0
      · rw [decide_eq_false (show ¬ (-9223372036854775808 : Int) ≤ z by omega)]; rfl
      · rw [decide_eq_false (show ¬ z ≤ 9223372036854775807 by omega), Bool.and_false]
    rw [hc]
    clear hc h
    go_wp2
    go_ret
    exact ⟨by rw [HF.out]; rfl, hB3⟩
end Go.Proofs.YtoncpcdepemlcaaGreatDoor
/- Pure: how a number that ends on no nought is told. -/
namespace Go.Proofs.YtoncpcdepemlcaaGreatDoor

theorem fits_iff (z : Int) : (fitsB z = true) ↔ z.natAbs ≤ 9223372036854775807 + (decide (z < 0)).toNat := by
  unfold fitsB
  by_cases h : z < 0
  · rw [decide_eq_true h]; simp; omega
  · rw [decide_eq_false h]; simp; omega
theorem tell_low (y f : Int) (hy : y.natAbs % 10 ≠ 0) (hf : f ≤ 18) : tell y f = if fitsB y = true ∧ -18 ≤ f then some (y, f) else none := by
  unfold tell tellW
  rw [if_neg (by omega), strip_fix _ _ (.inl hy)]
  have hr : raise (y.natAbs, f) = (y.natAbs, f) := by unfold raise; rw [if_neg (by simp only; omega)]
  rw [hr]
  simp only
  have hval : (if decide (y < 0) = true then -(y.natAbs : Int) else (y.natAbs : Int)) = y := by
    by_cases h0 : y < 0
    · rw [decide_eq_true h0, if_pos rfl]; omega
    · rw [decide_eq_false h0, if_neg (by simp)]; omega
  rw [hval]
  by_cases h : y.natAbs ≤ 9223372036854775807 + (decide (y < 0)).toNat ∧ -18 ≤ f
  · rw [if_pos h, if_pos ⟨(fits_iff y).2 h.1, h.2⟩]
  · rw [if_neg h, if_neg (fun hc => h ⟨(fits_iff y).1 hc.1, hc.2⟩)]
theorem tell_high (y f : Int) (hy : y.natAbs % 10 ≠ 0) (hf : 18 < f) : tell y f = if fitsB (y * 10 ^ (f - 18).toNat) = true then some (y * 10 ^ (f - 18).toNat, 18) else none := by
  have hp : (0 : Int) < 10 ^ (f - 18).toNat := Int.pow_pos (by omega)
  have hna : (y * 10 ^ (f - 18).toNat).natAbs = y.natAbs * 10 ^ (f - 18).toNat := by rw [Int.natAbs_mul, Int.natAbs_pow]; rfl
  have hsg : (y * 10 ^ (f - 18).toNat < 0) ↔ y < 0 := by
    constructor
    · intro h
      apply Int.lt_of_not_ge
      intro hc
      have := Int.mul_nonneg hc (Int.le_of_lt hp)
      omega
    · intro h; exact Int.mul_neg_of_neg_of_pos h hp
  have hd : decide (y * 10 ^ (f - 18).toNat < 0) = decide (y < 0) := by simp only [hsg]
  unfold tell tellW
  rw [if_neg (by omega), strip_fix _ _ (.inl hy)]
  have hr : raise (y.natAbs, f) = (y.natAbs * 10 ^ (f - 18).toNat, 18) := by unfold raise; rw [if_pos (by simpa using hf)]
  rw [hr]
  simp only
  have hfi := fits_iff (y * 10 ^ (f - 18).toNat)
  rw [hna, hd] at hfi
  by_cases h : y.natAbs * 10 ^ (f - 18).toNat ≤ 9223372036854775807 + (decide (y < 0)).toNat
  · rw [if_pos ⟨h, by decide⟩, if_pos (hfi.2 h)]
    congr 2
    by_cases h0 : y < 0
    · rw [decide_eq_true h0, if_pos rfl, ← hna]
      have := hsg.2 h0
      omega
    · rw [decide_eq_false h0, if_neg (by simp), ← hna]
      have : ¬ y * 10 ^ (f - 18).toNat < 0 := fun hc => h0 (hsg.1 hc)
      omega
  · rw [if_neg (fun hc => h hc.1), if_neg (fun hc => h (hfi.1 hc))]
theorem digs_ge (n k : Nat) (h : k + 1 ≤ (digs n).length) : 10 ^ k ≤ n := by
  apply Nat.le_of_not_lt
  intro hc
  have := digs_len n k hc
  omega
/-- A number whose digits are many can't be told. -/
theorem tell_many (y f : Int) (k : Nat) (hy : y.natAbs % 10 ≠ 0) (hk : 18 + (k : Int) < f) (hl : 30 ≤ (digs (y * 10 ^ k).natAbs).length) : tell y f = none := by
  rw [tell_high y f hy (by omega), if_neg]
  intro hc
  have h1 := (fits_iff _).1 hc
  have h2 := digs_ge _ 29 hl
  rw [Int.natAbs_mul, Int.natAbs_pow] at h1 h2
  have h3 : 10 ^ k ≤ 10 ^ (f - 18).toNat := Nat.pow_le_pow_right (by decide) (by omega)
  have h4 := Nat.mul_le_mul_left y.natAbs h3
  have h5 : (decide (y * 10 ^ (f - 18).toNat < 0)).toNat ≤ 1 := Bool.toNat_le _
  rw [show (10 : Int).natAbs = 10 from rfl] at h1 h2
  have : (10 : Nat) ^ 29 = 100000000000000000000000000000 := by decide
  omega
theorem tell_far (y f : Int) (hy : y ≠ 0) (hf : 60 < f) : tell y f = none := by
  obtain ⟨k, h1, h2, h3, h4, h5⟩ := strip_spec y.natAbs f (by omega)
  have h6 : k = 0 := by omega
  subst h6
  unfold tell tellW
  rw [if_neg (by omega), if_neg]
  rintro ⟨ha, -⟩
  have hs : strip y.natAbs f = (y.natAbs, f) := strip_fix _ _ (.inr (by omega))
  rw [hs] at ha
  unfold raise at ha
  rw [if_pos (by simp only; omega)] at ha
  simp only at ha
  have hp : 10 ^ 40 ≤ 10 ^ (f - 18).toNat := Nat.pow_le_pow_right (by decide) (by omega)
  have h7 : 1 * 10 ^ 40 ≤ y.natAbs * 10 ^ (f - 18).toNat := Nat.mul_le_mul (by omega) hp
  have h8 : (decide (y < 0)).toNat ≤ 1 := Bool.toNat_le _
  have : (10 : Nat) ^ 40 = 10000000000000000000000000000000000000000 := by decide
  omega
end Go.Proofs.YtoncpcdepemlcaaGreatDoor
/- Tell: how the document tells a number. -/
namespace Go.Proofs.YtoncpcdepemlcaaGreatDoor
open Go.RowKit

theorem digs_pos_len {n : Nat} (h : n ≠ 0) : 1 ≤ (digs n).length := by rw [digs_pos n h]; simp
/-- What stays of a Tell's boxes. -/
structure TlAt (w : World) (K : Nat) (y : Int) (sv : Value) (wr : World) : Prop where
  res : Row wr (w.heap.size + 1) 38 #[.int .i64 0, .int .i64 0]
  big : Row wr K 72 #[.bool (decide (y < 0)), sv]
  dg : DgAt wr sv (digs y.natAbs)
  below : Below w.heap.size w wr
theorem TlAt.mono {w wr wx : World} {K : Nat} {y : Int} {sv : Value} (h : TlAt w K y sv wr) (hb : Below wr.heap.size wr wx) : TlAt w K y sv wx :=
  ⟨h.res.below hb h.res.lt, h.big.below hb h.big.lt, h.dg.below hb, h.below.trans (hb.mono h.below.size)⟩
/-- Another number is put into the box. -/
theorem TlAt.put {w wr wx : World} {K : Nat} {y y' : Int} {sv : Value} {a a' : Option Addr} {n c n' c' : Nat} (h : TlAt w K y sv wr) (hsv : sv = .slice a n c) (hK : w.heap.size + 1 < K) (hb : Below wr.heap.size wr wx) (hD : DgAt wx (.slice a' n' c') (digs y'.natAbs)) (ng : Bool) (hng : decide (y' < 0) = ng) :
    TlAt w K y' (.slice a' n' c') ((wx.setCell ⟨K, 0, none⟩ (.bool ng)).setCell ⟨K, 1, none⟩ (.slice a' n' c')) := by
  have h2 := h.mono hb
  have hbig := h2.big
  rw [hsv] at hbig
  refine ⟨(h2.res.off 0 _ (by omega)).off 1 _ (by omega), ?_, hD.store hbig _ _, below_set (below_set h2.below 0 _ (by omega)) 1 _ (by omega)⟩
  rw [hng]
  exact Row.set2 hbig _ _
/-- The digits without the first. -/
theorem DgAt.tail {W : World} {a : Option Addr} {n c : Nat} {d : Int} {ds : List Int} (h : DgAt W (.slice a n c) (d :: ds)) :
    ∃ a', (∀ V, (Instr.sliceAt 70 (.slice a n c) (some (.int .i64 1)) none none).run Tryz.prog V = .ok (.slice a' (n - 1) (c - 1)) V) ∧ n = ds.length + 1 ∧ ∀ V, Below W.heap.size W V → DgAt V (.slice a' (n - 1) (c - 1)) ds := by
  obtain ⟨hI, a0, c0, he, hc, hn⟩ := h
  simp only [Value.slice.injEq, List.length_cons] at he
  obtain ⟨rfl, rfl, rfl⟩ := he
  rcases hI with ⟨h0, _⟩ | ⟨b, off, c', he, hb, hcell⟩
  · cases h0
  · simp only [Value.slice.injEq, List.length_cons, true_and] at he
    obtain ⟨rfl, rfl⟩ := he
    rw [List.length_cons] at hc
    refine ⟨if c = 1 then some ⟨b, off, none⟩ else some ⟨b, off + 1, none⟩, fun V => ?_, rfl, fun V hV => ?_⟩
    · have h1 : (1 : Int) ≤ ((ds.length + 1 : Nat) : Int) := by omega
      by_cases hc1 : c = 1
      · subst hc1
        rw [if_pos rfl]
        go_simp
        omega
      · rw [if_neg hc1]
        go_simp
        intro h
        omega
    · have hk := Kept.of_below (S := fun k => k < W.heap.size) hV (fun _ h => h)
      refine ⟨?_, _, _, rfl, by show ds.length ≤ c - 1; omega, fun h => by split at h <;> cases h⟩
      by_cases h0 : ds = []
      · subst h0; exact .inl ⟨rfl, _, _, rfl⟩
      · have hl : 0 < ds.length := List.length_pos_iff.2 h0
        rw [if_neg (by omega)]
        refine .inr ⟨b, off + 1, c - 1, by simp, Nat.lt_of_lt_of_le hb hV.size, fun j hj => ?_⟩
        have := hcell (j + 1) (by rw [List.length_cons]; omega)
        rw [hk.cell (p := ⟨b, off + 1 + j, none⟩) hb, show off + 1 + j = off + (j + 1) by omega, this]
        rfl
theorem tell_fin (y f : Int) (k : Nat) (hy : y.natAbs % 10 ≠ 0) (hk : k = 0 ∨ 18 ≤ f - k) (hg : f - k ≤ 18) : tell y f = if fitsB (y * 10 ^ k) = true ∧ -18 ≤ f - k then some (y * 10 ^ k, f - k) else none := by
  by_cases h0 : k = 0
  · subst h0
    rw [tell_low y f hy (by omega)]
    simp
  · have h1 : f - (k : Int) = 18 := by omega
    rw [tell_high y f hy (by omega), show (f - 18).toNat = k by omega, h1]
    by_cases hf : fitsB (y * 10 ^ k) = true
    · rw [if_pos hf, if_pos ⟨hf, by decide⟩]
    · rw [if_neg hf, if_neg (fun h => hf h.1)]
theorem dval_drop_le {ds : List Int} (h : DgL ds) (m : Nat) : 0 ≤ dval (ds.drop m) ∧ dval (ds.drop m) ≤ dval ds := by
  have h1 := dval_nonneg (fun d hd => h d (List.mem_of_mem_drop hd) : DgL (ds.drop m))
  refine ⟨h1, ?_⟩
  have h2 := dval_nonneg (fun d hd => h d (List.mem_of_mem_take hd) : DgL (ds.take m))
  have e := dval_append (ds.take m) (ds.drop m)
  rw [List.take_append_drop] at e
  have hp := pow10_pos (ds.take m).length
  have : 1 * dval (ds.drop m) ≤ 10 ^ (ds.take m).length * dval (ds.drop m) := Int.mul_le_mul_of_nonneg_right (by omega) h1
  omega
theorem dval_drop (ds : List Int) (m : Nat) (h : m < ds.length) : dval (ds.drop m) = ds[m]?.getD 0 + 10 * dval (ds.drop (m + 1)) := by
  rw [List.drop_eq_getElem_cons h, List.getElem?_eq_getElem h]; rfl
set_option maxRecDepth 100000 in
set_option maxHeartbeats 4000000 in
theorem tell_head (z e : Int) (sv : Value) (w : World) (hz : z ≠ 0) (hD : DgAt w sv (digs z.natAbs)) (v : Value)
    (HV : Hid (v = decV (tell z e)))
    (he1 : -2000 ≤ e) (he2 : e ≤ 2000) (hl : (digs z.natAbs).length ≤ 500) :
    Calls Tryz.prog 32 #[.agg #[.bool (decide (z < 0)), sv, .int .i64 e]] w fun r w' => r = .returned v ∧ Below w.heap.size w w' := by
  obtain ⟨ng, HNG⟩ : ∃ ng, Hid (decide (z < 0) = ng) := ⟨_, rfl⟩
  rw [HNG.out]
  have hL1 := digs_pos_len (show z.natAbs ≠ 0 by omega)
  obtain ⟨_, a, c, rfl, _, _⟩ := id hD
  obtain ⟨L, HL⟩ : ∃ L, Hid ((digs z.natAbs).length = L) := ⟨_, rfl⟩
  rw [HL.out] at hD hL1 hl
  rw [HL.out]
  have HD : Hid (DgAt w (.slice a L c) (digs z.natAbs)) := hD
  have gL : ((L : Int) == 0) = false := by simp only [beq_eq_false_iff_ne]; omega
  clear hD
  go_enter Tryz.func32, Tryz.ntmps32
  go_wp2_with fail
  have r0 := (Row.new w 75 #[.bool ng, .slice a L c, .int .i64 e]).alloc (.cells #[.int .i64 0, .int .i64 0] 38)
  have r1 := Row.new1 w (.cells #[.bool ng, .slice a L c, .int .i64 e] 75) 38 #[.int .i64 0, .int .i64 0]
  have hB := ((Below.refl _ w).alloc (Nat.le_refl _) (.cells #[.bool ng, .slice a L c, .int .i64 e] 75)).alloc (by simp) (.cells #[.int .i64 0, .int .i64 0] 38)
  have hWs : ((w.alloc (.cells #[.bool ng, .slice a L c, .int .i64 e] 75)).alloc (.cells #[.int .i64 0, .int .i64 0] 38)).heap.size = w.heap.size + 2 := by simp
  generalize (w.alloc (.cells #[.bool ng, .slice a L c, .int .i64 e] 75)).alloc (.cells #[.int .i64 0, .int .i64 0] 38) = W at *
  have HWs : Hid (W.heap.size = w.heap.size + 2) := hWs
  clear hWs
  have hS : Below W.heap.size W W.drew := (Below.refl _ W).drew
  have tri : ∀ wx, Below W.heap.size W wx → wx.cell? ⟨w.heap.size, 0, none⟩ = some (.bool ng) ∧ wx.cell? ⟨w.heap.size, 1, none⟩ = some (.slice a L c) ∧ wx.cell? ⟨w.heap.size, 2, none⟩ = some (.int .i64 e) := fun wx hx =>
    ⟨(r0.below hx r0.lt).cell rfl, (r0.below hx r0.lt).cell rfl, (r0.below hx r0.lt).cell rfl⟩
  refine wp_region_M (fun wx : World => Below W.heap.size W wx) (fun j => decide (j < 7)) 7 rfl (by kernel_rfl) ?_
  refine wpM_held 0 (v := ?_) rfl (by kernel_rfl) (by kernel_rfl) rfl (fun _ _ _ h => h) rfl (by intro wx hx; go_simp <;> rfl) hS ?_
  refine wpM_held 1 (v := .agg #[.bool ng, .slice a L c]) rfl (by kernel_rfl) (by kernel_rfl) rfl (fun _ _ _ h => h) rfl (by intro wx hx; obtain ⟨x0, x1, x2⟩ := tri wx hx; go_simp <;> rfl) hS ?_
  refine wpM_held 2 (v := ?_) rfl (by kernel_rfl) (by kernel_rfl) rfl (fun _ _ _ h => h) rfl (by intro wx hx; go_simp <;> rfl) hS ?_
  refine wpM_held 3 (v := .int .i64 e) rfl (by kernel_rfl) (by kernel_rfl) rfl (fun _ _ _ h => h) rfl (by intro wx hx; obtain ⟨x0, x1, x2⟩ := tri wx hx; go_simp <;> rfl) hS ?_
  refine wpM_one 4 rfl (by kernel_rfl) rfl ?_
  go_wp2_with fail
  have hW1 : ∀ o, Below W.heap.size W (W.alloc o).drew := fun o => ((Below.refl _ W).alloc (Nat.le_refl _) o).drew
  refine ⟨fun _ => hW1 _, ?_⟩
  refine wpM_one 5 rfl (by kernel_rfl) rfl ?_
  go_wp2_with fail
  refine ⟨fun _ => hW1 _, ?_⟩
  refine wpM_one 6 rfl (by kernel_rfl) rfl ?_
  go_wp2_with fail
  refine ⟨fun _ => hW1 _, ?_⟩
  refine wpM_done (by kernel_rfl) ?_
  have hT : TlAt w W.heap.size z (.slice a L c) (W.alloc (.cells #[.bool ng, .slice a L c] 72)).drew := by
    have hx := hW1 (.cells #[.bool ng, .slice a L c] 72)
    refine ⟨r1.below hx r1.lt, ?_, (HD.out.below hB).below hx, hB.trans (hx.mono (by have := HWs.out; omega))⟩
    rw [HNG.out]
    exact Row.new W 72 _
  generalize (W.alloc (.cells #[.bool ng, .slice a L c] 72)).drew = W2 at *
  clear r0 r1 hB hS tri HD hW1
  have hK : w.heap.size + 1 < W.heap.size := by have := HWs.out; omega
  clear HWs
  generalize W.heap.size = K at *
  clear W
  have hbig := hT.big
  rw [HNG.out] at hbig
  obtain ⟨d0, d1⟩ := hbig.duo
  obtain ⟨f0, f1⟩ := hT.res.duo
  have ff := hT.res.frozen
  have hlt1 := hT.res.lt
  by_cases h60 : 60 < e
  · have HVN : Hid (v = .tuple #[.agg #[.int .i64 0, .int .i64 0], .int .i64 30]) := by
      show _ = _
      rw [HV.out, tell_far z e hz h60]; rfl
    have hZe := Row.set2 hT.res (.int .i64 0) (.int .i64 0)
    have hBe := below_set (below_set hT.below (B := w.heap.size + 1) 0 (.int .i64 0) (by omega)) (B := w.heap.size + 1) 1 (.int .i64 0) (by omega)
    clear HV
    go_wp2
    exact bodyPost_ret (ret_two rfl (g := w.heap.size + 1) rfl rfl (load23 hZe rfl)) rfl ⟨by rw [HVN.out]; rfl, hBe⟩
  · have g60 : decide (60 < e) = false := decide_eq_false h60
    clear h60
    go_wp2
    clear d0 d1 f0 f1 ff hlt1 hbig
    go_loopw [5] (fun v5 wr => ∃ (y f : Int) (a : Option Addr) (n c : Nat), v5 = .int .i64 f ∧ TlAt w K y (.slice a n c) wr ∧ Hid (y ≠ 0 ∧ tell y f = tell z e ∧ (digs y.natAbs).length = n ∧ f + n ≤ e + L) ∧ -2000 ≤ f ∧ f ≤ 4000 ∧ n ≤ 500) (fun v5 _ => (5000 - intOf v5).toNat)
    case atStart => exact ⟨z, e, a, L, c, rfl, hT, ⟨hz, rfl, HL.out, Int.le_refl _⟩, he1, by omega, hl⟩
    case round =>
      obtain ⟨y, f, a1, n, c1, rfl, hT1, HY, hf1, hf2, hn200⟩ := hrel
      clear hT
      obtain ⟨ny, HNY⟩ : ∃ ny, Hid (decide (y < 0) = ny) := ⟨_, rfl⟩
      have hbig := hT1.big
      rw [HNY.out] at hbig
      obtain ⟨d0, d1⟩ := hbig.duo
      have hy0 := HY.out.1
      have hdg := hT1.dg
      have hds := digs_pos y.natAbs (show y.natAbs ≠ 0 by omega)
      rw [hds] at hdg
      obtain ⟨a2, hsl, hn, htl⟩ := hdg.tail
      obtain ⟨bb, off, hab, _, hc0⟩ := hdg.1.at 0 (by simp)
      subst hab
      obtain ⟨d, hd⟩ : ∃ d, y.natAbs % 10 = d := ⟨_, rfl⟩
      simp only [List.getElem?_cons_zero, Option.getD_some, Nat.add_zero] at hc0
      rw [hd] at hc0 hds
      have gn : (0 : Int) < (n : Int) := by omega
      have HN : Hid (n = (digs (y.natAbs / 10)).length + 1) := hn
      have HTL : Hid (∀ V, Below wr.heap.size wr V → DgAt V (.slice a2 (n - 1) (c1 - 1)) (digs (y.natAbs / 10))) := htl
      have HD9 : Hid (y.natAbs % 10 = d) := hd
      clear hn htl hd hdg hds
      by_cases h0 : d = 0
      · subst h0
        obtain ⟨y', hy'⟩ : ∃ y', bval ny (digs (y.natAbs / 10)) = y' := ⟨_, rfl⟩
        have hyq : y = y' * 10 := by
          rw [← hy']
          unfold bval
          rw [dval_digs, ← HNY.out]
          have h9 := HD9.out
          by_cases hs : y < 0
          · rw [decide_eq_true hs, if_pos rfl]; omega
          · rw [decide_eq_false hs, if_neg (by simp)]; omega
        have hln : (digs y'.natAbs).length = n - 1 := by rw [show y'.natAbs = y.natAbs / 10 by omega, HN.out]; omega
        have hn1 := digs_pos_len (show y'.natAbs ≠ 0 by omega)
        have HY2 : Hid (y' ≠ 0 ∧ tell y' (f + 1) = tell z e ∧ (digs y'.natAbs).length = n - 1 ∧ f + 1 + ((n - 1 : Nat) : Int) ≤ e + L) := by
          obtain ⟨i1, i2, i3, i4⟩ := HY.out
          refine ⟨by omega, ?_, hln, by omega⟩
          rw [← i2, hyq]
          have := tell_pow y' (f + 1) 1
          rw [show f + 1 - ((1 : Nat) : Int) = f by omega, Int.pow_succ, Int.pow_zero, Int.one_mul] at this
          exact this.symm
        have hf3 : f + 1 ≤ 4000 := by have := HY.out.2.2.2; omega
        have HNY2 : Hid (decide (y' < 0) = ny) := by
          show _ = _
          rw [← HNY.out]
          by_cases hs : y < 0
          · rw [decide_eq_true hs, decide_eq_true (by omega)]
          · rw [decide_eq_false hs, decide_eq_false (by omega)]
        have HTR : ∀ V, Below wr.heap.size wr V → Hid (Calls Tryz.prog 65 #[.agg #[.bool ny, .slice a2 (n - 1) (c1 - 1)]] V fun r w' => ∃ v', r = .returned v' ∧ BigV w' y' v' ∧ Below V.heap.size V w') := fun V h => by
          have := trim_any ny _ _ V (HTL.out V h) (digs_dg _) (by have := HN.out; omega)
          rw [hy'] at this
          exact this
        have HT1 : Hid (TlAt w K y (.slice (some ⟨bb, off, none⟩) n c1) wr) := hT1
        have hg0 : (1 : Int) ≤ (n : Int) := by omega
        clear hyq hy' hy0 hT1 HV
        go_wp2_with fail
        have hS : Below wr.heap.size wr wr.drew := (Below.refl _ wr).drew
        have duo : ∀ wx, Below wr.heap.size wr wx → wx.cell? ⟨K, 0, none⟩ = some (.bool ny) ∧ wx.cell? ⟨K, 1, none⟩ = some (.slice (some ⟨bb, off, none⟩) n c1) := fun wx hx => (hbig.below hx hbig.lt).duo
        have keyS : ∀ wx x, x = Value.slice (some ⟨bb, off, none⟩) n c1 → (((Instr.sliceAt 70 x (some (.int .i64 1)) none none).run Tryz.prog wx).andThen fun a w' => Result.ok (Next.value a) w') = Result.ok (Next.value (.slice a2 (n - 1) (c1 - 1))) wx := by
          rintro wx _ rfl; rw [hsl wx]; rfl
        refine wp_region_M (fun wx : World => Below wr.heap.size wr wx) (fun j => decide (j < 7)) 8 rfl (by kernel_rfl) ?_
        refine wpM_held 0 (v := ?_) rfl (by kernel_rfl) (by kernel_rfl) rfl (fun _ _ _ h => h) rfl (by intro wx hx; go_simp <;> rfl) hS ?_
        refine wpM_held 1 (v := .bool ny) rfl (by kernel_rfl) (by kernel_rfl) rfl (fun _ _ _ h => h) rfl (by intro wx hx; obtain ⟨x0, x1⟩ := duo wx hx; go_simp <;> rfl) hS ?_
        refine wpM_held 2 (v := ?_) rfl (by kernel_rfl) (by kernel_rfl) rfl (fun _ _ _ h => h) rfl (by intro wx hx; go_simp <;> rfl) hS ?_
        refine wpM_held 3 (v := .slice (some ⟨bb, off, none⟩) n c1) rfl (by kernel_rfl) (by kernel_rfl) rfl (fun _ _ _ h => h) rfl (by intro wx hx; obtain ⟨x0, x1⟩ := duo wx hx; go_simp <;> rfl) hS ?_
        refine wpM_held 4 (v := .slice a2 (n - 1) (c1 - 1)) rfl (by kernel_rfl) (by kernel_rfl) rfl (fun _ _ _ h => h) rfl (by intro wx hx; simp [execOp, Act.eval]; exact keyS wx _ rfl) hS ?_
        refine wpM_one 5 rfl (by kernel_rfl) rfl ?_
        go_wp2_with fail
        refine ⟨fun _ => hS, ?_⟩
        refine wpM_one 6 rfl (by kernel_rfl) rfl ?_
        go_wp2_with fail
        refine Calls.mono (HTR _ hS).out ?_
        rintro _ wb ⟨v2, rfl, hV2, b2⟩
        obtain ⟨s2, rfl, hD2⟩ := hV2
        obtain ⟨_, a6, c6, rfl, _, _⟩ := id hD2
        have hW3 : Below wr.heap.size wr wb := hS.trans (b2.mono hS.size)
        clear b2 HTR hS
        unfold bv
        rw [HNY2.out]
        rw [HY2.out.2.2.1] at hD2
        rw [HY2.out.2.2.1]
        go_wp2_with fail
        refine ⟨fun _ => hW3, ?_⟩
        have p2 := hbig.below hW3 hbig.lt
        obtain ⟨y0, y1⟩ := p2.duo
        have zf := p2.frozen
        have hT2 := HT1.out.put rfl hK hW3 hD2 ny HNY2.out
        refine wpM_one 7 rfl (by kernel_rfl) rfl ?_
        go_wp2_with fail
        refine ⟨fun h => by simp at h, ?_⟩
        refine wpM_done (by kernel_rfl) ?_
        go_wp2
        go_roundw
        case rel => exact ⟨y', f + 1, a6, n - 1, c6, by go_num, hT2, HY2, by omega, hf3, by omega⟩
        case measure => simp [intOf]; omega
      · have gd : ((d : Int) == 0) = false := by simp only [beq_eq_false_iff_ne]; omega
        have HYD : Hid (y.natAbs % 10 ≠ 0 ∧ tell y f = tell z e) := ⟨by rw [HD9.out]; exact h0, HY.out.2.1⟩
        have HY0 : Hid (y ≠ 0) := hy0
        have HNN : Hid ((digs y.natAbs).length = n) := HY.out.2.2.1
        have HT1 : Hid (TlAt w K y (.slice (some ⟨bb, off, none⟩) n c1) wr) := hT1
        clear h0 HY HD9 HTL HN hsl hT1 hy0
        go_wp2
        clear d0 d1 hc0 hbig gd
        go_loopw [5] (fun v5 wx => ∃ (k : Nat) (a : Option Addr) (n c : Nat), v5 = .int .i64 (f - (k : Int)) ∧ Hid (TlAt w K (y * 10 ^ k) (.slice a n c) wx) ∧ Hid ((digs (y * 10 ^ k).natAbs).length = n ∧ (k = 0 ∨ 18 ≤ f - (k : Int))) ∧ n ≤ 500 ∧ -2000 ≤ f - (k : Int) ∧ (k : Int) ≤ 6000) (fun v5 _ => (intOf v5 + 600).toNat)
        case atStart => exact ⟨0, _, n, c1, by simp, by show TlAt _ _ _ _ _; simpa using HT1.out, by show _ ∧ _; exact ⟨by simpa using HNN.out, .inl rfl⟩, hn200, by simpa using hf1, by omega⟩
        case round =>
          obtain ⟨k, a5, n5, c5, rfl, HT5, HN5, hn5, hk1, hk2⟩ := hrel
          clear HT1 HNN
          obtain ⟨x, hx⟩ : ∃ x, y * 10 ^ k = x := ⟨_, rfl⟩
          rw [hx] at HT5 HN5
          obtain ⟨nx, HNX⟩ : ∃ nx, Hid (decide (x < 0) = nx) := ⟨_, rfl⟩
          obtain ⟨g, hg⟩ : ∃ g, f - (k : Int) = g := ⟨_, rfl⟩
          have hbig := HT5.out.big
          rw [HNX.out] at hbig
          obtain ⟨d0, d1⟩ := hbig.duo
          have hres := HT5.out.res
          obtain ⟨e0, e1⟩ := hres.duo
          have hlK := hbig.lt
          have hlR := hres.lt
          have ff := hres.frozen
          have HG : Hid (f - (k : Int) = g) := hg
          have HX : Hid (y * 10 ^ k = x) := hx
          have hgu : g ≤ 4000 := by omega
          rw [hg] at hk1 ⊢
          clear hx hg
          by_cases hc : 18 < g
          · by_cases hn30 : n5 < 30
            · have g2 : (n5 : Int) < 30 := by omega
              have HSH : ∀ V, Below wr.heap.size wr V → Hid (Calls Tryz.prog 62 #[.agg #[.bool nx, .slice a5 n5 c5], .int .i64 1] V fun r w' => ∃ v', r = .returned v' ∧ BigV w' (x * 10 ^ 1) v' ∧ Below V.heap.size V w') := fun V h => by
                have := shift_any x (bv (decide (x < 0)) (.slice a5 n5 c5)) 1 V ⟨_, rfl, HT5.out.dg.below h⟩ (by omega) (by rw [HN5.out.1]; omega)
                rw [HNX.out] at this
                exact this
              have hx1 : y * 10 ^ (k + 1) = x * 10 ^ 1 := by rw [← HX.out, Int.pow_succ, Int.pow_succ, Int.pow_zero, Int.one_mul, Int.mul_assoc]
              have HX1 : Hid (y * 10 ^ (k + 1) = x * 10 ^ 1) := hx1
              obtain ⟨n6, hn6e⟩ : ∃ n6, (digs (x * 10 ^ 1).natAbs).length = n6 := ⟨_, rfl⟩
              have HN6 : Hid ((digs (x * 10 ^ 1).natAbs).length = n6) := hn6e
              clear hn6e
              have hn6 : n6 ≤ 500 := by
                rw [← HN6.out]
                refine Nat.le_trans (digs_len _ 31 ?_) (by omega)
                have h1 := HN5.out.1
                have h2 : x.natAbs < 10 ^ 30 := by
                  have := dval_lt (digs_dg x.natAbs)
                  rw [dval_digs, h1] at this
                  have h3 : (10 : Nat) ^ n5 ≤ 10 ^ 30 := Nat.pow_le_pow_right (by decide) (by omega)
                  have h4 : (x.natAbs : Int) < ((10 ^ n5 : Nat) : Int) := by rw [Int.natCast_pow]; exact this
                  omega
                rw [Int.natAbs_mul]
                have : ((10 : Int) ^ 1).natAbs = 10 := rfl
                rw [this, Nat.pow_succ]
                omega
              obtain ⟨nz, hnz⟩ : ∃ nz, decide (x * 10 ^ 1 < 0) = nz := ⟨_, rfl⟩
              have HNZ : Hid (decide (x * 10 ^ 1 < 0) = nz) := hnz
              clear hnz
              clear hx1 hn30 HV e0 e1 ff
              go_wp2_with fail
              refine Calls.mono (HSH _ (Below.refl _ _)).out ?_
              rintro _ wb ⟨v2, rfl, hV2, b2⟩
              obtain ⟨s2, rfl, hD2⟩ := hV2
              obtain ⟨_, a6, c6, rfl, _, _⟩ := id hD2
              unfold bv
              rw [HNZ.out]
              rw [HN6.out] at hD2
              rw [HN6.out]
              have p2 := hbig.below b2 hbig.lt
              clear d0 d1
              obtain ⟨y0, y1⟩ := p2.duo
              have zf := p2.frozen
              have hlb := p2.lt
              have hT6 := HT5.out.put rfl hK b2 hD2 nz HNZ.out
              have HT6 : Hid (TlAt w K (y * 10 ^ (k + 1)) (.slice a6 n6 c6) ((wb.setCell ⟨K, 0, none⟩ (.bool nz)).setCell ⟨K, 1, none⟩ (.slice a6 n6 c6))) := by show TlAt _ _ _ _ _; rw [HX1.out]; exact hT6
              have HN7 : Hid ((digs (y * 10 ^ (k + 1)).natAbs).length = n6 ∧ (k + 1 = 0 ∨ 18 ≤ f - ((k + 1 : Nat) : Int))) := by
                show _ ∧ _
                rw [HX1.out]
                exact ⟨HN6.out, .inr (by have := HG.out; omega)⟩
              have HG2 : Hid (f - ((k + 1 : Nat) : Int) = g - 1) := by show _ = _; have := HG.out; omega
              clear b2 hT6 HSH HT5 p2
              go_wp2
              go_roundw
              case rel => exact ⟨k + 1, a6, n6, c6, by rw [HG2.out], HT6, HN7, hn6, by rw [HG2.out]; omega, by have := HG.out; omega⟩
              case measure => simp [intOf]; omega
            · have g2 : decide ((n5 : Int) < 30) = false := decide_eq_false (by omega)
              have g3 : decide (n5 < 30) = false := decide_eq_false hn30
              have HMA : Hid (tell y f = none) := tell_many y f k HYD.out.1 (by have := HG.out; omega) (by rw [HX.out, HN5.out.1]; omega)
              have HVN : Hid (v = .tuple #[.agg #[.int .i64 0, .int .i64 0], .int .i64 30]) := by
                show _ = _
                rw [HV.out, ← HYD.out.2, HMA.out]; rfl
              have hZe := Row.set2 hres (.int .i64 0) (.int .i64 0)
              have hBe := below_set (below_set HT5.out.below (B := w.heap.size + 1) 0 (.int .i64 0) (by omega)) (B := w.heap.size + 1) 1 (.int .i64 0) (by omega)
              clear HV HT5
              go_wp2
              exact bodyPost_ret (ret_two rfl (g := w.heap.size + 1) rfl rfl (load23 hZe rfl)) rfl ⟨by rw [HVN.out]; rfl, hBe⟩
          · have g1 : decide (18 < g) = false := decide_eq_false hc
            have hfin := tell_fin y f k HYD.out.1 HN5.out.2 (by have := HG.out; omega)
            rw [HX.out, HG.out] at hfin
            have HFI : Hid (tell y f = if fitsB x = true ∧ -18 ≤ g then some (x, g) else none) := hfin
            clear hfin
            by_cases hlow : g < -18
            · have HMA : Hid (tell y f = none) := by show _ = _; rw [HFI.out, if_neg (by omega)]
              have HVN : Hid (v = .tuple #[.agg #[.int .i64 0, .int .i64 0], .int .i64 30]) := by
                show _ = _
                rw [HV.out, ← HYD.out.2, HMA.out]; rfl
              have hZe := Row.set2 hres (.int .i64 0) (.int .i64 0)
              have hBe := below_set (below_set HT5.out.below (B := w.heap.size + 1) 0 (.int .i64 0) (by omega)) (B := w.heap.size + 1) 1 (.int .i64 0) (by omega)
              clear HV HT5
              go_wp2
              exact bodyPost_ret (ret_two rfl (g := w.heap.size + 1) rfl rfl (load23 hZe rfl)) rfl ⟨by rw [HVN.out]; rfl, hBe⟩
            · have g2 : decide (g < -18) = false := decide_eq_false hlow
              have HFT : Hid (Calls Tryz.prog 67 #[.agg #[.bool nx, .slice a5 n5 c5]] wr fun r w' => r = .returned (.bool (fitsB x)) ∧ Below wr.heap.size wr w') := by
                have := fits_any x (bv (decide (x < 0)) (.slice a5 n5 c5)) wr ⟨_, rfl, HT5.out.dg⟩ (by rw [HN5.out.1]; omega)
                rw [HNX.out] at this
                exact this
              obtain ⟨fb, HFB⟩ : ∃ fb, Hid (fitsB x = fb) := ⟨_, rfl⟩
              rw [HFB.out] at HFT
              go_wp2_with fail
              refine Calls.mono HFT.out ?_
              rintro _ wb ⟨rfl, b2⟩
              have HT6 : Hid (TlAt w K x (.slice a5 n5 c5) wb) := HT5.out.mono b2
              have hres := HT6.out.res
              have hbig := HT6.out.big
              rw [HNX.out] at hbig
              clear d0 d1 e0 e1 ff hlR hlK b2 HFT HT5
              obtain ⟨d0, d1⟩ := hbig.duo
              obtain ⟨e0, e1⟩ := hres.duo
              have ff := hres.frozen
              have hlR := hres.lt
              cases fb
              · have HMA : Hid (tell y f = none) := by show _ = _; rw [HFI.out, if_neg (by rw [HFB.out]; simp)]
                have HVN : Hid (v = .tuple #[.agg #[.int .i64 0, .int .i64 0], .int .i64 30]) := by
                  show _ = _
                  rw [HV.out, ← HYD.out.2, HMA.out]; rfl
                have hZe := Row.set2 hres (.int .i64 0) (.int .i64 0)
                have hBe := below_set (below_set HT6.out.below (B := w.heap.size + 1) 0 (.int .i64 0) (by omega)) (B := w.heap.size + 1) 1 (.int .i64 0) (by omega)
                clear HV HT6
                go_wp2
                exact bodyPost_ret (ret_two rfl (g := w.heap.size + 1) rfl rfl (load23 hZe rfl)) rfl ⟨by rw [HVN.out]; rfl, hBe⟩
              · have HVS : Hid (v = .tuple #[.agg #[.int .i64 x, .int .i64 g], .int .i64 0]) := by
                  show _ = _
                  rw [HV.out, ← HYD.out.2, HFI.out, if_pos ⟨HFB.out, by omega⟩]; rfl
                have HXB : Hid (-9223372036854775808 ≤ x ∧ x ≤ 9223372036854775807) := by
                  have := HFB.out
                  unfold fitsB at this
                  simp at this
                  exact this
                clear HV HYD HFI HX HG
                cases nx
                · go_wp2
                  clear d0 d1 e0 e1 ff hlR hres hbig
                  go_loopw [6, 7] (fun v6 v7 wx => ∃ (m : Nat) (c : Int), m ≤ n5 ∧ v7 = .int .i64 ((m : Int) - 1) ∧ v6 = .int .i64 c ∧ Hid (c = bval false ((digs x.natAbs).drop m)) ∧ Hid (TlAt w K x (.slice a5 n5 c5) wx)) (fun _ v7 _ => (intOf v7 + 1).toNat)
                  case atStart => exact ⟨n5, 0, Nat.le_refl _, by first | rfl | go_num, rfl, by show _ = _; rw [List.drop_of_length_le (by rw [HN5.out.1]; exact Nat.le_refl _)]; rfl, HT6⟩
                  case round =>
                  obtain ⟨m, c7, hm, rfl, rfl, HC, HT8⟩ := hrel
                  clear HT6
                  have hres := HT8.out.res
                  have hbig := HT8.out.big
                  rw [HNX.out] at hbig
                  obtain ⟨d0, d1⟩ := hbig.duo
                  obtain ⟨e0, e1⟩ := hres.duo
                  have ff := hres.frozen
                  have hlR := hres.lt
                  by_cases hm0 : m = 0
                  · subst hm0
                    have hcx : c7 = x := by
                      have h1 := HC.out
                      rw [List.drop_zero] at h1
                      rw [h1]
                      have h2 := HNX.out
                      unfold bval
                      rw [dval_digs]
                      simp at h2 ⊢
                      omega
                    have HCX : Hid (c7 = x) := hcx
                    have hZe := Row.set2 hres (.int .i64 c7) (.int .i64 g)
                    have hBe := below_set (below_set HT8.out.below (B := w.heap.size + 1) 0 (.int .i64 c7) (by omega)) (B := w.heap.size + 1) 1 (.int .i64 g) (by omega)
                    clear HT8 hcx
                    go_wp2
                    exact bodyPost_ret (ret_two rfl (g := w.heap.size + 1) rfl rfl (load23 hZe rfl)) rfl ⟨by rw [HVS.out, ← HCX.out]; rfl, hBe⟩
                  · obtain ⟨i, hi⟩ : ∃ i, m = i + 1 := ⟨m - 1, by omega⟩
                    have hki : (m : Int) - 1 = (i : Int) := by omega
                    have HMI : Hid (m = i + 1) := hi
                    have hin : (i : Int) < (n5 : Int) := by omega
                    obtain ⟨b5, off5, hab, _, hci⟩ := HT8.out.dg.1.at i (by rw [HN5.out.1]; omega)
                    subst hab
                    obtain ⟨d7, hd7⟩ : ∃ d7, (digs x.natAbs)[i]?.getD 0 = d7 := ⟨_, rfl⟩
                    rw [hd7] at hci
                    have hdb := (digs_dg x.natAbs).get i
                    rw [hd7] at hdb
                    have hdr := dval_drop (digs x.natAbs) i (by rw [HN5.out.1]; omega)
                    rw [hd7, ← hi] at hdr
                    have hb1 := dval_drop_le (digs_dg x.natAbs) i
                    have hb2 := dval_drop_le (digs_dg x.natAbs) m
                    rw [dval_digs] at hb1 hb2
                    obtain ⟨c8, hc8⟩ : ∃ c8, c7 * 10 + d7 = c8 := ⟨_, rfl⟩
                    have hcv := HC.out
                    have HC8 : Hid (c8 = bval false ((digs x.natAbs).drop i)) := by
                      show _ = _
                      rw [← hc8, hcv]
                      unfold bval
                      simp
                      omega
                    have hc8v := HC8.out
                    have hxs := HNX.out
                    have hfx := HXB.out
                    have k1 : -9223372036854775808 ≤ c7 * 10 := by unfold bval at hcv hc8v; simp at hcv hc8v hxs; omega
                    have k2 : c7 * 10 ≤ 9223372036854775807 := by unfold bval at hcv hc8v; simp at hcv hc8v hxs; omega
                    have k3 : -9223372036854775808 ≤ c8 := by unfold bval at hcv hc8v; simp at hcv hc8v hxs; omega
                    have k4 : c8 ≤ 9223372036854775807 := by unfold bval at hcv hc8v; simp at hcv hc8v hxs; omega
                    clear hi hm0 hdr hb1 hb2 hdb hd7 hcv hc8v hxs hfx hres
                    go_wp2
                    go_roundw
                    case rel => exact ⟨i, c8, by omega, by go_num, by first | rfl | go_num, HC8, HT8⟩
                    case measure => have := HMI.out; simp [intOf]; omega
                · go_wp2
                  clear d0 d1 e0 e1 ff hlR hres hbig
                  go_loopw [6, 7] (fun v6 v7 wx => ∃ (m : Nat) (c : Int), m ≤ n5 ∧ v7 = .int .i64 ((m : Int) - 1) ∧ v6 = .int .i64 c ∧ Hid (c = bval true ((digs x.natAbs).drop m)) ∧ Hid (TlAt w K x (.slice a5 n5 c5) wx)) (fun _ v7 _ => (intOf v7 + 1).toNat)
                  case atStart => exact ⟨n5, 0, Nat.le_refl _, by first | rfl | go_num, rfl, by show _ = _; rw [List.drop_of_length_le (by rw [HN5.out.1]; exact Nat.le_refl _)]; rfl, HT6⟩
                  case round =>
                  obtain ⟨m, c7, hm, rfl, rfl, HC, HT8⟩ := hrel
                  clear HT6
                  have hres := HT8.out.res
                  have hbig := HT8.out.big
                  rw [HNX.out] at hbig
                  obtain ⟨d0, d1⟩ := hbig.duo
                  obtain ⟨e0, e1⟩ := hres.duo
                  have ff := hres.frozen
                  have hlR := hres.lt
                  by_cases hm0 : m = 0
                  · subst hm0
                    have hcx : c7 = x := by
                      have h1 := HC.out
                      rw [List.drop_zero] at h1
                      rw [h1]
                      have h2 := HNX.out
                      unfold bval
                      rw [dval_digs]
                      simp at h2 ⊢
                      omega
                    have HCX : Hid (c7 = x) := hcx
                    have hZe := Row.set2 hres (.int .i64 c7) (.int .i64 g)
                    have hBe := below_set (below_set HT8.out.below (B := w.heap.size + 1) 0 (.int .i64 c7) (by omega)) (B := w.heap.size + 1) 1 (.int .i64 g) (by omega)
                    clear HT8 hcx
                    go_wp2
                    exact bodyPost_ret (ret_two rfl (g := w.heap.size + 1) rfl rfl (load23 hZe rfl)) rfl ⟨by rw [HVS.out, ← HCX.out]; rfl, hBe⟩
                  · obtain ⟨i, hi⟩ : ∃ i, m = i + 1 := ⟨m - 1, by omega⟩
                    have hki : (m : Int) - 1 = (i : Int) := by omega
                    have HMI : Hid (m = i + 1) := hi
                    have hin : (i : Int) < (n5 : Int) := by omega
                    obtain ⟨b5, off5, hab, _, hci⟩ := HT8.out.dg.1.at i (by rw [HN5.out.1]; omega)
                    subst hab
                    obtain ⟨d7, hd7⟩ : ∃ d7, (digs x.natAbs)[i]?.getD 0 = d7 := ⟨_, rfl⟩
                    rw [hd7] at hci
                    have hdb := (digs_dg x.natAbs).get i
                    rw [hd7] at hdb
                    have hdr := dval_drop (digs x.natAbs) i (by rw [HN5.out.1]; omega)
                    rw [hd7, ← hi] at hdr
                    have hb1 := dval_drop_le (digs_dg x.natAbs) i
                    have hb2 := dval_drop_le (digs_dg x.natAbs) m
                    rw [dval_digs] at hb1 hb2
                    obtain ⟨c8, hc8⟩ : ∃ c8, c7 * 10 - d7 = c8 := ⟨_, rfl⟩
                    have hcv := HC.out
                    have HC8 : Hid (c8 = bval true ((digs x.natAbs).drop i)) := by
                      show _ = _
                      rw [← hc8, hcv]
                      unfold bval
                      simp
                      omega
                    have hc8v := HC8.out
                    have hxs := HNX.out
                    have hfx := HXB.out
                    have k1 : -9223372036854775808 ≤ c7 * 10 := by unfold bval at hcv hc8v; simp at hcv hc8v hxs; omega
                    have k2 : c7 * 10 ≤ 9223372036854775807 := by unfold bval at hcv hc8v; simp at hcv hc8v hxs; omega
                    have k3 : -9223372036854775808 ≤ c8 := by unfold bval at hcv hc8v; simp at hcv hc8v hxs; omega
                    have k4 : c8 ≤ 9223372036854775807 := by unfold bval at hcv hc8v; simp at hcv hc8v hxs; omega
                    clear hi hm0 hdr hb1 hb2 hdb hd7 hcv hc8v hxs hfx hres
                    go_wp2
                    go_roundw
                    case rel => exact ⟨i, c8, by omega, by go_num, by first | rfl | go_num, HC8, HT8⟩
                    case measure => have := HMI.out; simp [intOf]; omega
end Go.Proofs.YtoncpcdepemlcaaGreatDoor
/- Tell of any number; num: a Dec's number. -/
namespace Go.Proofs.YtoncpcdepemlcaaGreatDoor
open Go.RowKit

set_option maxRecDepth 100000 in
set_option maxHeartbeats 1000000 in
theorem tell_nought (z e : Int) (sv : Value) (w : World) (hz : z = 0) (hD : DgAt w sv (digs z.natAbs)) :
    Calls Tryz.prog 32 #[.agg #[.bool (decide (z < 0)), sv, .int .i64 e]] w fun r w' => r = .returned (.tuple #[.agg #[.int .i64 0, .int .i64 0], .int .i64 0]) ∧ Below w.heap.size w w' := by
  obtain ⟨ng, HNG⟩ : ∃ ng, Hid (decide (z < 0) = ng) := ⟨_, rfl⟩
  rw [HNG.out]
  obtain ⟨_, a, c, rfl, _, _⟩ := id hD
  obtain ⟨L, HL⟩ : ∃ L, Hid ((digs z.natAbs).length = L) := ⟨_, rfl⟩
  obtain rfl : L = 0 := by rw [← HL.out, hz]; exact congrArg List.length digs_zero
  rw [HL.out] at hD
  rw [HL.out]
  have HD : Hid (DgAt w (.slice a 0 c) (digs z.natAbs)) := hD
  clear hD
  go_enter Tryz.func32, Tryz.ntmps32
  go_wp2_with fail
  have r0 := (Row.new w 75 #[.bool ng, .slice a 0 c, .int .i64 e]).alloc (.cells #[.int .i64 0, .int .i64 0] 38)
  have r1 := Row.new1 w (.cells #[.bool ng, .slice a 0 c, .int .i64 e] 75) 38 #[.int .i64 0, .int .i64 0]
  have hB := ((Below.refl _ w).alloc (Nat.le_refl _) (.cells #[.bool ng, .slice a 0 c, .int .i64 e] 75)).alloc (by simp) (.cells #[.int .i64 0, .int .i64 0] 38)
  have hWs : ((w.alloc (.cells #[.bool ng, .slice a 0 c, .int .i64 e] 75)).alloc (.cells #[.int .i64 0, .int .i64 0] 38)).heap.size = w.heap.size + 2 := by simp
  generalize (w.alloc (.cells #[.bool ng, .slice a 0 c, .int .i64 e] 75)).alloc (.cells #[.int .i64 0, .int .i64 0] 38) = W at *
  have HWs : Hid (W.heap.size = w.heap.size + 2) := hWs
  clear hWs
  have hS : Below W.heap.size W W.drew := (Below.refl _ W).drew
  have tri : ∀ wx, Below W.heap.size W wx → wx.cell? ⟨w.heap.size, 0, none⟩ = some (.bool ng) ∧ wx.cell? ⟨w.heap.size, 1, none⟩ = some (.slice a 0 c) ∧ wx.cell? ⟨w.heap.size, 2, none⟩ = some (.int .i64 e) := fun wx hx =>
    ⟨(r0.below hx r0.lt).cell rfl, (r0.below hx r0.lt).cell rfl, (r0.below hx r0.lt).cell rfl⟩
  refine wp_region_M (fun wx : World => Below W.heap.size W wx) (fun j => decide (j < 7)) 7 rfl (by kernel_rfl) ?_
  refine wpM_held 0 (v := ?_) rfl (by kernel_rfl) (by kernel_rfl) rfl (fun _ _ _ h => h) rfl (by intro wx hx; go_simp <;> rfl) hS ?_
  refine wpM_held 1 (v := .agg #[.bool ng, .slice a 0 c]) rfl (by kernel_rfl) (by kernel_rfl) rfl (fun _ _ _ h => h) rfl (by intro wx hx; obtain ⟨x0, x1, x2⟩ := tri wx hx; go_simp <;> rfl) hS ?_
  refine wpM_held 2 (v := ?_) rfl (by kernel_rfl) (by kernel_rfl) rfl (fun _ _ _ h => h) rfl (by intro wx hx; go_simp <;> rfl) hS ?_
  refine wpM_held 3 (v := .int .i64 e) rfl (by kernel_rfl) (by kernel_rfl) rfl (fun _ _ _ h => h) rfl (by intro wx hx; obtain ⟨x0, x1, x2⟩ := tri wx hx; go_simp <;> rfl) hS ?_
  refine wpM_one 4 rfl (by kernel_rfl) rfl ?_
  go_wp2_with fail
  have hW1 : ∀ o, Below W.heap.size W (W.alloc o).drew := fun o => ((Below.refl _ W).alloc (Nat.le_refl _) o).drew
  refine ⟨fun _ => hW1 _, ?_⟩
  refine wpM_one 5 rfl (by kernel_rfl) rfl ?_
  go_wp2_with fail
  refine ⟨fun _ => hW1 _, ?_⟩
  refine wpM_one 6 rfl (by kernel_rfl) rfl ?_
  go_wp2_with fail
  refine ⟨fun _ => hW1 _, ?_⟩
  refine wpM_done (by kernel_rfl) ?_
  have hT : TlAt w W.heap.size z (.slice a 0 c) (W.alloc (.cells #[.bool ng, .slice a 0 c] 72)).drew := by
    have hx := hW1 (.cells #[.bool ng, .slice a 0 c] 72)
    refine ⟨r1.below hx r1.lt, ?_, (HD.out.below hB).below hx, hB.trans (hx.mono (by have := HWs.out; omega))⟩
    rw [HNG.out]
    exact Row.new W 72 _
  generalize (W.alloc (.cells #[.bool ng, .slice a 0 c] 72)).drew = W2 at *
  clear r0 r1 hB hS tri HD hW1
  have hK : w.heap.size + 1 < W.heap.size := by have := HWs.out; omega
  clear HWs
  generalize W.heap.size = K at *
  clear W
  have hbig := hT.big
  rw [HNG.out] at hbig
  obtain ⟨d0, d1⟩ := hbig.duo
  obtain ⟨f0, f1⟩ := hT.res.duo
  have ff := hT.res.frozen
  have hlt1 := hT.res.lt
  have hZe := Row.set2 hT.res (.int .i64 0) (.int .i64 0)
  have hBe := below_set (below_set hT.below (B := w.heap.size + 1) 0 (.int .i64 0) (by omega)) (B := w.heap.size + 1) 1 (.int .i64 0) (by omega)
  go_wp2
  exact bodyPost_ret (ret_two rfl (g := w.heap.size + 1) rfl rfl (load23 hZe rfl)) rfl ⟨rfl, hBe⟩
/-- A Num: a whole number times ten to the e. -/
def NumV (w : World) (z e : Int) (v : Value) : Prop := ∃ sv, v = .agg #[.bool (decide (z < 0)), sv, .int .i64 e] ∧ DgAt w sv (digs z.natAbs)
theorem told_any' (z e : Int) (v : Value) (w : World) (hV : NumV w z e v) (he1 : -2000 ≤ e) (he2 : e ≤ 2000) (hl : (digs z.natAbs).length ≤ 500) :
    Calls Tryz.prog 32 #[v] w fun r w' => r = .returned (decV (tell z e)) ∧ Below w.heap.size w w' := by
  obtain ⟨sv, rfl, hD⟩ := hV
  by_cases hz : z = 0
  · rw [show tell z e = some (0, 0) by rw [hz]; simp [tell, tellW_zero]]
    exact tell_nought z e sv w hz hD
  · exact tell_head z e sv w hz hD _ rfl he1 he2 hl
section
variable {P : Program} {ops : Array Oper} {Q : Exit → Act → World → Prop} {S : World → Prop} {E : Nat → Bool}
/-- An operation whose guard says no, held beside others. -/
theorem wpM_skiph (i : Nat) {o : Oper} {listed listed' : Array Bool} {fuel : Nat} {a : Act} {w : World} (ho : ops[i]? = some o) (hs : Region.noSelect ops = true)
    (hB : (closedB .any ops listed && Region.free .any ops listed i && (Region.ready .any ops listed).contains i && lateB .any ops E listed i) = true) (hL : listed.setIfInBounds i true = listed')
    (hQ : ∀ c a w, Q (.panic c) (a.put o.dst undef) w → Q (.panic c) a w) (hw : Region.wanted o (yielded ops a.tmps) = false) (hS : S w)
    (h : wpM P ops Q S E fuel listed' (a.put o.dst undef) w) : wpM P ops Q S E (fuel + 1) listed a w := by
  subst hL
  simp only [Bool.and_eq_true] at hB
  refine wpX_first ho (Region.noSelect_spec hs) hQ _ _ a w (closed_of_B hB.1.1.1) ?_ (Region.free_spec ho hB.1.1.2) (by simpa using hB.1.2) (.inr ⟨hw, rfl⟩) hS h
  intro j oj hj hl hE hji
  have := List.all_eq_true.1 hB.2 j (List.mem_range.2 (Array.getElem?_eq_some_iff.1 hj).1)
  simpa [hE, hl, hji] using this
end
theorem Tryz.zero45 : (Tryz.prog.info? 75).map (fun i => (i.zero, i.size)) = some (some (.agg #[.bool false, .slice none 0 0, .int .i64 0]), 3) := by kernel_rfl
theorem load45 {W : World} {B : Nat} {cs : Array Value} (h : Row W B 75 cs) (hs : cs.size = 3) : (loadVar 75 ⟨B, 0, none⟩).run Tryz.prog W = .ok (.agg cs) W :=
  run_loadVar_row _ _ 75 75 cs (0, 0) _ h Tryz.underlying75 rfl (by rw [hs]; exact (zero_of_info Tryz.zero45).2)
/-- A block below the digits is written. -/
theorem DgAt.off {W : World} {sv : Value} {ds : List Int} (h : DgAt W sv ds) {B : Nat} (hN : NewS (B + 1) sv) (i : Nat) (u : Value) : DgAt (W.setCell ⟨B, i, none⟩ u) sv ds := by
  refine ⟨?_, h.2⟩
  have hk := (Kept.refl (fun k => k ≠ B) W).setCell (p := ⟨B, i, none⟩) (by simp) u
  rcases h.1 with h0 | ⟨b, off, c, e, hb, hc⟩
  · exact .inl h0
  · by_cases h0 : ds = []
    · subst h0; exact .inl ⟨rfl, _, _, e⟩
    · have hl : 0 < ds.length := List.length_pos_iff.2 h0
      have hne : b ≠ B := by have := hN b off none ds.length c e hl; omega
      exact .inr ⟨b, off, c, e, Nat.lt_of_lt_of_le hb hk.size, fun j hj => (hk.cell (p := ⟨b, off + j, none⟩) hne).trans (hc j hj)⟩
end Go.Proofs.YtoncpcdepemlcaaGreatDoor
/- num: a Dec's number. -/
namespace Go.Proofs.YtoncpcdepemlcaaGreatDoor
open Go.RowKit

set_option maxRecDepth 100000 in
set_option maxHeartbeats 1000000 in
theorem num_any (c e : Int) (hc : I64 c) (w : World) : Calls Tryz.prog 59 #[.agg #[.int .i64 c, .int .i64 e]] w fun r w' => ∃ sv, r = .returned (.tuple #[.agg #[.bool (decide (c < 0)), sv, .int .i64 e], .bool (decide (-18 ≤ e ∧ e ≤ 18))]) ∧ DgAt w' sv (digs c.natAbs) ∧ NewS w.heap.size sv ∧ Below w.heap.size w w' := by
  have HO : ∀ W, Hid (Calls Tryz.prog 33 #[.int .i64 c] W fun r w' => ∃ v, r = .returned v ∧ BigV w' c v ∧ NewV W.heap.size v ∧ Below W.heap.size W w') := fun W => of_new c hc W
  obtain ⟨ok, HOK⟩ : ∃ ok, Hid (decide (-18 ≤ e ∧ e ≤ 18) = ok) := ⟨_, rfl⟩
  rw [HOK.out]
  have hcase : (decide (-18 ≤ e) = true ∧ Hid (decide (e ≤ 18) = ok)) ∨ (decide (-18 ≤ e) = false ∧ Hid (false = ok)) := by
    by_cases h : -18 ≤ e
    · exact .inl ⟨decide_eq_true h, by show _ = _; rw [← HOK.out]; simp [h]⟩
    · exact .inr ⟨decide_eq_false h, by show _ = _; rw [← HOK.out]; simp [h]⟩
  rcases hcase with ⟨g1, HO2⟩ | ⟨g1, HO2⟩
  · go_enter Tryz.func59, Tryz.ntmps59
    go_wp2_with fail
    have r0 := (Row.new w 38 #[.int .i64 c, .int .i64 e]).alloc (.cells #[.bool false, .slice none 0 0, .int .i64 0] 75)
    have r1 := Row.new1 w (.cells #[.int .i64 c, .int .i64 e] 38) 75 #[.bool false, .slice none 0 0, .int .i64 0]
    have hB := ((Below.refl _ w).alloc (Nat.le_refl _) (.cells #[.int .i64 c, .int .i64 e] 38)).alloc (by simp) (.cells #[.bool false, .slice none 0 0, .int .i64 0] 75)
    have hWs : w.heap.size + 2 ≤ ((w.alloc (.cells #[.int .i64 c, .int .i64 e] 38)).alloc (.cells #[.bool false, .slice none 0 0, .int .i64 0] 75)).heap.size := by simp
    generalize (w.alloc (.cells #[.int .i64 c, .int .i64 e] 38)).alloc (.cells #[.bool false, .slice none 0 0, .int .i64 0] 75) = W at *
    have hD0 : Below W.heap.size W W.drew := (Below.refl _ W).drew
    have hS : Row W.drew w.heap.size 38 #[.int .i64 c, .int .i64 e] := r0.below hD0 r0.lt
    refine wp_region_M (fun wx : World => Row wx w.heap.size 38 #[.int .i64 c, .int .i64 e]) (fun j => decide (j < 15)) 16 rfl (by kernel_rfl) ?_
    refine wpM_held 0 (v := ?_) rfl (by kernel_rfl) (by kernel_rfl) rfl (fun _ _ _ h => h) rfl (by intro wx hx; go_simp <;> rfl) hS ?_
    refine wpM_held 1 (v := .int .i64 c) rfl (by kernel_rfl) (by kernel_rfl) rfl (fun _ _ _ h => h) rfl (by intro wx hx; obtain ⟨x0, x1⟩ := hx.duo; go_simp <;> rfl) hS ?_
    refine wpM_held 3 (v := ?_) rfl (by kernel_rfl) (by kernel_rfl) rfl (fun _ _ _ h => h) rfl (by intro wx hx; go_simp <;> rfl) hS ?_
    refine wpM_held 4 (v := .int .i64 e) rfl (by kernel_rfl) (by kernel_rfl) rfl (fun _ _ _ h => h) rfl (by intro wx hx; obtain ⟨x0, x1⟩ := hx.duo; go_simp <;> rfl) hS ?_
    refine wpM_held 6 (v := ?_) rfl (by kernel_rfl) (by kernel_rfl) rfl (fun _ _ _ h => h) rfl (by intro wx hx; go_simp <;> rfl) hS ?_
    refine wpM_held 7 (v := .int .i64 e) rfl (by kernel_rfl) (by kernel_rfl) rfl (fun _ _ _ h => h) rfl (by intro wx hx; obtain ⟨x0, x1⟩ := hx.duo; go_simp <;> rfl) hS ?_
    refine wpM_held 8 (v := .bool true) rfl (by kernel_rfl) (by kernel_rfl) rfl (fun _ _ _ h => h) rfl (by intro wx hx; go_simp <;> rfl) hS ?_
    refine wpM_one 2 rfl (by kernel_rfl) rfl ?_
    go_wp2_with fail
    refine Calls.mono (HO _).out ?_
    rintro _ w1 ⟨v1, rfl, hV1, hN1, b1⟩
    obtain ⟨s1, rfl, hD1⟩ := hV1
    have hN1 := hN1.get
    obtain ⟨_, a6, c6, rfl, _, _⟩ := id hD1
    have hW1 : Below W.heap.size W w1 := hD0.trans (b1.mono hD0.size)
    have hS1 : Row w1 w.heap.size 38 #[.int .i64 c, .int .i64 e] := r0.below hW1 r0.lt
    clear b1 HO
    unfold bv
    obtain ⟨ng, hng⟩ : ∃ ng, decide (c < 0) = ng := ⟨_, rfl⟩
    have HNG : Hid (decide (c < 0) = ng) := hng
    rw [hng]
    clear hng
    obtain ⟨ln, hln⟩ : ∃ ln, (digs c.natAbs).length = ln := ⟨_, rfl⟩
    rw [hln] at hD1 hN1
    rw [hln]
    clear hln
    go_wp2_with fail
    refine ⟨fun _ => hS1, ?_⟩
    refine wpM_held 5 (v := .agg #[.bool ng, .slice a6 ln c6, .int .i64 e]) rfl (by kernel_rfl) (by kernel_rfl) rfl (fun _ _ _ h => h) rfl (by intro wx hx; go_simp <;> rfl) hS1 ?_
    refine wpM_held 9 (v := .bool true) rfl (by kernel_rfl) (by kernel_rfl) rfl (fun _ _ _ h => h) rfl (by intro wx hx; go_simp <;> rfl) hS1 ?_
    refine wpM_held 10 (v := ?_) rfl (by kernel_rfl) (by kernel_rfl) rfl (fun _ _ _ h => h) rfl (by intro wx hx; go_simp <;> rfl) hS1 ?_
    refine wpM_held 11 (v := .int .i64 e) rfl (by kernel_rfl) (by kernel_rfl) rfl (fun _ _ _ h => h) rfl (by intro wx hx; obtain ⟨x0, x1⟩ := hx.duo; go_simp <;> rfl) hS1 ?_
    refine wpM_held 12 (v := .bool (decide (e ≤ 18))) rfl (by kernel_rfl) (by kernel_rfl) rfl (fun _ _ _ h => h) rfl (by intro wx hx; go_simp <;> rfl) hS1 ?_
    refine wpM_held 13 (v := .bool (decide (e ≤ 18))) rfl (by kernel_rfl) (by kernel_rfl) rfl (fun _ _ _ h => h) rfl (by intro wx hx; go_simp <;> rfl) hS1 ?_
    have p2 := r1.below hW1 r1.lt
    have y0 := p2.cell (i := 0) (v := .bool false) rfl
    have y1 := p2.cell (i := 1) (v := .slice none 0 0) rfl
    have y2 := p2.cell (i := 2) (v := .int .i64 0) rfl
    have zf := p2.frozen
    have hBx := hB.trans (hW1.mono (by omega))
    have hNB : NewS (w.heap.size + 1 + 1) (.slice a6 ln c6) := hN1.mono (by have : W.heap.size ≤ W.drew.heap.size := Nat.le_refl _; omega)
    have hBe := below_set (below_set (below_set hBx (B := w.heap.size + 1) 0 (.bool ng) (by omega)) (B := w.heap.size + 1) 1 (.slice a6 ln c6) (by omega)) (B := w.heap.size + 1) 2 (.int .i64 e) (by omega)
    have hZe : Row (((w1.setCell ⟨w.heap.size + 1, 0, none⟩ (.bool ng)).setCell ⟨w.heap.size + 1, 1, none⟩ (.slice a6 ln c6)).setCell ⟨w.heap.size + 1, 2, none⟩ (.int .i64 e)) (w.heap.size + 1) 75 #[.bool ng, .slice a6 ln c6, .int .i64 e] := ((p2.set 0 (.bool ng)).set 1 (.slice a6 ln c6)).set 2 (.int .i64 e)
    have hSe : Row (((w1.setCell ⟨w.heap.size + 1, 0, none⟩ (.bool ng)).setCell ⟨w.heap.size + 1, 1, none⟩ (.slice a6 ln c6)).setCell ⟨w.heap.size + 1, 2, none⟩ (.int .i64 e)) w.heap.size 38 #[.int .i64 c, .int .i64 e] := ((hS1.off 0 (.bool ng) (by omega)).off 1 (.slice a6 ln c6) (by omega)).off 2 (.int .i64 e) (by omega)
    have hDe := ((hD1.off hNB 0 (.bool ng)).off hNB 1 (.slice a6 ln c6)).off hNB 2 (.int .i64 e)
    refine wpM_one 14 rfl (by kernel_rfl) rfl ?_
    go_wp2_with fail
    refine ⟨fun _ => hSe, ?_⟩
    refine wpM_one 15 rfl (by kernel_rfl) rfl ?_
    go_wp2_with fail
    refine ⟨fun h => by simp at h, ?_⟩
    refine wpM_done (by kernel_rfl) ?_
    go_wp2
    exact bodyPost_ret (ret_two rfl (g := w.heap.size + 1) rfl rfl (load45 hZe rfl)) rfl ⟨_, by rw [HNG.out, ← HO2.out]; rfl, hDe, hNB.mono (by omega), hBe⟩
  · go_enter Tryz.func59, Tryz.ntmps59
    go_wp2_with fail
    have r0 := (Row.new w 38 #[.int .i64 c, .int .i64 e]).alloc (.cells #[.bool false, .slice none 0 0, .int .i64 0] 75)
    have r1 := Row.new1 w (.cells #[.int .i64 c, .int .i64 e] 38) 75 #[.bool false, .slice none 0 0, .int .i64 0]
    have hB := ((Below.refl _ w).alloc (Nat.le_refl _) (.cells #[.int .i64 c, .int .i64 e] 38)).alloc (by simp) (.cells #[.bool false, .slice none 0 0, .int .i64 0] 75)
    have hWs : w.heap.size + 2 ≤ ((w.alloc (.cells #[.int .i64 c, .int .i64 e] 38)).alloc (.cells #[.bool false, .slice none 0 0, .int .i64 0] 75)).heap.size := by simp
    generalize (w.alloc (.cells #[.int .i64 c, .int .i64 e] 38)).alloc (.cells #[.bool false, .slice none 0 0, .int .i64 0] 75) = W at *
    have hD0 : Below W.heap.size W W.drew := (Below.refl _ W).drew
    have hS : Row W.drew w.heap.size 38 #[.int .i64 c, .int .i64 e] := r0.below hD0 r0.lt
    refine wp_region_M (fun wx : World => Row wx w.heap.size 38 #[.int .i64 c, .int .i64 e]) (fun j => decide (j < 15)) 16 rfl (by kernel_rfl) ?_
    refine wpM_held 0 (v := ?_) rfl (by kernel_rfl) (by kernel_rfl) rfl (fun _ _ _ h => h) rfl (by intro wx hx; go_simp <;> rfl) hS ?_
    refine wpM_held 1 (v := .int .i64 c) rfl (by kernel_rfl) (by kernel_rfl) rfl (fun _ _ _ h => h) rfl (by intro wx hx; obtain ⟨x0, x1⟩ := hx.duo; go_simp <;> rfl) hS ?_
    refine wpM_held 3 (v := ?_) rfl (by kernel_rfl) (by kernel_rfl) rfl (fun _ _ _ h => h) rfl (by intro wx hx; go_simp <;> rfl) hS ?_
    refine wpM_held 4 (v := .int .i64 e) rfl (by kernel_rfl) (by kernel_rfl) rfl (fun _ _ _ h => h) rfl (by intro wx hx; obtain ⟨x0, x1⟩ := hx.duo; go_simp <;> rfl) hS ?_
    refine wpM_held 6 (v := ?_) rfl (by kernel_rfl) (by kernel_rfl) rfl (fun _ _ _ h => h) rfl (by intro wx hx; go_simp <;> rfl) hS ?_
    refine wpM_held 7 (v := .int .i64 e) rfl (by kernel_rfl) (by kernel_rfl) rfl (fun _ _ _ h => h) rfl (by intro wx hx; obtain ⟨x0, x1⟩ := hx.duo; go_simp <;> rfl) hS ?_
    refine wpM_held 8 (v := .bool false) rfl (by kernel_rfl) (by kernel_rfl) rfl (fun _ _ _ h => h) rfl (by intro wx hx; go_simp <;> rfl) hS ?_
    refine wpM_one 2 rfl (by kernel_rfl) rfl ?_
    go_wp2_with fail
    refine Calls.mono (HO _).out ?_
    rintro _ w1 ⟨v1, rfl, hV1, hN1, b1⟩
    obtain ⟨s1, rfl, hD1⟩ := hV1
    have hN1 := hN1.get
    obtain ⟨_, a6, c6, rfl, _, _⟩ := id hD1
    have hW1 : Below W.heap.size W w1 := hD0.trans (b1.mono hD0.size)
    have hS1 : Row w1 w.heap.size 38 #[.int .i64 c, .int .i64 e] := r0.below hW1 r0.lt
    clear b1 HO
    unfold bv
    obtain ⟨ng, hng⟩ : ∃ ng, decide (c < 0) = ng := ⟨_, rfl⟩
    have HNG : Hid (decide (c < 0) = ng) := hng
    rw [hng]
    clear hng
    obtain ⟨ln, hln⟩ : ∃ ln, (digs c.natAbs).length = ln := ⟨_, rfl⟩
    rw [hln] at hD1 hN1
    rw [hln]
    clear hln
    go_wp2_with fail
    refine ⟨fun _ => hS1, ?_⟩
    refine wpM_held 5 (v := .agg #[.bool ng, .slice a6 ln c6, .int .i64 e]) rfl (by kernel_rfl) (by kernel_rfl) rfl (fun _ _ _ h => h) rfl (by intro wx hx; go_simp <;> rfl) hS1 ?_
    refine wpM_held 9 (v := .bool false) rfl (by kernel_rfl) (by kernel_rfl) rfl (fun _ _ _ h => h) rfl (by intro wx hx; go_simp <;> rfl) hS1 ?_
    refine wpM_skiph 10 rfl (by kernel_rfl) (by kernel_rfl) rfl (fun _ _ _ h => h) rfl hS1 ?_
    refine wpM_skiph 11 rfl (by kernel_rfl) (by kernel_rfl) rfl (fun _ _ _ h => h) rfl hS1 ?_
    refine wpM_skiph 12 rfl (by kernel_rfl) (by kernel_rfl) rfl (fun _ _ _ h => h) rfl hS1 ?_
    refine wpM_held 13 (v := .bool false) rfl (by kernel_rfl) (by kernel_rfl) rfl (fun _ _ _ h => h) rfl (by intro wx hx; go_simp <;> rfl) hS1 ?_
    have p2 := r1.below hW1 r1.lt
    have y0 := p2.cell (i := 0) (v := .bool false) rfl
    have y1 := p2.cell (i := 1) (v := .slice none 0 0) rfl
    have y2 := p2.cell (i := 2) (v := .int .i64 0) rfl
    have zf := p2.frozen
    have hBx := hB.trans (hW1.mono (by omega))
    have hNB : NewS (w.heap.size + 1 + 1) (.slice a6 ln c6) := hN1.mono (by have : W.heap.size ≤ W.drew.heap.size := Nat.le_refl _; omega)
    have hBe := below_set (below_set (below_set hBx (B := w.heap.size + 1) 0 (.bool ng) (by omega)) (B := w.heap.size + 1) 1 (.slice a6 ln c6) (by omega)) (B := w.heap.size + 1) 2 (.int .i64 e) (by omega)
    have hZe : Row (((w1.setCell ⟨w.heap.size + 1, 0, none⟩ (.bool ng)).setCell ⟨w.heap.size + 1, 1, none⟩ (.slice a6 ln c6)).setCell ⟨w.heap.size + 1, 2, none⟩ (.int .i64 e)) (w.heap.size + 1) 75 #[.bool ng, .slice a6 ln c6, .int .i64 e] := ((p2.set 0 (.bool ng)).set 1 (.slice a6 ln c6)).set 2 (.int .i64 e)
    have hSe : Row (((w1.setCell ⟨w.heap.size + 1, 0, none⟩ (.bool ng)).setCell ⟨w.heap.size + 1, 1, none⟩ (.slice a6 ln c6)).setCell ⟨w.heap.size + 1, 2, none⟩ (.int .i64 e)) w.heap.size 38 #[.int .i64 c, .int .i64 e] := ((hS1.off 0 (.bool ng) (by omega)).off 1 (.slice a6 ln c6) (by omega)).off 2 (.int .i64 e) (by omega)
    have hDe := ((hD1.off hNB 0 (.bool ng)).off hNB 1 (.slice a6 ln c6)).off hNB 2 (.int .i64 e)
    refine wpM_one 14 rfl (by kernel_rfl) rfl ?_
    go_wp2_with fail
    refine ⟨fun _ => hSe, ?_⟩
    refine wpM_one 15 rfl (by kernel_rfl) rfl ?_
    go_wp2_with fail
    refine ⟨fun h => by simp at h, ?_⟩
    refine wpM_done (by kernel_rfl) ?_
    go_wp2
    exact bodyPost_ret (ret_two rfl (g := w.heap.size + 1) rfl rfl (load45 hZe rfl)) rfl ⟨_, by rw [HNG.out, ← HO2.out]; rfl, hDe, hNB.mono (by omega), hBe⟩
end Go.Proofs.YtoncpcdepemlcaaGreatDoor
/- two: two Decs with one exponent. -/
namespace Go.Proofs.YtoncpcdepemlcaaGreatDoor
open Go.RowKit

/-- Digits that don't lie in the block K. -/
def NeS (K : Nat) (sv : Value) : Prop := ∀ b off sp n c, sv = .slice (some ⟨b, off, sp⟩) n c → 0 < n → b ≠ K
theorem NewS.ne {lo K : Nat} {sv : Value} (h : NewS lo sv) (hK : K < lo) : NeS K sv := fun b off sp n c e hn => by have := h b off sp n c e hn; omega
theorem DgAt.ne {W : World} {sv : Value} {ds : List Int} (h : DgAt W sv ds) {K : Nat} (hK : W.heap.size ≤ K) : NeS K sv := by
  intro b off sp n c e hn
  rcases h.1 with ⟨rfl, a, c', e'⟩ | ⟨b', off', c', e', hb, _⟩
  · rw [e'] at e
    simp only [Value.slice.injEq] at e
    omega
  · rw [e'] at e
    simp only [Value.slice.injEq, Option.some.injEq, Addr.mk.injEq] at e
    obtain ⟨⟨rfl, _⟩, _⟩ := e
    have : b' < W.heap.size := hb
    omega
theorem DgAt.offN {W : World} {sv : Value} {ds : List Int} (h : DgAt W sv ds) {B : Nat} (hN : NeS B sv) (i : Nat) (u : Value) : DgAt (W.setCell ⟨B, i, none⟩ u) sv ds := by
  refine ⟨?_, h.2⟩
  have hk := (Kept.refl (fun k => k ≠ B) W).setCell (p := ⟨B, i, none⟩) (by simp) u
  rcases h.1 with h0 | ⟨b, off, c, e, hb, hc⟩
  · exact .inl h0
  · by_cases h0 : ds = []
    · subst h0; exact .inl ⟨rfl, _, _, e⟩
    · have hl : 0 < ds.length := List.length_pos_iff.2 h0
      exact .inr ⟨b, off, c, e, Nat.lt_of_lt_of_le hb hk.size, fun j hj => (hk.cell (p := ⟨b, off + j, none⟩) (hN b off none ds.length c e hl)).trans (hc j hj)⟩
def numC (z e : Int) (sv : Value) : Array Value := #[.bool (decide (z < 0)), sv, .int .i64 e]
def zeroC : Array Value := #[.bool false, .slice none 0 0, .int .i64 0]
/-- The boxes of two. -/
structure TwAt (w : World) (X Y : Nat) (x e y f : Int) (sx sy : Value) (wr : World) : Prop where
  res1 : Row wr (w.heap.size + 2) 75 zeroC
  res2 : Row wr (w.heap.size + 3) 75 zeroC
  bx : Row wr X 75 (numC x e sx)
  byy : Row wr Y 75 (numC y f sy)
  dx : DgAt wr sx (digs x.natAbs)
  dy : DgAt wr sy (digs y.natAbs)
  nx : ∀ K, (K = w.heap.size + 2 ∨ K = w.heap.size + 3 ∨ K = X ∨ K = Y) → NeS K sx
  ny : ∀ K, (K = w.heap.size + 2 ∨ K = w.heap.size + 3 ∨ K = X ∨ K = Y) → NeS K sy
  below : Below w.heap.size w wr
theorem TwAt.mono {w wr wx : World} {X Y : Nat} {x e y f : Int} {sx sy : Value} (h : TwAt w X Y x e y f sx sy wr) (hb : Below wr.heap.size wr wx) : TwAt w X Y x e y f sx sy wx :=
  ⟨h.res1.below hb h.res1.lt, h.res2.below hb h.res2.lt, h.bx.below hb h.bx.lt, h.byy.below hb h.byy.lt, h.dx.below hb, h.dy.below hb, h.nx, h.ny, h.below.trans (hb.mono h.below.size)⟩
theorem Row.set3N {W : World} {B : Nat} {t : TypeId} {a b c : Value} (h : Row W B t #[a, b, c]) (a' b' c' : Value) :
    Row (((W.setCell ⟨B, 0, none⟩ a').setCell ⟨B, 1, none⟩ b').setCell ⟨B, 2, none⟩ c') B t #[a', b', c'] := ((h.set 0 a').set 1 b').set 2 c'
def set3 (W : World) (B : Nat) (a b c : Value) : World := ((W.setCell ⟨B, 0, none⟩ a).setCell ⟨B, 1, none⟩ b).setCell ⟨B, 2, none⟩ c
theorem TwAt.putX {w wr wx : World} {X Y : Nat} {x e y f x' e' : Int} {sx sy sx' : Value} (h : TwAt w X Y x e y f sx sy wr) (hXY : X ≠ Y) (hX : w.heap.size + 3 < X) (hb : Below wr.heap.size wr wx) (hD : DgAt wx sx' (digs x'.natAbs)) (hN : NewS wr.heap.size sx') (ng : Bool) (hng : decide (x' < 0) = ng) :
    TwAt w X Y x' e' y f sx' sy (set3 wx X (.bool ng) sx' (.int .i64 e')) := by
  have h2 := h.mono hb
  have l1 := h.res1.lt
  have l2 := h.res2.lt
  have l3 := h.bx.lt
  have l4 := h.byy.lt
  have hNe : ∀ K, (K = w.heap.size + 2 ∨ K = w.heap.size + 3 ∨ K = X ∨ K = Y) → NeS K sx' := fun K hK => hN.ne (by omega)
  unfold set3
  refine ⟨((h2.res1.off 0 _ (by omega)).off 1 _ (by omega)).off 2 _ (by omega), ((h2.res2.off 0 _ (by omega)).off 1 _ (by omega)).off 2 _ (by omega), ?_, ((h2.byy.off 0 _ (by omega)).off 1 _ (by omega)).off 2 _ (by omega),
    ((hD.offN (hNe X (by omega)) 0 _).offN (hNe X (by omega)) 1 _).offN (hNe X (by omega)) 2 _, ((h2.dy.offN (h2.ny X (by omega)) 0 _).offN (h2.ny X (by omega)) 1 _).offN (h2.ny X (by omega)) 2 _, hNe, h2.ny,
    below_set (below_set (below_set h2.below 0 _ (by omega)) 1 _ (by omega)) 2 _ (by omega)⟩
  unfold numC
  rw [hng]
  exact Row.set3N h2.bx _ _ _
theorem TwAt.swap {w wr : World} {X Y : Nat} {x e y f : Int} {sx sy : Value} (h : TwAt w X Y x e y f sx sy wr) : TwAt w Y X y f x e sy sx wr :=
  ⟨h.res1, h.res2, h.byy, h.bx, h.dy, h.dx, fun K hK => h.ny K (by omega), fun K hK => h.nx K (by omega), h.below⟩
end Go.Proofs.YtoncpcdepemlcaaGreatDoor
/- two: two Decs with one exponent: the first loop. -/
namespace Go.Proofs.YtoncpcdepemlcaaGreatDoor
open Go.RowKit

theorem ret_cct {fn : Func} {p q u : Tmp} {ty tz : TypeId} (h : fn.results = #[.cell p ty, .cell q tz, .tmp u]) {tmps : Array Value} {w : World} {g g' : Nat} {v v' x : Value}
    (hp : tmps.getD p undef = .pointer (some ⟨g, 0, none⟩)) (hq : tmps.getD q undef = .pointer (some ⟨g', 0, none⟩)) (hx : tmps.getD u undef = x) (hl : (loadVar ty ⟨g, 0, none⟩).run Tryz.prog w = .ok v w) (hl' : (loadVar tz ⟨g', 0, none⟩).run Tryz.prog w = .ok v' w) : (results fn tmps).run Tryz.prog w = .ok (.tuple #[v, v', x]) w := by
  have hp' : tmps[p]?.getD undef = .pointer (some ⟨g, 0, none⟩) := by simpa using hp
  have hq' : tmps[q]?.getD undef = .pointer (some ⟨g', 0, none⟩) := by simpa using hq
  have hx' : tmps[u]?.getD undef = x := by simpa using hx
  simp only [results, h]
  simp [Sem.run_bind, Result.andThen, hp', hq', hx', asAddr, hl, hl']
theorem Row.tri {W : World} {B : Nat} {t : TypeId} {a b c : Value} (h : Row W B t #[a, b, c]) : W.cell? ⟨B, 0, none⟩ = some a ∧ W.cell? ⟨B, 1, none⟩ = some b ∧ W.cell? ⟨B, 2, none⟩ = some c := ⟨h.cell rfl, h.cell rfl, h.cell rfl⟩
theorem wrap_sub1 (g : Int) (h1 : -1000 ≤ g) (h2 : g ≤ 1000) : IntKind.i64.wrap (g - 1) = g - 1 := IntWalk.i64_in _ ⟨by omega, by omega⟩
theorem shifted_len (c : Int) (hc : I64 c) (k : Nat) : (digs (c * 10 ^ k).natAbs).length ≤ 19 + k := by
  refine digs_len _ _ ?_
  rw [Int.natAbs_mul, Int.natAbs_pow, Nat.pow_add]
  refine Nat.mul_lt_mul_of_pos_right ?_ (Nat.pow_pos (by decide))
  unfold I64 at hc
  have : (10 : Nat) ^ 19 = 10000000000000000000 := by decide
  omega
set_option maxRecDepth 100000 in
set_option maxHeartbeats 2000000 in
theorem two_any (c e d f : Int) (hc : I64 c) (hd : I64 d) (w : World) (he1 : -18 ≤ e) (he2 : e ≤ 18) (hf1 : -18 ≤ f) (hf2 : f ≤ 18) : Calls Tryz.prog 68 #[.agg #[.int .i64 c, .int .i64 e], .agg #[.int .i64 d, .int .i64 f]] w fun r w' => ∃ (i j : Nat) (sx sy : Value), r = .returned (.tuple #[.agg (numC (c * 10 ^ i) (e - (i : Int)) sx), .agg (numC (d * 10 ^ j) (e - (i : Int)) sy), .bool true]) ∧ e - (i : Int) = f - (j : Int) ∧ -18 ≤ e - (i : Int) ∧ i ≤ 36 ∧ j ≤ 36 ∧ DgAt w' sx (digs (c * 10 ^ i).natAbs) ∧ DgAt w' sy (digs (d * 10 ^ j).natAbs) ∧ Below w.heap.size w w' := by
  have HC : ∀ W, Hid (Calls Tryz.prog 59 #[.agg #[.int .i64 c, .int .i64 e]] W _) := fun W => num_any c e hc W
  have HD : ∀ W, Hid (Calls Tryz.prog 59 #[.agg #[.int .i64 d, .int .i64 f]] W _) := fun W => num_any d f hd W
  rw [decide_eq_true (show -18 ≤ e ∧ e ≤ 18 from ⟨he1, he2⟩)] at HC
  rw [decide_eq_true (show -18 ≤ f ∧ f ≤ 18 from ⟨hf1, hf2⟩)] at HD
  go_enter Tryz.func68, Tryz.ntmps68
  go_wp2_with fail
  have r1 := ((Row.new1 w (.cells #[.int .i64 c, .int .i64 e] 38) 38 #[.int .i64 d, .int .i64 f]).alloc (.cells zeroC 75)).alloc (.cells zeroC 75)
  have r2 := (Row.new ((w.alloc (.cells #[.int .i64 c, .int .i64 e] 38)).alloc (.cells #[.int .i64 d, .int .i64 f] 38)) 75 zeroC).alloc (.cells zeroC 75)
  have r3 := Row.new (((w.alloc (.cells #[.int .i64 c, .int .i64 e] 38)).alloc (.cells #[.int .i64 d, .int .i64 f] 38)).alloc (.cells zeroC 75)) 75 zeroC
  have hB := ((((Below.refl _ w).alloc (Nat.le_refl _) (.cells #[.int .i64 c, .int .i64 e] 38)).alloc (by simp) (.cells #[.int .i64 d, .int .i64 f] 38)).alloc (by simp; omega) (.cells zeroC 75)).alloc (by simp; omega) (.cells zeroC 75)
  have hWs : w.heap.size + 4 ≤ ((((w.alloc (.cells #[.int .i64 c, .int .i64 e] 38)).alloc (.cells #[.int .i64 d, .int .i64 f] 38)).alloc (.cells zeroC 75)).alloc (.cells zeroC 75)).heap.size := by simp
  simp only [World.size_alloc] at r2 r3
  show Calls Tryz.prog 59 #[.agg #[.int .i64 c, .int .i64 e]] ((((w.alloc (.cells #[.int .i64 c, .int .i64 e] 38)).alloc (.cells #[.int .i64 d, .int .i64 f] 38)).alloc (.cells zeroC 75)).alloc (.cells zeroC 75)) _
  generalize (((w.alloc (.cells #[.int .i64 c, .int .i64 e] 38)).alloc (.cells #[.int .i64 d, .int .i64 f] 38)).alloc (.cells zeroC 75)).alloc (.cells zeroC 75) = W at *
  refine Calls.mono (HC W).out ?_
  rintro _ w1 ⟨s1, rfl, hD1, hN1, b1⟩
  obtain ⟨_, a1, c1, rfl, _, _⟩ := id hD1
  obtain ⟨nc, HNC⟩ : ∃ nc, Hid (decide (c < 0) = nc) := ⟨_, rfl⟩
  rw [HNC.out]
  obtain ⟨lc, HLC⟩ : ∃ lc, Hid ((digs c.natAbs).length = lc) := ⟨_, rfl⟩
  rw [HLC.out] at hD1 hN1
  rw [HLC.out]
  clear HC
  have q1 := (r1.below b1 r1.lt).alloc (.cells #[.bool nc, .slice a1 lc c1, .int .i64 e] 75)
  obtain ⟨x0, x1⟩ := q1.duo
  go_wp2_with fail
  have r4 := Row.new w1 75 #[.bool nc, .slice a1 lc c1, .int .i64 e]
  have b2 : Below W.heap.size W (w1.alloc (.cells #[.bool nc, .slice a1 lc c1, .int .i64 e] 75)) := b1.alloc b1.size _
  have hX : W.heap.size ≤ w1.heap.size := b1.size
  have b21 : Below w1.heap.size w1 (w1.alloc (.cells #[.bool nc, .slice a1 lc c1, .int .i64 e] 75)) := (Below.refl _ w1).alloc (Nat.le_refl _) _
  have hD2 := hD1.below b21
  have hM1 : ∀ K, W.heap.size ≤ K → w1.heap.size ≤ K → NeS K (.slice a1 lc c1) := fun K _ h => hD1.ne h
  have hM2 : ∀ K, K < W.heap.size → NeS K (.slice a1 lc c1) := fun K h => hN1.ne h
  have hsz : (w1.alloc (.cells #[.bool nc, .slice a1 lc c1, .int .i64 e] 75)).heap.size = w1.heap.size + 1 := by simp
  generalize w1.alloc (.cells #[.bool nc, .slice a1 lc c1, .int .i64 e] 75) = W2 at *
  generalize w1.heap.size = X at *
  clear q1 x0 x1 hD1 hN1 b1 b21
  refine Calls.mono (HD W2).out ?_
  rintro _ w2 ⟨s2, rfl, hD3, hN3, b3⟩
  obtain ⟨_, a2, c2, rfl, _, _⟩ := id hD3
  obtain ⟨nd, HND⟩ : ∃ nd, Hid (decide (d < 0) = nd) := ⟨_, rfl⟩
  rw [HND.out]
  obtain ⟨ld, HLD⟩ : ∃ ld, Hid ((digs d.natAbs).length = ld) := ⟨_, rfl⟩
  rw [HLD.out] at hD3 hN3
  rw [HLD.out]
  clear HD
  have r5 := Row.new w2 75 #[.bool nd, .slice a2 ld c2, .int .i64 f]
  have b4 : Below W2.heap.size W2 (w2.alloc (.cells #[.bool nd, .slice a2 ld c2, .int .i64 f] 75)) := b3.alloc b3.size _
  have b5 : Below w2.heap.size w2 (w2.alloc (.cells #[.bool nd, .slice a2 ld c2, .int .i64 f] 75)) := (Below.refl _ w2).alloc (Nat.le_refl _) _
  have hT : TwAt w X w2.heap.size c e d f (.slice a1 lc c1) (.slice a2 ld c2) (w2.alloc (.cells #[.bool nd, .slice a2 ld c2, .int .i64 f] 75)) := by
    have s4 := b3.size
    refine ⟨(r2.below b2 r2.lt).below b4 (r2.below b2 r2.lt).lt, (r3.below b2 r3.lt).below b4 (r3.below b2 r3.lt).lt, ?_, ?_, hD2.below b4, hD3.below b5, ?_, ?_, (hB.trans (b2.mono (by omega))).trans (b4.mono (by omega))⟩
    · unfold numC; rw [HNC.out]; exact r4.below b4 r4.lt
    · unfold numC; rw [HND.out]; exact r5
    · intro K hK
      by_cases h : K < W.heap.size
      · exact hM2 K h
      · exact hM1 K (by omega) (by omega)
    · intro K hK
      by_cases h : K < W2.heap.size
      · exact hN3.ne h
      · exact hD3.ne (by omega)
  have hXY : X < w2.heap.size := by have := b3.size; omega
  have hX3 : w.heap.size + 3 < X := by omega
  have hY3 : w.heap.size + 3 < w2.heap.size := by omega
  clear r1 r2 r3 hB hWs r4 b2 hX hD2 hM1 hM2 hsz hD3 hN3 b3 r5 b4 b5
  generalize hW5 : w2.alloc (.cells #[.bool nd, .slice a2 ld c2, .int .i64 f] 75) = W5 at *
  generalize hYg : w2.heap.size = Y at *
  go_wp2_with fail
  clear HNC HND
  go_loopw [] (fun wr => ∃ (k : Nat) (a : Option Addr) (n cc : Nat), TwAt w X Y (c * 10 ^ k) (e - (k : Int)) d f (.slice a n cc) (.slice a2 ld c2) wr ∧ Hid ((digs (c * 10 ^ k).natAbs).length = n) ∧ (k = 0 ∨ f ≤ e - (k : Int)) ∧ k ≤ 36) (fun wr => (intOf ((wr.cell? ⟨X, 2, none⟩).getD undef) + 100).toNat)
  case atStart => exact ⟨0, a1, lc, c1, by simpa using hT, by show _ = _; simpa using HLC.out, .inl rfl, by omega⟩
  case round =>
    obtain ⟨k, a, n, cc, hT1, HN, hk, hk36⟩ := hrel
    have hlen := shifted_len c hc k
    rw [HN.out] at hlen
    obtain ⟨x, HX⟩ : ∃ x, Hid (c * 10 ^ k = x) := ⟨_, rfl⟩
    obtain ⟨g, HG⟩ : ∃ g, Hid (e - (k : Int) = g) := ⟨_, rfl⟩
    rw [HX.out, HG.out] at hT1
    rw [HX.out] at HN
    obtain ⟨nx, HNX⟩ : ∃ nx, Hid (decide (x < 0) = nx) := ⟨_, rfl⟩
    obtain ⟨ny, HNY⟩ : ∃ ny, Hid (decide (d < 0) = ny) := ⟨_, rfl⟩
    have hbx := hT1.bx
    have hby := hT1.byy
    unfold numC at hbx hby
    rw [HNX.out] at hbx
    rw [HNY.out] at hby
    obtain ⟨d0, d1, d2⟩ := hbx.tri
    obtain ⟨f0, f1, f2⟩ := hby.tri
    have hTd := hT1.dx
    clear hT HLC
    have hgr : -18 ≤ g + 36 ∧ g ≤ 18 := by have := HG.out; omega
    by_cases hgf : f < g
    · have ggf : decide (f < g) = true := decide_eq_true hgf
      have HSH : ∀ V, Below wr.heap.size wr V → Hid (Calls Tryz.prog 62 #[.agg #[.bool nx, .slice a n cc], .int .i64 ((1 : Nat) : Int)] V fun r w' => ∃ v', r = .returned v' ∧ BigV w' (x * 10 ^ 1) v' ∧ NewV V.heap.size v' ∧ Below V.heap.size V w') := fun V h => by
        have := shift_new x (bv nx (.slice a n cc)) 1 V ⟨_, by rw [← HNX.out], hTd.below h⟩ (by decide) (by rw [HN.out]; omega)
        exact this
      have HT1 : Hid (TwAt w X Y x g d f (.slice a n cc) (.slice a2 ld c2) wr) := hT1
      clear hT1
      have fw1 : IntKind.i64.wrap (g - 1) = g - 1 := wrap_sub1 g (by omega) (by omega)
      go_wp2_with fail
      have hS : Below wr.heap.size wr wr.drew := (Below.refl _ wr).drew
      have tri : ∀ wx, Below wr.heap.size wr wx → wx.cell? ⟨X, 0, none⟩ = some (.bool nx) ∧ wx.cell? ⟨X, 1, none⟩ = some (.slice a n cc) ∧ wx.cell? ⟨X, 2, none⟩ = some (.int .i64 g) := fun wx hx => (hbx.below hx hbx.lt).tri
      refine wp_region_M (fun wx : World => Below wr.heap.size wr wx) (fun j => decide (j < 7)) 8 rfl (by kernel_rfl) ?_
      refine wpM_held 0 (v := ?_) rfl (by kernel_rfl) (by kernel_rfl) rfl (fun _ _ _ h => h) rfl (by intro wx hx; go_simp <;> rfl) hS ?_
      refine wpM_held 1 (v := .agg #[.bool nx, .slice a n cc]) rfl (by kernel_rfl) (by kernel_rfl) rfl (fun _ _ _ h => h) rfl (by intro wx hx; obtain ⟨x0, x1, x2⟩ := tri wx hx; go_simp <;> rfl) hS ?_
      refine wpM_held 3 (v := ?_) rfl (by kernel_rfl) (by kernel_rfl) rfl (fun _ _ _ h => h) rfl (by intro wx hx; go_simp <;> rfl) hS ?_
      refine wpM_held 4 (v := .int .i64 g) rfl (by kernel_rfl) (by kernel_rfl) rfl (fun _ _ _ h => h) rfl (by intro wx hx; obtain ⟨x0, x1, x2⟩ := tri wx hx; go_simp <;> rfl) hS ?_
      refine wpM_held 5 (v := .int .i64 (g - 1)) rfl (by kernel_rfl) (by kernel_rfl) rfl (fun _ _ _ h => h) rfl (by intro wx hx; go_simp <;> first | rfl | exact fw1) hS ?_
      refine wpM_one 2 rfl (by kernel_rfl) rfl ?_
      go_wp2_with fail
      refine Calls.mono (HSH _ hS).out ?_
      rintro _ wb ⟨v2, rfl, hV2, hN2, b2⟩
      obtain ⟨s2, rfl, hD2⟩ := hV2
      have hN2 := hN2.get
      obtain ⟨_, a6, c6, rfl, _, _⟩ := id hD2
      have hW3 : Below wr.heap.size wr wb := hS.trans (b2.mono hS.size)
      have hN3 := hN2.mono (show wr.heap.size ≤ wr.drew.heap.size from Nat.le_refl _)
      clear b2 HSH hS hN2
      unfold bv
      have HNX2 : Hid (decide (x * 10 ^ 1 < 0) = nx) := by
        show _ = _
        rw [← HNX.out, Int.pow_succ, Int.pow_zero, Int.one_mul]
        by_cases hs : x < 0
        · rw [decide_eq_true hs, decide_eq_true (by omega)]
        · rw [decide_eq_false hs, decide_eq_false (by omega)]
      rw [HNX2.out]
      have HT2 : Hid (TwAt w X Y (x * 10 ^ 1) (g - 1) d f (.slice a6 (digs (x * 10 ^ 1).natAbs).length c6) (.slice a2 ld c2) (set3 wb X (.bool nx) (.slice a6 (digs (x * 10 ^ 1).natAbs).length c6) (.int .i64 (g - 1)))) := HT1.out.putX (by omega) (by omega) hW3 hD2 hN3 nx HNX2.out
      obtain ⟨n2, HN2⟩ : ∃ n2 : Nat, Hid ((digs (x * 10 ^ 1 : Int).natAbs).length = n2) := by exact ⟨(digs (x * 10 ^ 1 : Int).natAbs).length, (rfl : (digs (x * 10 ^ 1 : Int).natAbs).length = (digs (x * 10 ^ 1 : Int).natAbs).length)⟩
      rw [HN2.out] at HT2 hD2 hN3
      rw [HN2.out]
      go_wp2_with fail
      refine ⟨fun _ => hW3, ?_⟩
      refine wpM_one 6 rfl (by kernel_rfl) rfl ?_
      go_wp2_with fail
      refine ⟨fun _ => hW3, ?_⟩
      have p2 := hbx.below hW3 hbx.lt
      obtain ⟨y0, y1, y2⟩ := p2.tri
      have zf := p2.frozen
      refine wpM_one 7 rfl (by kernel_rfl) rfl ?_
      go_wp2_with fail
      refine ⟨fun h => by simp at h, ?_⟩
      refine wpM_done (by kernel_rfl) ?_
      go_wp2
      go_roundw
      case rel => 
                have h2 := HT2.out
                refine ⟨k + 1, a6, n2, c6, ?_, ?_, ?_, ?_⟩
                · rw [show c * 10 ^ (k + 1) = x * 10 ^ 1 by rw [← HX.out, Int.pow_succ, Int.pow_succ, Int.pow_zero, Int.one_mul, Int.mul_assoc], show e - ((k + 1 : Nat) : Int) = g - 1 by have := HG.out; omega]
                  exact h2
                · show _ = _
                  rw [show c * 10 ^ (k + 1) = x * 10 ^ 1 by rw [← HX.out, Int.pow_succ, Int.pow_succ, Int.pow_zero, Int.one_mul, Int.mul_assoc]]
                  exact HN2.out
                · right; have := HG.out; omega
                · have := HG.out; omega
      case measure => 
                have h2 := HT2.out.bx
                unfold numC at h2
                have h3 := h2.tri.2.2
                unfold set3 at h3
                rw [h3, d2]
                simp only [Option.getD_some, intOf]
                omega
    · have ggf : decide (f < g) = false := decide_eq_false hgf
      clear hTd
      go_wp2_with fail
      clear d0 d1 d2 f0 f1 f2 hbx hby ggf HNX HNY hgr
      have hT3 := hT1.swap
      clear hT1
      have HC3 : Hid (c * 10 ^ k = x ∧ e - (k : Int) = g) := ⟨HX.out, HG.out⟩
      clear HX
      have HL3 : Hid ((digs x.natAbs).length = n) := HN
      clear HN hlen
      go_loopw [] (fun wr => ∃ (j : Nat) (a3 : Option Addr) (n3 c3 : Nat), TwAt w Y X (d * 10 ^ j) (f - (j : Int)) x g (.slice a3 n3 c3) (.slice a n cc) wr ∧ Hid ((digs (d * 10 ^ j).natAbs).length = n3) ∧ (j = 0 ∨ g ≤ f - (j : Int)) ∧ j ≤ 36) (fun wr => (intOf ((wr.cell? ⟨Y, 2, none⟩).getD undef) + 100).toNat)
      case atStart => exact ⟨0, a2, ld, c2, by simpa using hT3, by show _ = _; simpa using HLD.out, .inl rfl, by omega⟩
      case round =>
        obtain ⟨j, a3, n3, c3, hT1, HM, hj, hj36⟩ := hrel
        have hlen := shifted_len d hd j
        rw [HM.out] at hlen
        obtain ⟨z, HZ⟩ : ∃ z, Hid (d * 10 ^ j = z) := ⟨_, rfl⟩
        obtain ⟨t, HT⟩ : ∃ t, Hid (f - (j : Int) = t) := ⟨_, rfl⟩
        rw [HZ.out, HT.out] at hT1
        rw [HZ.out] at HM
        obtain ⟨nz, HNZ⟩ : ∃ nz, Hid (decide (z < 0) = nz) := ⟨_, rfl⟩
        obtain ⟨nx, HNX⟩ : ∃ nx, Hid (decide (x < 0) = nx) := ⟨_, rfl⟩
        have hbz := hT1.bx
        have hbx := hT1.byy
        unfold numC at hbz hbx
        rw [HNZ.out] at hbz
        rw [HNX.out] at hbx
        obtain ⟨d0, d1, d2⟩ := hbz.tri
        obtain ⟨f0, f1, f2⟩ := hbx.tri
        have hTz := hT1.dx
        clear hT3 HLD
        have hgt : -18 ≤ t + 36 ∧ t ≤ 18 := by have := HT.out; omega
        have hgg : -18 ≤ g + 36 ∧ g ≤ 18 := by have := HG.out; omega
        by_cases hgf2 : g < t
        · have ggf : decide (g < t) = true := decide_eq_true hgf2
          have HSH : ∀ V, Below wr.heap.size wr V → Hid (Calls Tryz.prog 62 #[.agg #[.bool nz, .slice a3 n3 c3], .int .i64 ((1 : Nat) : Int)] V fun r w' => ∃ v', r = .returned v' ∧ BigV w' (z * 10 ^ 1) v' ∧ NewV V.heap.size v' ∧ Below V.heap.size V w') := fun V h => by
            have := shift_new z (bv nz (.slice a3 n3 c3)) 1 V ⟨_, by rw [← HNZ.out], hTz.below h⟩ (by decide) (by rw [HM.out]; omega)
            exact this
          have HT1 : Hid (TwAt w Y X z t x g (.slice a3 n3 c3) (.slice a n cc) wr) := hT1
          clear hT1
          have fw1 : IntKind.i64.wrap (t - 1) = t - 1 := wrap_sub1 t (by omega) (by omega)
          go_wp2_with fail
          have hS : Below wr.heap.size wr wr.drew := (Below.refl _ wr).drew
          have tri : ∀ wx, Below wr.heap.size wr wx → wx.cell? ⟨Y, 0, none⟩ = some (.bool nz) ∧ wx.cell? ⟨Y, 1, none⟩ = some (.slice a3 n3 c3) ∧ wx.cell? ⟨Y, 2, none⟩ = some (.int .i64 t) := fun wx hx => (hbz.below hx hbz.lt).tri
          refine wp_region_M (fun wx : World => Below wr.heap.size wr wx) (fun j => decide (j < 7)) 8 rfl (by kernel_rfl) ?_
          refine wpM_held 0 (v := ?_) rfl (by kernel_rfl) (by kernel_rfl) rfl (fun _ _ _ h => h) rfl (by intro wx hx; go_simp <;> rfl) hS ?_
          refine wpM_held 1 (v := .agg #[.bool nz, .slice a3 n3 c3]) rfl (by kernel_rfl) (by kernel_rfl) rfl (fun _ _ _ h => h) rfl (by intro wx hx; obtain ⟨x0, x1, x2⟩ := tri wx hx; go_simp <;> rfl) hS ?_
          refine wpM_held 3 (v := ?_) rfl (by kernel_rfl) (by kernel_rfl) rfl (fun _ _ _ h => h) rfl (by intro wx hx; go_simp <;> rfl) hS ?_
          refine wpM_held 4 (v := .int .i64 t) rfl (by kernel_rfl) (by kernel_rfl) rfl (fun _ _ _ h => h) rfl (by intro wx hx; obtain ⟨x0, x1, x2⟩ := tri wx hx; go_simp <;> rfl) hS ?_
          refine wpM_held 5 (v := .int .i64 (t - 1)) rfl (by kernel_rfl) (by kernel_rfl) rfl (fun _ _ _ h => h) rfl (by intro wx hx; go_simp <;> first | rfl | exact fw1) hS ?_
          refine wpM_one 2 rfl (by kernel_rfl) rfl ?_
          go_wp2_with fail
          refine Calls.mono (HSH _ hS).out ?_
          rintro _ wb ⟨v2, rfl, hV2, hN2, b2⟩
          obtain ⟨s2, rfl, hD2⟩ := hV2
          have hN2 := hN2.get
          obtain ⟨_, a6, c6, rfl, _, _⟩ := id hD2
          have hW3 : Below wr.heap.size wr wb := hS.trans (b2.mono hS.size)
          have hN3 := hN2.mono (show wr.heap.size ≤ wr.drew.heap.size from Nat.le_refl _)
          clear b2 HSH hS hN2
          unfold bv
          have HNZ2 : Hid (decide (z * 10 ^ 1 < 0) = nz) := by
            show _ = _
            rw [← HNZ.out, Int.pow_succ, Int.pow_zero, Int.one_mul]
            by_cases hs : z < 0
            · rw [decide_eq_true hs, decide_eq_true (by omega)]
            · rw [decide_eq_false hs, decide_eq_false (by omega)]
          rw [HNZ2.out]
          have HT2 : Hid (TwAt w Y X (z * 10 ^ 1) (t - 1) x g (.slice a6 (digs (z * 10 ^ 1).natAbs).length c6) (.slice a n cc) (set3 wb Y (.bool nz) (.slice a6 (digs (z * 10 ^ 1).natAbs).length c6) (.int .i64 (t - 1)))) := HT1.out.putX (by omega) (by omega) hW3 hD2 hN3 nz HNZ2.out
          obtain ⟨m2, HM2⟩ : ∃ m2 : Nat, Hid ((digs (z * 10 ^ 1 : Int).natAbs).length = m2) := by exact ⟨(digs (z * 10 ^ 1 : Int).natAbs).length, (rfl : (digs (z * 10 ^ 1 : Int).natAbs).length = (digs (z * 10 ^ 1 : Int).natAbs).length)⟩
          rw [HM2.out] at HT2 hD2 hN3
          rw [HM2.out]
          go_wp2_with fail
          refine ⟨fun _ => hW3, ?_⟩
          refine wpM_one 6 rfl (by kernel_rfl) rfl ?_
          go_wp2_with fail
          refine ⟨fun _ => hW3, ?_⟩
          have p2 := hbz.below hW3 hbz.lt
          obtain ⟨y0, y1, y2⟩ := p2.tri
          have zf := p2.frozen
          refine wpM_one 7 rfl (by kernel_rfl) rfl ?_
          go_wp2_with fail
          refine ⟨fun h => by simp at h, ?_⟩
          refine wpM_done (by kernel_rfl) ?_
          go_wp2
          go_roundw
          case rel => 
                        have h2 := HT2.out
                        refine ⟨j + 1, a6, m2, c6, ?_, ?_, ?_, ?_⟩
                        · rw [show d * 10 ^ (j + 1) = z * 10 ^ 1 by rw [← HZ.out, Int.pow_succ, Int.pow_succ, Int.pow_zero, Int.one_mul, Int.mul_assoc], show f - ((j + 1 : Nat) : Int) = t - 1 by have := HT.out; omega]
                          exact h2
                        · show _ = _
                          rw [show d * 10 ^ (j + 1) = z * 10 ^ 1 by rw [← HZ.out, Int.pow_succ, Int.pow_succ, Int.pow_zero, Int.one_mul, Int.mul_assoc]]
                          exact HM2.out
                        · right; have := HT.out; omega
                        · have := HT.out; have := HC3.out.2; omega
          case measure => 
                        have h2 := HT2.out.bx
                        unfold numC at h2
                        have h3 := h2.tri.2.2
                        unfold set3 at h3
                        rw [h3, d2]
                        simp only [Option.getD_some, intOf]
                        omega
        · have ggf : decide (g < t) = false := decide_eq_false hgf2
          clear hTz
          go_wp2_with fail
          have htg : t = g := by have := HT.out; have := HG.out; omega
          subst htg
          have HT1 : Hid (TwAt w Y X z t x t (.slice a3 n3 c3) (.slice a n cc) wr) := hT1
          have hS : Row wr.drew X 75 #[.bool nx, .slice a n cc, .int .i64 t] ∧ Row wr.drew Y 75 #[.bool nz, .slice a3 n3 c3, .int .i64 t] := ⟨hbx, hbz⟩
          have q1 : Row wr.drew (w.heap.size + 1 + 1) 75 #[.bool false, .slice none 0 0, .int .i64 0] := HT1.out.res1
          have q2 : Row wr.drew (w.heap.size + 1 + 1 + 1) 75 #[.bool false, .slice none 0 0, .int .i64 0] := HT1.out.res2
          have e1 : DgAt wr.drew (.slice a n cc) (digs x.natAbs) := HT1.out.dy
          have e2 : DgAt wr.drew (.slice a3 n3 c3) (digs z.natAbs) := HT1.out.dx
          have l1 : NeS (w.heap.size + 1 + 1) (.slice a n cc) ∧ NeS (w.heap.size + 1 + 1 + 1) (.slice a n cc) := ⟨HT1.out.ny _ (.inl rfl), HT1.out.ny _ (.inr (.inl rfl))⟩
          have l2 : NeS (w.heap.size + 1 + 1) (.slice a3 n3 c3) ∧ NeS (w.heap.size + 1 + 1 + 1) (.slice a3 n3 c3) := ⟨HT1.out.nx _ (.inl rfl), HT1.out.nx _ (.inr (.inl rfl))⟩
          have hbe : Below w.heap.size w wr.drew := HT1.out.below.drew
          clear d0 d1 d2 f0 f1 f2 hT1 HT1
          refine wp_region_M (fun wx : World => Row wx X 75 #[.bool nx, .slice a n cc, .int .i64 t] ∧ Row wx Y 75 #[.bool nz, .slice a3 n3 c3, .int .i64 t]) (fun j => decide (j < 3)) 5 rfl (by kernel_rfl) ?_
          generalize wr.drew = V at *
          refine wpM_held 0 (v := .agg #[.bool nx, .slice a n cc, .int .i64 t]) rfl (by kernel_rfl) (by kernel_rfl) rfl (fun _ _ _ h => h) rfl (by intro wx hx; obtain ⟨x0, x1, x2⟩ := hx.1.tri; go_simp <;> rfl) hS ?_
          refine wpM_held 1 (v := .agg #[.bool nz, .slice a3 n3 c3, .int .i64 t]) rfl (by kernel_rfl) (by kernel_rfl) rfl (fun _ _ _ h => h) rfl (by intro wx hx; obtain ⟨x0, x1, x2⟩ := hx.2.tri; go_simp <;> rfl) hS ?_
          obtain ⟨y0, y1, y2⟩ := q1.tri
          have zf := q1.frozen
          refine wpM_one 2 rfl (by kernel_rfl) rfl ?_
          go_wp2_with fail
          have S2 : Row ((((V).setCell ⟨w.heap.size + 1 + 1, 0, none⟩ (.bool nx)).setCell ⟨w.heap.size + 1 + 1, 1, none⟩ (.slice a n cc)).setCell ⟨w.heap.size + 1 + 1, 2, none⟩ (.int .i64 t)) X 75 #[.bool nx, .slice a n cc, .int .i64 t] ∧ Row ((((V).setCell ⟨w.heap.size + 1 + 1, 0, none⟩ (.bool nx)).setCell ⟨w.heap.size + 1 + 1, 1, none⟩ (.slice a n cc)).setCell ⟨w.heap.size + 1 + 1, 2, none⟩ (.int .i64 t)) Y 75 #[.bool nz, .slice a3 n3 c3, .int .i64 t] := ⟨((hS.1.off 0 (.bool nx) (by omega)).off 1 (.slice a n cc) (by omega)).off 2 (.int .i64 t) (by omega), ((hS.2.off 0 (.bool nx) (by omega)).off 1 (.slice a n cc) (by omega)).off 2 (.int .i64 t) (by omega)⟩
          have Q1 : Row ((((V).setCell ⟨w.heap.size + 1 + 1, 0, none⟩ (.bool nx)).setCell ⟨w.heap.size + 1 + 1, 1, none⟩ (.slice a n cc)).setCell ⟨w.heap.size + 1 + 1, 2, none⟩ (.int .i64 t)) (w.heap.size + 1 + 1) 75 #[.bool nx, .slice a n cc, .int .i64 t] := Row.set3N q1 _ _ _
          have Q2 : Row ((((V).setCell ⟨w.heap.size + 1 + 1, 0, none⟩ (.bool nx)).setCell ⟨w.heap.size + 1 + 1, 1, none⟩ (.slice a n cc)).setCell ⟨w.heap.size + 1 + 1, 2, none⟩ (.int .i64 t)) (w.heap.size + 1 + 1 + 1) 75 #[.bool false, .slice none 0 0, .int .i64 0] := ((q2.off 0 (.bool nx) (by omega)).off 1 (.slice a n cc) (by omega)).off 2 (.int .i64 t) (by omega)
          have E1 : DgAt ((((V).setCell ⟨w.heap.size + 1 + 1, 0, none⟩ (.bool nx)).setCell ⟨w.heap.size + 1 + 1, 1, none⟩ (.slice a n cc)).setCell ⟨w.heap.size + 1 + 1, 2, none⟩ (.int .i64 t)) (.slice a n cc) (digs x.natAbs) := ((e1.offN l1.1 0 (.bool nx)).offN l1.1 1 (.slice a n cc)).offN l1.1 2 (.int .i64 t)
          have E2 : DgAt ((((V).setCell ⟨w.heap.size + 1 + 1, 0, none⟩ (.bool nx)).setCell ⟨w.heap.size + 1 + 1, 1, none⟩ (.slice a n cc)).setCell ⟨w.heap.size + 1 + 1, 2, none⟩ (.int .i64 t)) (.slice a3 n3 c3) (digs z.natAbs) := ((e2.offN l2.1 0 (.bool nx)).offN l2.1 1 (.slice a n cc)).offN l2.1 2 (.int .i64 t)
          have BE : Below w.heap.size w ((((V).setCell ⟨w.heap.size + 1 + 1, 0, none⟩ (.bool nx)).setCell ⟨w.heap.size + 1 + 1, 1, none⟩ (.slice a n cc)).setCell ⟨w.heap.size + 1 + 1, 2, none⟩ (.int .i64 t)) := below_set (below_set (below_set hbe 0 _ (by omega)) 1 _ (by omega)) 2 _ (by omega)
          refine ⟨fun _ => S2, ?_⟩
          clear hS q1 q2 e1 e2 hbe y0 y1 y2 zf hbx hbz
          generalize (((V).setCell ⟨w.heap.size + 1 + 1, 0, none⟩ (.bool nx)).setCell ⟨w.heap.size + 1 + 1, 1, none⟩ (.slice a n cc)).setCell ⟨w.heap.size + 1 + 1, 2, none⟩ (.int .i64 t) = V2 at *
          clear V
          obtain ⟨y0, y1, y2⟩ := Q2.tri
          have zf := Q2.frozen
          refine wpM_one 3 rfl (by kernel_rfl) rfl ?_
          go_wp2_with fail
          refine ⟨fun h => by simp at h, ?_⟩
          have P1 : Row ((((V2).setCell ⟨w.heap.size + 1 + 1 + 1, 0, none⟩ (.bool nz)).setCell ⟨w.heap.size + 1 + 1 + 1, 1, none⟩ (.slice a3 n3 c3)).setCell ⟨w.heap.size + 1 + 1 + 1, 2, none⟩ (.int .i64 t)) (w.heap.size + 1 + 1) 75 #[.bool nx, .slice a n cc, .int .i64 t] := ((Q1.off 0 (.bool nz) (by omega)).off 1 (.slice a3 n3 c3) (by omega)).off 2 (.int .i64 t) (by omega)
          have P2 : Row ((((V2).setCell ⟨w.heap.size + 1 + 1 + 1, 0, none⟩ (.bool nz)).setCell ⟨w.heap.size + 1 + 1 + 1, 1, none⟩ (.slice a3 n3 c3)).setCell ⟨w.heap.size + 1 + 1 + 1, 2, none⟩ (.int .i64 t)) (w.heap.size + 1 + 1 + 1) 75 #[.bool nz, .slice a3 n3 c3, .int .i64 t] := Row.set3N Q2 _ _ _
          have D1 : DgAt ((((V2).setCell ⟨w.heap.size + 1 + 1 + 1, 0, none⟩ (.bool nz)).setCell ⟨w.heap.size + 1 + 1 + 1, 1, none⟩ (.slice a3 n3 c3)).setCell ⟨w.heap.size + 1 + 1 + 1, 2, none⟩ (.int .i64 t)) (.slice a n cc) (digs x.natAbs) := ((E1.offN l1.2 0 (.bool nz)).offN l1.2 1 (.slice a3 n3 c3)).offN l1.2 2 (.int .i64 t)
          have D2 : DgAt ((((V2).setCell ⟨w.heap.size + 1 + 1 + 1, 0, none⟩ (.bool nz)).setCell ⟨w.heap.size + 1 + 1 + 1, 1, none⟩ (.slice a3 n3 c3)).setCell ⟨w.heap.size + 1 + 1 + 1, 2, none⟩ (.int .i64 t)) (.slice a3 n3 c3) (digs z.natAbs) := ((E2.offN l2.2 0 (.bool nz)).offN l2.2 1 (.slice a3 n3 c3)).offN l2.2 2 (.int .i64 t)
          have B2 : Below w.heap.size w ((((V2).setCell ⟨w.heap.size + 1 + 1 + 1, 0, none⟩ (.bool nz)).setCell ⟨w.heap.size + 1 + 1 + 1, 1, none⟩ (.slice a3 n3 c3)).setCell ⟨w.heap.size + 1 + 1 + 1, 2, none⟩ (.int .i64 t)) := below_set (below_set (below_set BE 0 _ (by omega)) 1 _ (by omega)) 2 _ (by omega)
          refine wpM_one 4 rfl (by kernel_rfl) rfl ?_
          go_wp2_with fail
          refine ⟨fun h => by simp at h, ?_⟩
          refine wpM_done (by kernel_rfl) ?_
          go_wp2
          refine bodyPost_ret (ret_cct rfl (g := w.heap.size + 1 + 1) (g' := w.heap.size + 1 + 1 + 1) rfl rfl rfl (load45 P1 rfl) (load45 P2 rfl)) rfl ⟨k, j, .slice a n cc, .slice a3 n3 c3, ?_, ?_, by omega, hk36, hj36, ?_, ?_, B2⟩
          · rw [HC3.out.1, HC3.out.2, HZ.out]
            unfold numC
            rw [HNX.out, HNZ.out]
            rfl
          · rw [HC3.out.2, HT.out]
          · rw [HC3.out.1]; exact D1
          · rw [HZ.out]; exact D2
end Go.Proofs.YtoncpcdepemlcaaGreatDoor
/- two: where one of both is none. -/
namespace Go.Proofs.YtoncpcdepemlcaaGreatDoor
open Go.RowKit

theorem Row.off3 {W : World} {B : Nat} {t : TypeId} {cs : Array Value} (h : Row W B t cs) {B' : Nat} (hne : B ≠ B') (a b c : Value) :
    Row (((W.setCell ⟨B', 0, none⟩ a).setCell ⟨B', 1, none⟩ b).setCell ⟨B', 2, none⟩ c) B t cs := ((h.off 0 a hne).off 1 b hne).off 2 c hne
set_option maxRecDepth 100000 in
set_option maxHeartbeats 2000000 in
theorem two_bad (c e d f : Int) (hc : I64 c) (hd : I64 d) (w : World) (hb : ¬((-18 ≤ e ∧ e ≤ 18) ∧ (-18 ≤ f ∧ f ≤ 18))) : Calls Tryz.prog 68 #[.agg #[.int .i64 c, .int .i64 e], .agg #[.int .i64 d, .int .i64 f]] w fun r w' => r = .returned (.tuple #[.agg zeroC, .agg zeroC, .bool false]) ∧ Below w.heap.size w w' := by
  obtain ⟨okc, HOC⟩ : ∃ okc, Hid (decide (-18 ≤ e ∧ e ≤ 18) = okc) := ⟨_, rfl⟩
  obtain ⟨okd, HOD⟩ : ∃ okd, Hid (decide (-18 ≤ f ∧ f ≤ 18) = okd) := ⟨_, rfl⟩
  have hbad : okc = false ∨ okc = true ∧ okd = false := by
    rw [← HOC.out, ← HOD.out]
    by_cases h : -18 ≤ e ∧ e ≤ 18
    · right
      exact ⟨decide_eq_true h, decide_eq_false fun h2 => hb ⟨h, h2⟩⟩
    · left; exact decide_eq_false h
  clear hb
  have HC : ∀ W, Hid (Calls Tryz.prog 59 #[.agg #[.int .i64 c, .int .i64 e]] W _) := fun W => num_any c e hc W
  have HD : ∀ W, Hid (Calls Tryz.prog 59 #[.agg #[.int .i64 d, .int .i64 f]] W _) := fun W => num_any d f hd W
  rw [HOC.out] at HC
  rw [HOD.out] at HD
  go_enter Tryz.func68, Tryz.ntmps68
  go_wp2_with fail
  have r1 := ((Row.new1 w (.cells #[.int .i64 c, .int .i64 e] 38) 38 #[.int .i64 d, .int .i64 f]).alloc (.cells zeroC 75)).alloc (.cells zeroC 75)
  have r2 := (Row.new ((w.alloc (.cells #[.int .i64 c, .int .i64 e] 38)).alloc (.cells #[.int .i64 d, .int .i64 f] 38)) 75 zeroC).alloc (.cells zeroC 75)
  have r3 := Row.new (((w.alloc (.cells #[.int .i64 c, .int .i64 e] 38)).alloc (.cells #[.int .i64 d, .int .i64 f] 38)).alloc (.cells zeroC 75)) 75 zeroC
  have hB := ((((Below.refl _ w).alloc (Nat.le_refl _) (.cells #[.int .i64 c, .int .i64 e] 38)).alloc (by simp) (.cells #[.int .i64 d, .int .i64 f] 38)).alloc (by simp; omega) (.cells zeroC 75)).alloc (by simp; omega) (.cells zeroC 75)
  have hWs : w.heap.size + 4 ≤ ((((w.alloc (.cells #[.int .i64 c, .int .i64 e] 38)).alloc (.cells #[.int .i64 d, .int .i64 f] 38)).alloc (.cells zeroC 75)).alloc (.cells zeroC 75)).heap.size := by simp
  simp only [World.size_alloc] at r2 r3
  show Calls Tryz.prog 59 #[.agg #[.int .i64 c, .int .i64 e]] ((((w.alloc (.cells #[.int .i64 c, .int .i64 e] 38)).alloc (.cells #[.int .i64 d, .int .i64 f] 38)).alloc (.cells zeroC 75)).alloc (.cells zeroC 75)) _
  generalize (((w.alloc (.cells #[.int .i64 c, .int .i64 e] 38)).alloc (.cells #[.int .i64 d, .int .i64 f] 38)).alloc (.cells zeroC 75)).alloc (.cells zeroC 75) = W at *
  refine Calls.mono (HC W).out ?_
  rintro _ w1 ⟨s1, rfl, hD1, hN1, b1⟩
  obtain ⟨_, a1, c1, rfl, _, _⟩ := id hD1
  obtain ⟨nc, HNC⟩ : ∃ nc, Hid (decide (c < 0) = nc) := ⟨_, rfl⟩
  rw [HNC.out]
  obtain ⟨lc, HLC⟩ : ∃ lc, Hid ((digs c.natAbs).length = lc) := ⟨_, rfl⟩
  rw [HLC.out] at hD1 hN1
  rw [HLC.out]
  clear HC
  have q1 := (r1.below b1 r1.lt).alloc (.cells #[.bool nc, .slice a1 lc c1, .int .i64 e] 75)
  obtain ⟨x0, x1⟩ := q1.duo
  go_wp2_with fail
  have r4 := Row.new w1 75 #[.bool nc, .slice a1 lc c1, .int .i64 e]
  have b2 : Below W.heap.size W (w1.alloc (.cells #[.bool nc, .slice a1 lc c1, .int .i64 e] 75)) := b1.alloc b1.size _
  have hX : W.heap.size ≤ w1.heap.size := b1.size
  have b21 : Below w1.heap.size w1 (w1.alloc (.cells #[.bool nc, .slice a1 lc c1, .int .i64 e] 75)) := (Below.refl _ w1).alloc (Nat.le_refl _) _
  have hD2 := hD1.below b21
  have hM1 : ∀ K, W.heap.size ≤ K → w1.heap.size ≤ K → NeS K (.slice a1 lc c1) := fun K _ h => hD1.ne h
  have hM2 : ∀ K, K < W.heap.size → NeS K (.slice a1 lc c1) := fun K h => hN1.ne h
  have hsz : (w1.alloc (.cells #[.bool nc, .slice a1 lc c1, .int .i64 e] 75)).heap.size = w1.heap.size + 1 := by simp
  generalize w1.alloc (.cells #[.bool nc, .slice a1 lc c1, .int .i64 e] 75) = W2 at *
  generalize w1.heap.size = X at *
  clear q1 x0 x1 hD1 hN1 b1 b21
  refine Calls.mono (HD W2).out ?_
  rintro _ w2 ⟨s2, rfl, hD3, hN3, b3⟩
  obtain ⟨_, a2, c2, rfl, _, _⟩ := id hD3
  obtain ⟨nd, HND⟩ : ∃ nd, Hid (decide (d < 0) = nd) := ⟨_, rfl⟩
  rw [HND.out]
  obtain ⟨ld, HLD⟩ : ∃ ld, Hid ((digs d.natAbs).length = ld) := ⟨_, rfl⟩
  rw [HLD.out] at hD3 hN3
  rw [HLD.out]
  clear HD
  have b4 : Below W2.heap.size W2 (w2.alloc (.cells #[.bool nd, .slice a2 ld c2, .int .i64 f] 75)) := b3.alloc b3.size _
  have z1 : Row (w2.alloc (.cells #[.bool nd, .slice a2 ld c2, .int .i64 f] 75)) (w.heap.size + 1 + 1) 75 #[.bool false, .slice none 0 0, .int .i64 0] := (r2.below b2 r2.lt).below b4 (r2.below b2 r2.lt).lt
  have z2 : Row (w2.alloc (.cells #[.bool nd, .slice a2 ld c2, .int .i64 f] 75)) (w.heap.size + 1 + 1 + 1) 75 #[.bool false, .slice none 0 0, .int .i64 0] := (r3.below b2 r3.lt).below b4 (r3.below b2 r3.lt).lt
  have BE : Below w.heap.size w (w2.alloc (.cells #[.bool nd, .slice a2 ld c2, .int .i64 f] 75)) := (hB.trans (b2.mono (by omega))).trans (b4.mono (by omega))
  clear r1 r2 r3 hB r4 b2 hX hD2 hM1 hM2 hsz hD3 hN3 b3 b4 HOC HOD
  generalize hW5 : w2.alloc (.cells #[.bool nd, .slice a2 ld c2, .int .i64 f] 75) = V at *
  have Z1 : Row ((((V).setCell ⟨w.heap.size + 1 + 1, 0, none⟩ (.bool false)).setCell ⟨w.heap.size + 1 + 1, 1, none⟩ (.slice none 0 0)).setCell ⟨w.heap.size + 1 + 1, 2, none⟩ (.int .i64 0)) (w.heap.size + 1 + 1) 75 #[.bool false, .slice none 0 0, .int .i64 0] := Row.set3N z1 _ _ _
  have Z2 : Row ((((V).setCell ⟨w.heap.size + 1 + 1, 0, none⟩ (.bool false)).setCell ⟨w.heap.size + 1 + 1, 1, none⟩ (.slice none 0 0)).setCell ⟨w.heap.size + 1 + 1, 2, none⟩ (.int .i64 0)) (w.heap.size + 1 + 1 + 1) 75 #[.bool false, .slice none 0 0, .int .i64 0] := z2.off3 (by omega) _ _ _
  have B1 : Below w.heap.size w ((((V).setCell ⟨w.heap.size + 1 + 1, 0, none⟩ (.bool false)).setCell ⟨w.heap.size + 1 + 1, 1, none⟩ (.slice none 0 0)).setCell ⟨w.heap.size + 1 + 1, 2, none⟩ (.int .i64 0)) := below_set (below_set (below_set BE 0 _ (by omega)) 1 _ (by omega)) 2 _ (by omega)
  have Y1 : Row (((((((V).setCell ⟨w.heap.size + 1 + 1, 0, none⟩ (.bool false)).setCell ⟨w.heap.size + 1 + 1, 1, none⟩ (.slice none 0 0)).setCell ⟨w.heap.size + 1 + 1, 2, none⟩ (.int .i64 0)).setCell ⟨w.heap.size + 1 + 1 + 1, 0, none⟩ (.bool false)).setCell ⟨w.heap.size + 1 + 1 + 1, 1, none⟩ (.slice none 0 0)).setCell ⟨w.heap.size + 1 + 1 + 1, 2, none⟩ (.int .i64 0)) (w.heap.size + 1 + 1) 75 #[.bool false, .slice none 0 0, .int .i64 0] := Z1.off3 (by omega) _ _ _
  have Y2 : Row (((((((V).setCell ⟨w.heap.size + 1 + 1, 0, none⟩ (.bool false)).setCell ⟨w.heap.size + 1 + 1, 1, none⟩ (.slice none 0 0)).setCell ⟨w.heap.size + 1 + 1, 2, none⟩ (.int .i64 0)).setCell ⟨w.heap.size + 1 + 1 + 1, 0, none⟩ (.bool false)).setCell ⟨w.heap.size + 1 + 1 + 1, 1, none⟩ (.slice none 0 0)).setCell ⟨w.heap.size + 1 + 1 + 1, 2, none⟩ (.int .i64 0)) (w.heap.size + 1 + 1 + 1) 75 #[.bool false, .slice none 0 0, .int .i64 0] := Row.set3N Z2 _ _ _
  have B2 : Below w.heap.size w (((((((V).setCell ⟨w.heap.size + 1 + 1, 0, none⟩ (.bool false)).setCell ⟨w.heap.size + 1 + 1, 1, none⟩ (.slice none 0 0)).setCell ⟨w.heap.size + 1 + 1, 2, none⟩ (.int .i64 0)).setCell ⟨w.heap.size + 1 + 1 + 1, 0, none⟩ (.bool false)).setCell ⟨w.heap.size + 1 + 1 + 1, 1, none⟩ (.slice none 0 0)).setCell ⟨w.heap.size + 1 + 1 + 1, 2, none⟩ (.int .i64 0)) := below_set (below_set (below_set B1 0 _ (by omega)) 1 _ (by omega)) 2 _ (by omega)
  obtain ⟨y0, y1, y2⟩ := z1.tri
  obtain ⟨y3, y4, y5⟩ := Z2.tri
  have zf := z1.frozen
  have zg := Z2.frozen
  rcases hbad with rfl | ⟨rfl, rfl⟩
  · go_wp2_with fail
    exact bodyPost_ret (ret_cct rfl (g := w.heap.size + 1 + 1) (g' := w.heap.size + 1 + 1 + 1) rfl rfl rfl (load45 Y1 rfl) (load45 Y2 rfl)) rfl ⟨rfl, B2⟩
  · go_wp2_with fail
    exact bodyPost_ret (ret_cct rfl (g := w.heap.size + 1 + 1) (g' := w.heap.size + 1 + 1 + 1) rfl rfl rfl (load45 Y1 rfl) (load45 Y2 rfl)) rfl ⟨rfl, B2⟩
end Go.Proofs.YtoncpcdepemlcaaGreatDoor
/- The document's Add. -/
namespace Go.Proofs.YtoncpcdepemlcaaGreatDoor
open Go.RowKit

theorem dec_form' (o : Option (Int × Int)) : ∃ p q s, decV o = .tuple #[.agg #[.int .i64 p, .int .i64 q], .int .i64 s] := by
  rcases o with _ | ⟨p, q⟩
  · exact ⟨_, _, _, rfl⟩
  · exact ⟨_, _, _, rfl⟩
theorem tell_sum (c e d f : Int) (i j : Nat) (he : -18 ≤ e - (i : Int)) (h : e - (i : Int) = f - (j : Int)) : tell (c * 10 ^ i + d * 10 ^ j) (e - (i : Int)) = tell (V (-18) c e + V (-18) d f) (-18) := by
  obtain ⟨k, hk⟩ : ∃ k : Nat, e - (i : Int) - (k : Int) = -18 := ⟨(e - i + 18).toNat, by omega⟩
  rw [← tell_pow _ _ k, hk]
  unfold V
  rw [show (e - -18).toNat = i + k by omega, show (f - -18).toNat = j + k by omega, Int.pow_add, Int.pow_add, Int.add_mul, Int.mul_assoc, Int.mul_assoc]
theorem shifted_lt (c : Int) (hc : I64 c) (i : Nat) (hi : i ≤ 36) : (c * 10 ^ i).natAbs < 10 ^ 55 := by
  rw [Int.natAbs_mul, Int.natAbs_pow]
  have h19 : c.natAbs < 10 ^ 19 := by
    unfold I64 at hc
    have : (10 : Nat) ^ 19 = 10000000000000000000 := by decide
    omega
  refine Nat.lt_of_lt_of_le (Nat.mul_lt_mul_of_pos_right h19 (Nat.pow_pos (by decide))) ?_
  rw [show (10 : Int).natAbs = 10 from rfl, ← Nat.pow_add]
  exact Nat.pow_le_pow_right (by decide) (by omega)
end Go.Proofs.YtoncpcdepemlcaaGreatDoor
/- The document's Sub. -/
namespace Go.Proofs.YtoncpcdepemlcaaGreatDoor
open Go.RowKit

theorem tell_diff (c e d f : Int) (i j : Nat) (he : -18 ≤ e - (i : Int)) (h : e - (i : Int) = f - (j : Int)) : tell (c * 10 ^ i + -(d * 10 ^ j)) (e - (i : Int)) = tell (V (-18) c e - V (-18) d f) (-18) := by
  have := tell_sum c e (-d) f i j he h
  rw [Int.neg_mul] at this
  rw [this]
  unfold V
  rw [Int.neg_mul]
  rfl
theorem diff_len (c d : Int) (hc : I64 c) (hd : I64 d) (i j : Nat) (hi : i ≤ 36) (hj : j ≤ 36) : (digs (c * 10 ^ i + -(d * 10 ^ j)).natAbs).length ≤ 57 := by
  have h1 := shifted_len c hc i
  refine digs_len _ _ ?_
  have h1 : (c * 10 ^ i).natAbs < 10 ^ 55 := shifted_lt c hc i hi
  have h2 : (d * 10 ^ j).natAbs < 10 ^ 55 := shifted_lt d hd j hj
  have h3 : (10 : Nat) ^ 57 = 10 ^ 55 * 100 := rfl
  have h4 := Int.natAbs_add_le (c * 10 ^ i) (-(d * 10 ^ j))
  rw [Int.natAbs_neg] at h4
  generalize (10 : Nat) ^ 55 = p at *
  omega
set_option maxRecDepth 100000 in
set_option maxHeartbeats 2000000 in
theorem rsub_ok (c e d f : Int) (hc : I64 c) (hd : I64 d) (w : World) (he1 : -18 ≤ e) (he2 : e ≤ 18) (hf1 : -18 ≤ f) (hf2 : f ≤ 18) : Calls Tryz.prog 34 #[.agg #[.int .i64 c, .int .i64 e], .agg #[.int .i64 d, .int .i64 f]] w fun r w' => r = .returned (decV (tell (V (-18) c e - V (-18) d f) (-18))) ∧ Below w.heap.size w w' := by
  have HC : ∀ W, Hid (Calls Tryz.prog 68 #[.agg #[.int .i64 c, .int .i64 e], .agg #[.int .i64 d, .int .i64 f]] W _) := fun W => two_any c e d f hc hd W he1 he2 hf1 hf2
  obtain ⟨res, HRES⟩ : ∃ res, Hid (decV (tell (V (-18) c e - V (-18) d f) (-18)) = res) := ⟨_, rfl⟩
  rw [HRES.out]
  go_enter Tryz.func34, Tryz.ntmps34
  go_wp2_with fail
  have r2 := Row.new ((w.alloc (.cells #[.int .i64 c, .int .i64 e] 38)).alloc (.cells #[.int .i64 d, .int .i64 f] 38)) 38 #[.int .i64 0, .int .i64 0]
  have hB := (((Below.refl _ w).alloc (Nat.le_refl _) (.cells #[.int .i64 c, .int .i64 e] 38)).alloc (by simp) (.cells #[.int .i64 d, .int .i64 f] 38)).alloc (by simp; omega) (.cells #[.int .i64 0, .int .i64 0] 38)
  have hWs : w.heap.size + 3 ≤ (((((w.alloc (.cells #[.int .i64 c, .int .i64 e] 38)).alloc (.cells #[.int .i64 d, .int .i64 f] 38)).alloc (.cells #[.int .i64 0, .int .i64 0] 38)))).heap.size := by simp
  simp only [World.size_alloc] at r2
  generalize ((((w.alloc (.cells #[.int .i64 c, .int .i64 e] 38)).alloc (.cells #[.int .i64 d, .int .i64 f] 38)).alloc (.cells #[.int .i64 0, .int .i64 0] 38))) = W at *
  refine Calls.mono (HC W).out ?_
  rintro _ w1 ⟨i, j, sx, sy, rfl, hij, hlo, hi, hj, hDx, hDy, b1⟩
  clear HC
  obtain ⟨_, a1, c1, rfl, _, _⟩ := id hDx
  obtain ⟨_, a2, c2, rfl, _, _⟩ := id hDy
  unfold numC
  obtain ⟨nx, HNX⟩ : ∃ nx, Hid (decide (c * 10 ^ i < 0) = nx) := ⟨_, rfl⟩
  obtain ⟨ny, HNY⟩ : ∃ ny, Hid (decide (d * 10 ^ j < 0) = ny) := ⟨_, rfl⟩
  rw [HNX.out, HNY.out]
  have lx := shifted_len c hc i
  have ly := shifted_len d hd j
  obtain ⟨n1, HN1⟩ : ∃ n1 : Nat, Hid ((digs (c * 10 ^ i).natAbs).length = n1) := ⟨_, rfl⟩
  obtain ⟨n2, HN2⟩ : ∃ n2 : Nat, Hid ((digs (d * 10 ^ j).natAbs).length = n2) := ⟨_, rfl⟩
  rw [HN1.out] at hDx lx
  rw [HN2.out] at hDy ly
  rw [HN1.out, HN2.out]
  obtain ⟨m, HM⟩ : ∃ m, Hid (e - (i : Int) = m) := ⟨_, rfl⟩
  rw [HM.out]
  go_wp2_with fail
  have hmr : -18 ≤ m ∧ m ≤ 18 := by have := HM.out; omega
  have px := (Row.new w1 75 #[.bool nx, .slice a1 n1 c1, .int .i64 m]).alloc (.cells #[.bool ny, .slice a2 n2 c2, .int .i64 m] 75)
  have py := Row.new1 w1 (.cells #[.bool nx, .slice a1 n1 c1, .int .i64 m] 75) 75 #[.bool ny, .slice a2 n2 c2, .int .i64 m]
  have b2 : Below w1.heap.size w1 ((w1.alloc (.cells #[.bool nx, .slice a1 n1 c1, .int .i64 m] 75)).alloc (.cells #[.bool ny, .slice a2 n2 c2, .int .i64 m] 75)) := ((Below.refl _ w1).alloc (Nat.le_refl _) _).alloc (by simp) _
  have hrx := (r2.below b1 r2.lt).below b2 (r2.below b1 r2.lt).lt
  have hBe := (hB.trans (b1.mono (by omega))).trans (b2.mono (Nat.le_trans (by omega) b1.size))
  have eX := hDx.below b2
  have eY := hDy.below b2
  have hr1 : w.heap.size + 2 < w1.heap.size := by have := b1.size; omega
  clear r2 b1 b2 hDx hDy hB hWs
  generalize (w1.alloc (.cells #[.bool nx, .slice a1 n1 c1, .int .i64 m] 75)).alloc (.cells #[.bool ny, .slice a2 n2 c2, .int .i64 m] 75) = wr at *
  generalize w1.heap.size = X at *
  have HL : Hid ((digs (c * 10 ^ i + -(d * 10 ^ j)).natAbs).length ≤ 500) := Nat.le_trans (diff_len c d hc hd i j hi hj) (by decide)
  have HEQ : Hid (tell (c * 10 ^ i + -(d * 10 ^ j)) m = tell (V (-18) c e - V (-18) d f) (-18)) := by
    show _ = _
    rw [← HM.out]
    exact tell_diff c e d f i j (by have := HM.out; omega) hij
  obtain ⟨x, HX⟩ : ∃ x, Hid (c * 10 ^ i = x) := ⟨_, rfl⟩
  obtain ⟨y, HY⟩ : ∃ y, Hid (d * 10 ^ j = y) := ⟨_, rfl⟩
  rw [HX.out] at eX HNX HN1 HL HEQ
  rw [HY.out] at eY HNY HN2 HL HEQ
  have ly2 : (digs (-y).natAbs).length ≤ 800 := by rw [Int.natAbs_neg, HN2.out]; omega
  have HMI : ∀ V, Below wr.heap.size wr V → Hid (Calls Tryz.prog 69 #[.agg #[.bool ny, .slice a2 n2 c2]] V fun r w' => ∃ v', r = .returned v' ∧ BigV w' (-y) v' ∧ Below V.heap.size V w') := fun V h =>
    minus_any y _ V ⟨.slice a2 n2 c2, by rw [← HNY.out]; rfl, eY.below h⟩ (by rw [HN2.out]; omega)
  have HPL : ∀ V u, Below wr.heap.size wr V → BigV V (-y) u → Hid (Calls Tryz.prog 64 #[.agg #[.bool nx, .slice a1 n1 c1], u] V fun r w' => ∃ v', r = .returned v' ∧ BigV w' (x + -y) v' ∧ Below V.heap.size V w') := fun V u h hu =>
    plus_any x (-y) _ _ V ⟨.slice a1 n1 c1, by rw [← HNX.out]; rfl, eX.below h⟩ hu (by rw [HN1.out]; omega) ly2
  obtain ⟨z, HZ⟩ : ∃ z, Hid (x + -y = z) := ⟨_, rfl⟩
  have HTE : ∀ V s, DgAt V s (digs z.natAbs) → Hid (Calls Tryz.prog 32 #[.agg #[.bool (decide (z < 0)), s, .int .i64 m]] V fun r w' => r = .returned res ∧ Below V.heap.size V w') := fun V s h => by
    have := told_any' z m _ V ⟨s, rfl, h⟩ (by omega) (by omega) (by rw [← HZ.out]; exact HL.out)
    rw [← HZ.out, HEQ.out, HRES.out, HZ.out] at this
    exact this
  obtain ⟨p, q, st, hres⟩ := dec_form' (tell (V (-18) c e - V (-18) d f) (-18))
  rw [HRES.out] at hres
  subst hres
  have hS : Below wr.heap.size wr wr.drew := (Below.refl _ wr).drew
  have tri : ∀ wx, Below wr.heap.size wr wx → wx.cell? ⟨X, 0, none⟩ = some (.bool nx) ∧ wx.cell? ⟨X, 1, none⟩ = some (.slice a1 n1 c1) ∧ wx.cell? ⟨X, 2, none⟩ = some (.int .i64 m) := fun wx hx => (px.below hx px.lt).tri
  have tri2 : ∀ wx, Below wr.heap.size wr wx → wx.cell? ⟨X + 1, 0, none⟩ = some (.bool ny) ∧ wx.cell? ⟨X + 1, 1, none⟩ = some (.slice a2 n2 c2) ∧ wx.cell? ⟨X + 1, 2, none⟩ = some (.int .i64 m) := fun wx hx => (py.below hx py.lt).tri
  refine wp_region_M (fun wx : World => Below wr.heap.size wr wx) (fun j => decide (j < 12)) 14 rfl (by kernel_rfl) ?_
  refine wpM_held 0 (v := ?_) rfl (by kernel_rfl) (by kernel_rfl) rfl (fun _ _ _ h => h) rfl (by intro wx hx; go_simp <;> rfl) hS ?_
  refine wpM_held 1 (v := .agg #[.bool nx, .slice a1 n1 c1]) rfl (by kernel_rfl) (by kernel_rfl) rfl (fun _ _ _ h => h) rfl (by intro wx hx; obtain ⟨x0, x1, x2⟩ := tri wx hx; go_simp <;> rfl) hS ?_
  refine wpM_held 2 (v := ?_) rfl (by kernel_rfl) (by kernel_rfl) rfl (fun _ _ _ h => h) rfl (by intro wx hx; go_simp <;> rfl) hS ?_
  refine wpM_held 3 (v := .agg #[.bool ny, .slice a2 n2 c2]) rfl (by kernel_rfl) (by kernel_rfl) rfl (fun _ _ _ h => h) rfl (by intro wx hx; obtain ⟨x0, x1, x2⟩ := tri2 wx hx; go_simp <;> rfl) hS ?_
  refine wpM_held 6 (v := ?_) rfl (by kernel_rfl) (by kernel_rfl) rfl (fun _ _ _ h => h) rfl (by intro wx hx; go_simp <;> rfl) hS ?_
  refine wpM_held 7 (v := .int .i64 m) rfl (by kernel_rfl) (by kernel_rfl) rfl (fun _ _ _ h => h) rfl (by intro wx hx; obtain ⟨x0, x1, x2⟩ := tri wx hx; go_simp <;> rfl) hS ?_
  refine wpM_one 4 rfl (by kernel_rfl) rfl ?_
  go_wp2_with fail
  refine Calls.mono (HMI _ hS).out ?_
  rintro _ wa ⟨v1, rfl, hV1, b3⟩
  have hWa : Below wr.heap.size wr wa := hS.trans (b3.mono hS.size)
  clear b3 HMI
  obtain ⟨s1, rfl, hD1⟩ := hV1
  obtain ⟨_, a5, c5, rfl, _, _⟩ := id hD1
  have hV1 : BigV wa (-y) (bv (decide (-y < 0)) (.slice a5 (digs (-y).natAbs).length c5)) := ⟨_, rfl, hD1⟩
  unfold bv at hV1
  unfold bv
  obtain ⟨nm, HNM⟩ : ∃ nm, Hid (decide (-y < 0) = nm) := ⟨_, rfl⟩
  rw [HNM.out] at hV1
  rw [HNM.out]
  obtain ⟨n5, HN5⟩ : ∃ n5 : Nat, Hid ((digs (-y).natAbs).length = n5) := ⟨_, rfl⟩
  rw [HN5.out] at hV1
  rw [HN5.out]
  go_wp2_with fail
  refine ⟨fun _ => hWa, ?_⟩
  refine wpM_one 5 rfl (by kernel_rfl) rfl ?_
  go_wp2_with fail
  refine Calls.mono (HPL _ _ hWa hV1).out ?_
  rintro _ wb ⟨v2, rfl, hV2, b4⟩
  have hWb : Below wr.heap.size wr wb := hWa.trans (b4.mono hWa.size)
  clear b4 HPL
  rw [HZ.out] at hV2
  obtain ⟨s2, rfl, hD2⟩ := hV2
  have HTE := HTE wb s2 hD2
  obtain ⟨_, a6, c6, rfl, _, _⟩ := id hD2
  unfold bv
  obtain ⟨nz, HNZ⟩ : ∃ nz, Hid (decide (z < 0) = nz) := ⟨_, rfl⟩
  obtain ⟨n6, HN6⟩ : ∃ n6 : Nat, Hid ((digs z.natAbs).length = n6) := ⟨_, rfl⟩
  rw [HNZ.out, HN6.out] at HTE
  rw [HNZ.out, HN6.out]
  clear hD2
  go_wp2_with fail
  refine ⟨fun _ => hWb, ?_⟩
  refine wpM_one 8 rfl (by kernel_rfl) rfl ?_
  go_wp2_with fail
  refine ⟨fun _ => hWb, ?_⟩
  refine wpM_one 9 rfl (by kernel_rfl) rfl ?_
  go_wp2_with fail
  refine Calls.mono HTE.out ?_
  rintro _ wd ⟨rfl, b5⟩
  have hWd : Below wr.heap.size wr wd := hWb.trans (b5.mono hWb.size)
  clear b5 HTE
  go_wp2_with fail
  refine ⟨fun _ => hWd, ?_⟩
  refine wpM_held 10 (v := .agg #[.int .i64 p, .int .i64 q]) rfl (by kernel_rfl) (by kernel_rfl) rfl (fun _ _ _ h => h) rfl (by intro wx hx; go_simp <;> rfl) hWd ?_
  refine wpM_held 11 (v := .int .i64 st) rfl (by kernel_rfl) (by kernel_rfl) rfl (fun _ _ _ h => h) rfl (by intro wx hx; go_simp <;> rfl) hWd ?_
  have pr := hrx.below hWd hrx.lt
  obtain ⟨y0, y1⟩ := pr.duo
  have zf := pr.frozen
  have hZe := Row.set2 pr (.int .i64 p) (.int .i64 q)
  have hBf := hBe.trans (hWd.mono (Nat.le_of_lt (Nat.lt_trans (by omega) hrx.lt)))
  have hBg := below_set (below_set hBf (B := w.heap.size + 1 + 1) 0 (.int .i64 p) (by omega)) (B := w.heap.size + 1 + 1) 1 (.int .i64 q) (by omega)
  refine wpM_one 12 rfl (by kernel_rfl) rfl ?_
  go_wp2_with fail
  refine ⟨fun h => by simp at h, ?_⟩
  refine wpM_one 13 rfl (by kernel_rfl) rfl ?_
  go_wp2_with fail
  refine ⟨fun h => by simp at h, ?_⟩
  refine wpM_done (by kernel_rfl) ?_
  go_wp2
  exact bodyPost_ret (ret_two rfl (g := w.heap.size + 1 + 1) rfl rfl (load23 hZe rfl)) rfl ⟨rfl, hBg⟩
end Go.Proofs.YtoncpcdepemlcaaGreatDoor
/- The document's Add, Sub, where one of both is none; Neg. -/
namespace Go.Proofs.YtoncpcdepemlcaaGreatDoor
open Go.RowKit

set_option maxRecDepth 100000 in
set_option maxHeartbeats 2000000 in
theorem rsub_bad (c e d f : Int) (hc : I64 c) (hd : I64 d) (w : World) (hb : ¬((-18 ≤ e ∧ e ≤ 18) ∧ (-18 ≤ f ∧ f ≤ 18))) : Calls Tryz.prog 34 #[.agg #[.int .i64 c, .int .i64 e], .agg #[.int .i64 d, .int .i64 f]] w fun r w' => r = .returned argV ∧ Below w.heap.size w w' := by
  have HC : ∀ W, Hid (Calls Tryz.prog 68 #[.agg #[.int .i64 c, .int .i64 e], .agg #[.int .i64 d, .int .i64 f]] W _) := fun W => two_bad c e d f hc hd W hb
  go_enter Tryz.func34, Tryz.ntmps34
  go_wp2_with fail
  have r2 := Row.new ((w.alloc (.cells #[.int .i64 c, .int .i64 e] 38)).alloc (.cells #[.int .i64 d, .int .i64 f] 38)) 38 #[.int .i64 0, .int .i64 0]
  have hB := (((Below.refl _ w).alloc (Nat.le_refl _) (.cells #[.int .i64 c, .int .i64 e] 38)).alloc (by simp) (.cells #[.int .i64 d, .int .i64 f] 38)).alloc (by simp; omega) (.cells #[.int .i64 0, .int .i64 0] 38)
  have hWs : w.heap.size + 3 ≤ (((((w.alloc (.cells #[.int .i64 c, .int .i64 e] 38)).alloc (.cells #[.int .i64 d, .int .i64 f] 38)).alloc (.cells #[.int .i64 0, .int .i64 0] 38)))).heap.size := by simp
  simp only [World.size_alloc] at r2
  generalize ((((w.alloc (.cells #[.int .i64 c, .int .i64 e] 38)).alloc (.cells #[.int .i64 d, .int .i64 f] 38)).alloc (.cells #[.int .i64 0, .int .i64 0] 38))) = W at *
  refine Calls.mono (HC W).out ?_
  rintro _ w1 ⟨rfl, b1⟩
  clear HC
  unfold zeroC
  have b2 : Below w1.heap.size w1 ((w1.alloc (.cells #[.bool false, .slice none 0 0, .int .i64 0] 75)).alloc (.cells #[.bool false, .slice none 0 0, .int .i64 0] 75)) := ((Below.refl _ w1).alloc (Nat.le_refl _) _).alloc (by simp) _
  have hrx := (r2.below b1 r2.lt).below b2 (r2.below b1 r2.lt).lt
  have hBe := (hB.trans (b1.mono (by omega))).trans (b2.mono (Nat.le_trans (by omega) b1.size))
  clear r2 b1 b2 hB hWs
  obtain ⟨y0, y1⟩ := hrx.duo
  have zf := hrx.frozen
  have hZe := Row.set2 hrx (.int .i64 0) (.int .i64 0)
  have hBg := below_set (below_set hBe (B := w.heap.size + 1 + 1) 0 (.int .i64 0) (by omega)) (B := w.heap.size + 1 + 1) 1 (.int .i64 0) (by omega)
  go_wp2_with fail
  exact bodyPost_ret (ret_two rfl (g := w.heap.size + 1 + 1) rfl rfl (load23 hZe rfl)) rfl ⟨rfl, hBg⟩
/-- What the document's Sub answers. -/
def subD (c e d f : Int) : Value := if (-18 ≤ e ∧ e ≤ 18) ∧ (-18 ≤ f ∧ f ≤ 18) then decV (tell (V (-18) c e - V (-18) d f) (-18)) else argV
theorem rsub_any (c e d f : Int) (hc : I64 c) (hd : I64 d) (w : World) : Calls Tryz.prog 34 #[.agg #[.int .i64 c, .int .i64 e], .agg #[.int .i64 d, .int .i64 f]] w fun r w' => r = .returned (subD c e d f) ∧ Below w.heap.size w w' := by
  unfold subD
  split
  · rename_i h
    exact rsub_ok c e d f hc hd w h.1.1 h.1.2 h.2.1 h.2.2
  · rename_i h
    exact rsub_bad c e d f hc hd w h
theorem subD_form (c e d f : Int) : ∃ p q s, subD c e d f = .tuple #[.agg #[.int .i64 p, .int .i64 q], .int .i64 s] := by
  unfold subD
  split
  · exact dec_form' _
  · exact ⟨_, _, _, rfl⟩
set_option maxRecDepth 100000 in
set_option maxHeartbeats 2000000 in
theorem rneg_any (c e : Int) (hc : I64 c) (w : World) : Calls Tryz.prog 16 #[.agg #[.int .i64 c, .int .i64 e]] w fun r w' => r = .returned (subD 0 0 c e) ∧ Below w.heap.size w w' := by
  have HC : ∀ W, Hid (Calls Tryz.prog 34 #[.agg #[.int .i64 0, .int .i64 0], .agg #[.int .i64 c, .int .i64 e]] W _) := fun W => rsub_any 0 0 c e ⟨by decide, by decide⟩ hc W
  obtain ⟨p, q, s, hs⟩ := subD_form 0 0 c e
  rw [hs] at HC
  rw [hs]
  go_enter Tryz.func16, Tryz.ntmps16
  go_wp2_with fail
  have r2 := Row.new1 w (.cells #[.int .i64 c, .int .i64 e] 38) 38 #[.int .i64 0, .int .i64 0]
  have hB := ((Below.refl _ w).alloc (Nat.le_refl _) (.cells #[.int .i64 c, .int .i64 e] 38)).alloc (by simp) (.cells #[.int .i64 0, .int .i64 0] 38)
  have hWs : w.heap.size + 2 ≤ ((w.alloc (.cells #[.int .i64 c, .int .i64 e] 38)).alloc (.cells #[.int .i64 0, .int .i64 0] 38)).heap.size := by simp
  generalize (w.alloc (.cells #[.int .i64 c, .int .i64 e] 38)).alloc (.cells #[.int .i64 0, .int .i64 0] 38) = W at *
  refine Calls.mono (HC W).out ?_
  rintro _ w1 ⟨rfl, b1⟩
  clear HC
  have hrx := r2.below b1 r2.lt
  have hBe := hB.trans (b1.mono (by omega))
  obtain ⟨y0, y1⟩ := hrx.duo
  have zf := hrx.frozen
  have hZe := Row.set2 hrx (.int .i64 p) (.int .i64 q)
  have hBg := below_set (below_set hBe (B := w.heap.size + 1) 0 (.int .i64 p) (by omega)) (B := w.heap.size + 1) 1 (.int .i64 q) (by omega)
  go_wp2_with fail
  exact bodyPost_ret (ret_two rfl (g := w.heap.size + 1) rfl rfl (load23 hZe rfl)) rfl ⟨rfl, hBg⟩
end Go.Proofs.YtoncpcdepemlcaaGreatDoor
/- The program's Add, Sub, Neg, Mul in the document's words. -/
namespace Go.Proofs.YtoncpcdepemlcaaGreatDoor
open Go.RowKit

def mulD (c e d f : Int) : Value := if (-18 ≤ e ∧ e ≤ 18) ∧ (-18 ≤ f ∧ f ≤ 18) then decV (tell (V (-18) c e * V (-18) d f) (-36)) else argV
theorem pmul_any (c e d f : Int) (hc : I64 c) (hd : I64 d) (w : World) : Calls Tryz.prog 82 #[.agg #[.int .i64 c, .int .i64 e], .agg #[.int .i64 d, .int .i64 f]] w fun r w' => r = .returned (mulD c e d f) ∧ Below w.heap.size w w' := by
  have h := mul_any c e d f hc hd w
  have hv : twoV e f (some (prodW (decW c e) (decW d f))) = mulD c e d f := by
    unfold twoV mulD
    split
    · rename_i h
      obtain ⟨he, hf⟩ := h
      rw [told_prod _ _ (sh_dec c e he.1 he.2 hc.1 hc.2) (sh_dec d f hf.1 hf.2 hd.1 hd.2), VW_dec' c e he, VW_dec' d f hf]
    · rfl
  rw [hv] at h
  exact h
theorem pneg_any (c e : Int) (hc : I64 c) (w : World) : Calls Tryz.prog 81 #[.agg #[.int .i64 c, .int .i64 e]] w fun r w' => r = .returned (subD 0 0 c e) ∧ Below w.heap.size w w' := by
  by_cases he : within e
  · have h := neg_ok c e hc he w
    have hv : subD 0 0 c e = decV (tell (-V (-18) c e) (-18)) := by
      unfold subD
      rw [if_pos ⟨by decide, he⟩, show V (-18) 0 0 = 0 by unfold V; rw [Int.zero_mul], Int.zero_sub]
    rw [hv]
    exact h
  · have h := neg_bad c e he w
    have hv : subD 0 0 c e = argV := by
      unfold subD
      rw [if_neg fun h => he h.2]
    rw [hv]
    exact h
end Go.Proofs.YtoncpcdepemlcaaGreatDoor
/- The document's Mul, given its Times. -/
namespace Go.Proofs.YtoncpcdepemlcaaGreatDoor
open Go.RowKit

end Go.Proofs.YtoncpcdepemlcaaGreatDoor
/- A product, place by place (pure). -/
namespace Go.Proofs.YtoncpcdepemlcaaGreatDoor

theorem dval_take_succ (bs : List Int) (k : Nat) (h : k < bs.length) : dval (bs.take (k + 1)) = dval (bs.take k) + bs[k]?.getD 0 * 10 ^ k := by
  rw [List.take_add_one, List.getElem?_eq_getElem h, dval_append]
  simp only [Option.toList_some, Option.getD_some, dval, List.length_take]
  rw [Nat.min_eq_left (Nat.le_of_lt h), Int.mul_zero, Int.add_zero, Int.mul_comm]
theorem getD_set (ds : List Int) (i m : Nat) (v : Int) (h : i < ds.length) : (ds.set i v)[m]?.getD 0 = if m = i then v else ds[m]?.getD 0 := by
  by_cases hm : m = i
  · subst hm; rw [List.getElem?_set_self h, if_pos rfl]; rfl
  · rw [List.getElem?_set_ne (fun h => hm h.symm), if_neg hm]
/-- k places of a digit's product are added. -/
structure PrAt (P x : Int) (i : Nat) (bs ds : List Int) (k : Nat) : Prop where
  val : dval ds = P + x * 10 ^ i * dval (bs.take k)
  lo : ∀ m : Nat, 0 ≤ ds[m]?.getD 0
  hi : ∀ m : Nat, ds[m]?.getD 0 ≤ if m < i + k then 90 else 9
theorem mul_dig {x y : Int} (hx : 0 ≤ x ∧ x ≤ 9) (hy : 0 ≤ y ∧ y ≤ 9) : 0 ≤ x * y ∧ x * y ≤ 81 := by
  refine ⟨Int.mul_nonneg hx.1 hy.1, ?_⟩
  have h1 := Int.mul_le_mul hx.2 hy.2 hy.1 (by decide : (0 : Int) ≤ 9)
  exact h1
theorem PrAt.step {P x : Int} {i k : Nat} {bs ds : List Int} (h : PrAt P x i bs ds k) (hx : 0 ≤ x ∧ x ≤ 9) (hb : DgL bs) (hk : k < bs.length) (hl : i + k < ds.length) :
    PrAt P x i bs (ds.set (i + k) (ds[i + k]?.getD 0 + x * bs[k]?.getD 0)) (k + 1) := by
  have hp := mul_dig hx (hb.get k)
  refine ⟨?_, fun m => ?_, fun m => ?_⟩
  · rw [dval_set _ _ _ hl, h.val, dval_take_succ bs k hk, Int.pow_add, Int.mul_add]
    generalize ds[i + k]?.getD 0 = d
    generalize bs[k]?.getD 0 = y
    rw [show d + x * y - d = x * y by omega, show x * y * (10 ^ i * 10 ^ k) = x * 10 ^ i * (y * 10 ^ k) by rw [Int.mul_assoc, Int.mul_assoc, ← Int.mul_assoc y, Int.mul_comm y (10 ^ i), Int.mul_assoc]]
    omega
  · rw [getD_set _ _ _ _ hl]
    have h1 := h.lo m
    have h2 := h.lo (i + k)
    split <;> omega
  · rw [getD_set _ _ _ _ hl]
    have h1 := h.hi m
    have h2 := h.hi (i + k)
    rw [if_neg (Nat.lt_irrefl _)] at h2
    split
    · rw [if_pos (by omega)]; omega
    · split at h1
      · rw [if_pos (by omega)]; exact h1
      · split <;> omega
/-- k places are carried on. -/
structure CaAt (P : Int) (ds : List Int) (k : Nat) : Prop where
  val : dval ds = P
  lo : ∀ m : Nat, 0 ≤ ds[m]?.getD 0
  hi : ∀ m : Nat, ds[m]?.getD 0 ≤ if m < k then 9 else if m = k then 100 else 90
theorem CaAt.step {P : Int} {ds : List Int} {k : Nat} (h : CaAt P ds k) (hl : k + 1 < ds.length) :
    CaAt P ((ds.set (k + 1) (ds[k + 1]?.getD 0 + ds[k]?.getD 0 / 10)).set k (ds[k]?.getD 0 % 10)) (k + 1) := by
  have a0 := h.lo k
  have a1 := h.hi k
  have b0 := h.lo (k + 1)
  have b1 := h.hi (k + 1)
  rw [if_neg (by omega), if_pos rfl] at a1
  rw [if_neg (by omega), if_neg (by omega)] at b1
  refine ⟨(dval_carry ds k hl).trans h.val, fun m => ?_, fun m => ?_⟩
  · rw [getD_set _ _ _ _ (by simp; omega), getD_set _ _ _ _ hl]
    have h1 := h.lo m
    split
    · omega
    · split <;> omega
  · rw [getD_set _ _ _ _ (by simp; omega), getD_set _ _ _ _ hl]
    have h1 := h.hi m
    split
    · rw [if_pos (by omega)]; omega
    · split
      · rw [if_neg (by omega)]; omega
      · split at h1
        · rw [if_pos (by omega)]; exact h1
        · rw [if_neg (by omega)]; exact h1
theorem dval_ge {ds : List Int} (h : ∀ m : Nat, 0 ≤ ds[m]?.getD 0) (k : Nat) : ds[k]?.getD 0 * 10 ^ k ≤ dval ds ∧ 0 ≤ dval ds := by
  induction ds generalizing k with
  | nil => simp [dval]
  | cons d t ih =>
    have hd := h 0
    have ht : ∀ m : Nat, 0 ≤ t[m]?.getD 0 := fun m => by simpa using h (m + 1)
    simp only [List.getElem?_cons_zero, Option.getD_some] at hd
    have h0 := (ih ht 0).2
    refine ⟨?_, by simp only [dval]; omega⟩
    cases k with
    | zero => simp only [List.getElem?_cons_zero, Option.getD_some, dval, Int.pow_zero]; omega
    | succ k =>
      have h2 := (ih ht k).1
      simp only [List.getElem?_cons_succ, dval, Int.pow_succ]
      rw [← Int.mul_assoc]
      omega
/-- All is carried on, and the last place is nought. -/
theorem CaAt.digits {P : Int} {ds : List Int} {k : Nat} (h : CaAt P ds k) (hl : k + 1 = ds.length) (hP : P < 10 ^ k) : DgL ds := by
  have h0 : ds[k]?.getD 0 ≤ 0 := by
    have h1 := (dval_ge h.lo k).1
    rw [h.val] at h1
    have h2 := h.lo k
    rcases Int.lt_or_le 0 (ds[k]?.getD 0) with h3 | h3
    · have h4 : (10 : Int) ^ k * 1 ≤ 10 ^ k * ds[k]?.getD 0 := Int.mul_le_mul_of_nonneg_left (by omega) (Int.le_of_lt (Int.pow_pos (by decide)))
      rw [Int.mul_one, Int.mul_comm] at h4
      omega
    · exact h3
  intro d hd
  obtain ⟨m, hm, rfl⟩ := List.getElem_of_mem hd
  have h1 := h.lo m
  have h2 := h.hi m
  rw [List.getElem?_eq_getElem hm, Option.getD_some] at h1 h2
  refine ⟨h1, ?_⟩
  by_cases hk : m < k
  · rw [if_pos hk] at h2; exact h2
  · have : m = k := by omega
    subst this
    rw [List.getElem?_eq_getElem hm, Option.getD_some] at h0
    omega
end Go.Proofs.YtoncpcdepemlcaaGreatDoor
/- Times: its digits in memory, and a round of it (pure). -/
namespace Go.Proofs.YtoncpcdepemlcaaGreatDoor
open Go.RowKit

/-- Digits as cells. -/
def dcell (ds : List Int) : Array Value := (ds.map (Value.int .i64)).toArray
theorem dcell_get (ds : List Int) (m : Nat) (h : m < ds.length) : (dcell ds)[m]? = some (.int .i64 (ds[m]?.getD 0)) := by
  unfold dcell
  rw [List.getElem?_toArray, List.getElem?_map, List.getElem?_eq_getElem h]
  rfl
theorem dcell_set (ds : List Int) (m : Nat) (v : Int) : (dcell ds).setIfInBounds m (.int .i64 v) = dcell (ds.set m v) := by
  unfold dcell
  rw [List.map_set, List.setIfInBounds_toArray]
/-- What lies in memory while a product is made. -/
structure TiSt (w : World) (na nb : Bool) (va vb : Value) (ds : List Int) (wr : World) : Prop where
  ra : Row wr w.heap.size 72 #[.bool na, va]
  rb : Row wr (w.heap.size + 1) 72 #[.bool nb, vb]
  rz : Row wr (w.heap.size + 1 + 1) 72 #[.bool false, .slice none 0 0]
  rd : Row wr (w.heap.size + 1 + 1 + 1) 3 (dcell ds)
  be : Below w.heap.size w wr
theorem TiSt.drew {w : World} {na nb : Bool} {va vb : Value} {ds : List Int} {wr : World} (h : TiSt w na nb va vb ds wr) : TiSt w na nb va vb ds wr.drew := ⟨h.ra, h.rb, h.rz, h.rd, h.be.drew⟩
theorem Row.other {W : World} {B : Nat} {t : TypeId} {cs : Array Value} (h : Row W B t cs) {K : Nat} (hk : B ≠ K) (i : Nat) (v : Value) : Row (W.setCell ⟨K, i, none⟩ v) B t cs :=
  h.kept ((Kept.refl (fun b => b ≠ K) W).setCell (p := ⟨K, i, none⟩) (by simp) v) hk
theorem TiSt.set {w : World} {na nb : Bool} {va vb : Value} {ds : List Int} {wr : World} (h : TiSt w na nb va vb ds wr) (m : Nat) (v : Int) : TiSt w na nb va vb (ds.set m v) (wr.setCell ⟨w.heap.size + 1 + 1 + 1, m, none⟩ (.int .i64 v)) :=
  ⟨h.ra.other (by omega) _ _, h.rb.other (by omega) _ _, h.rz.other (by omega) _ _, by rw [← dcell_set]; exact Row.set m _ h.rd, below_set h.be m _ (by omega)⟩
theorem TiSt.at {w : World} {na nb : Bool} {va vb : Value} {ds : List Int} {wr : World} (h : TiSt w na nb va vb ds wr) (m : Nat) (hm : m < ds.length) : wr.cell? ⟨w.heap.size + 1 + 1 + 1, m, none⟩ = some (.int .i64 (ds[m]?.getD 0)) := h.rd.cell (dcell_get ds m hm)
theorem TiSt.dg {w : World} {na nb : Bool} {va vb : Value} {ds : List Int} {wr : World} (h : TiSt w na nb va vb ds wr) {n : Nat} (hn : ds.length = n) : DgAt wr (.slice (some ⟨w.heap.size + 1 + 1 + 1, 0, none⟩) n n) ds := by
  subst hn
  refine ⟨.inr ⟨w.heap.size + 1 + 1 + 1, 0, ds.length, rfl, h.rd.lt, fun j hj => ?_⟩, _, _, rfl, Nat.le_refl _, fun e => by simp at e⟩
  rw [Nat.zero_add]
  exact h.at j hj
/-- The outer loop: i digits are taken. -/
structure OuAt (da db ds : List Int) (i : Nat) : Prop where
  dg : DgL ds
  val : dval ds = dval (da.take i) * dval db
theorem OuAt.start (da db : List Int) (n : Nat) : OuAt da db (List.replicate n 0) 0 :=
  ⟨fun d hd => by rw [(List.mem_replicate.1 hd).2]; omega, by rw [dval_zeros (fun d hd => (List.mem_replicate.1 hd).2)]; simp [dval]⟩
theorem OuAt.first {da db ds : List Int} {i : Nat} (h : OuAt da db ds i) : PrAt (dval (da.take i) * dval db) (da[i]?.getD 0) i db ds 0 := by
  refine ⟨by rw [h.val]; simp [dval], fun m => (h.dg.get m).1, fun m => ?_⟩
  have := (h.dg.get m).2
  split <;> omega
theorem OuAt.next {da db ds : List Int} {i k : Nat} (hi : i < da.length) (ha : DgL da) (hb : DgL db) (h : CaAt (dval (da.take i) * dval db + da[i]?.getD 0 * 10 ^ i * dval db) ds k) (hl : k + 1 = ds.length) (hk : k = da.length + db.length) : OuAt da db ds (i + 1) := by
  rw [← Int.add_mul, ← dval_take_succ da i hi] at h
  refine ⟨h.digits hl ?_, h.val⟩
  have d1 : DgL (da.take (i + 1)) := fun d hd => ha d (List.mem_of_mem_take hd)
  have h1 := dval_lt d1
  have h2 := dval_lt hb
  have h3 := dval_nonneg d1
  have h4 := dval_nonneg hb
  have h5 : (10 : Int) ^ (da.take (i + 1)).length ≤ 10 ^ da.length := by
    have : (10 : Nat) ^ (da.take (i + 1)).length ≤ 10 ^ da.length := Nat.pow_le_pow_right (by decide) (by rw [List.length_take]; omega)
    exact_mod_cast this
  have h6 : (0 : Int) < 10 ^ da.length := Int.pow_pos (by decide)
  have h7 : (0 : Int) < 10 ^ db.length := Int.pow_pos (by decide)
  rw [hk, Int.pow_add]
  generalize (10 : Int) ^ da.length = p at *
  generalize (10 : Int) ^ db.length = q at *
  generalize dval (da.take (i + 1)) = x at *
  generalize dval db = y at *
  have e1 : x * y ≤ x * q := Int.mul_le_mul_of_nonneg_left (by omega) h3
  have e2 : x * q < p * q := Int.mul_lt_mul_of_pos_right (by omega) h7
  omega
end Go.Proofs.YtoncpcdepemlcaaGreatDoor
/- Quo: what lies in memory, and a round of it (pure). -/
namespace Go.Proofs.YtoncpcdepemlcaaGreatDoor
open Go.RowKit

/-- What lies in memory while a quotient is made. -/
structure QuSt (w : World) (va vb : Value) (ar : Option Addr) (nr cr : Nat) (qs : List Int) (r : Int) (wr : World) : Prop where
  ra : Row wr w.heap.size 72 #[.bool false, va]
  rb : Row wr (w.heap.size + 1) 72 #[.bool false, vb]
  y1 : Row wr (w.heap.size + 1 + 1) 72 #[.bool false, .slice none 0 0]
  y2 : Row wr (w.heap.size + 1 + 1 + 1) 72 #[.bool false, .slice none 0 0]
  rd : Row wr (w.heap.size + 1 + 1 + 1 + 1) 3 (dcell qs)
  rr : Row wr (w.heap.size + 1 + 1 + 1 + 1 + 1) 72 #[.bool false, .slice ar nr cr]
  dr : DgAt wr (.slice ar nr cr) (digs r.natAbs)
  be : Below w.heap.size w wr
theorem QuSt.mono {w : World} {va vb : Value} {ar : Option Addr} {nr cr : Nat} {qs : List Int} {r : Int} {wr wx : World} (h : QuSt w va vb ar nr cr qs r wr) (hb : Below wr.heap.size wr wx) : QuSt w va vb ar nr cr qs r wx :=
  ⟨h.ra.below hb h.ra.lt, h.rb.below hb h.rb.lt, h.y1.below hb h.y1.lt, h.y2.below hb h.y2.lt, h.rd.below hb h.rd.lt, h.rr.below hb h.rr.lt, h.dr.below hb, h.be.trans (hb.mono h.be.size)⟩
/-- Another rest is put. -/
theorem QuSt.put {w : World} {va vb : Value} {ar ar' : Option Addr} {nr cr nr' cr' : Nat} {qs : List Int} {r r' : Int} {wr : World} (h : QuSt w va vb ar nr cr qs r wr) (hD : DgAt wr (.slice ar' nr' cr') (digs r'.natAbs)) :
    QuSt w va vb ar' nr' cr' qs r' ((wr.setCell ⟨w.heap.size + 1 + 1 + 1 + 1 + 1, 0, none⟩ (.bool false)).setCell ⟨w.heap.size + 1 + 1 + 1 + 1 + 1, 1, none⟩ (.slice ar' nr' cr')) :=
  ⟨(h.ra.other (by omega) _ _).other (by omega) _ _, (h.rb.other (by omega) _ _).other (by omega) _ _, (h.y1.other (by omega) _ _).other (by omega) _ _, (h.y2.other (by omega) _ _).other (by omega) _ _, (h.rd.other (by omega) _ _).other (by omega) _ _,
    Row.set2 h.rr _ _, hD.store h.rr _ _, below_set (below_set h.be 0 _ (by omega)) 1 _ (by omega)⟩
/-- A place of the quotient is written. -/
theorem QuSt.set {w : World} {va vb : Value} {ar : Option Addr} {nr cr : Nat} {qs : List Int} {r : Int} {wr : World} (h : QuSt w va vb ar nr cr qs r wr) (hN : NewS (w.heap.size + 1 + 1 + 1 + 1 + 1) (.slice ar nr cr)) (m : Nat) (v : Int) : QuSt w va vb ar nr cr (qs.set m v) r (wr.setCell ⟨w.heap.size + 1 + 1 + 1 + 1, m, none⟩ (.int .i64 v)) :=
  ⟨h.ra.other (by omega) _ _, h.rb.other (by omega) _ _, h.y1.other (by omega) _ _, h.y2.other (by omega) _ _, by rw [← dcell_set]; exact Row.set m _ h.rd, h.rr.other (by omega) _ _, h.dr.off hN m _, below_set h.be m _ (by omega)⟩
theorem QuSt.at {w : World} {va vb : Value} {ar : Option Addr} {nr cr : Nat} {qs : List Int} {r : Int} {wr : World} (h : QuSt w va vb ar nr cr qs r wr) (m : Nat) (hm : m < qs.length) : wr.cell? ⟨w.heap.size + 1 + 1 + 1 + 1, m, none⟩ = some (.int .i64 (qs[m]?.getD 0)) := h.rd.cell (dcell_get qs m hm)
/-- The outer loop: what stands from place i on is parted. -/
structure QoAt (da qs : List Int) (B r : Int) (i : Nat) : Prop where
  le : qs.length = da.length
  dg : DgL qs
  lo : ∀ m : Nat, m < i → qs[m]?.getD 0 = 0
  re : r = dval (da.drop i) % B
  va : dval (qs.drop i) = dval (da.drop i) / B
/-- The inner loop: how often the divisor was taken off. -/
structure QiAt (da qs : List Int) (B r : Int) (i : Nat) (c : Int) (x : Int) : Prop where
  le : qs.length = da.length
  dg : DgL qs
  lo : ∀ m : Nat, m < i → qs[m]?.getD 0 = 0
  here : qs[i]?.getD 0 = c
  c0 : 0 ≤ c
  eq : x = c * B + r
  r0 : 0 ≤ r
  hi : x < 10 * B
  xe : ∃ X, dval (da.drop i) = 10 * X + (da[i]?.getD 0) ∧ x = 10 * (X % B) + da[i]?.getD 0 ∧ dval (qs.drop (i + 1)) = X / B
theorem QiAt.start {da qs : List Int} {B r : Int} {i : Nat} (h : QoAt da qs B r (i + 1)) (hd : DgL da) (hi : i < da.length) (hB : 0 < B) : QiAt da qs B (10 * r + da[i]?.getD 0) i 0 (10 * r + da[i]?.getD 0) := by
  have h1 := Int.emod_nonneg (dval (da.drop (i + 1))) (Int.ne_of_gt hB)
  have h2 := Int.emod_lt_of_pos (dval (da.drop (i + 1))) hB
  have h3 := hd.get i
  have h4 := h.re
  refine ⟨h.le, h.dg, fun m hm => h.lo m (by omega), h.lo i (by omega), Int.le_refl _, by omega, by omega, by omega, dval (da.drop (i + 1)), ?_, by rw [← h4], h.va⟩
  rw [dval_drop da i hi]; omega
theorem QiAt.step {da qs : List Int} {B r : Int} {i : Nat} {c x : Int} (h : QiAt da qs B r i c x) (hi : i < da.length) (hB : 0 < B) (hr : B ≤ r) : QiAt da (qs.set i (c + 1)) B (r - B) i (c + 1) x := by
  have hl : i < qs.length := by rw [h.le]; exact hi
  have e1 : (c + 1) * B = c * B + B := by rw [Int.add_mul, Int.one_mul]
  have h9 : c + 1 ≤ 9 := by
    have h1 := h.eq
    have h2 := h.hi
    rcases Int.lt_or_le 8 c with h4 | h4
    · have h5 : 9 * B ≤ c * B := Int.mul_le_mul_of_nonneg_right (by omega) (Int.le_of_lt hB)
      omega
    · omega
  refine ⟨by rw [List.length_set]; exact h.le, fun d hd => ?_, fun m hm => ?_, by rw [getD_set _ _ _ _ hl, if_pos rfl], by have := h.c0; omega, by have := h.eq; omega, by omega, h.hi, ?_⟩
  · rcases List.mem_or_eq_of_mem_set hd with hd | hd
    · exact h.dg d hd
    · rw [hd]; have := h.c0; omega
  · rw [getD_set _ _ _ _ hl, if_neg (by omega)]; exact h.lo m hm
  · obtain ⟨X, h1, h2, h3⟩ := h.xe
    exact ⟨X, h1, h2, by rw [List.drop_set_of_lt (by omega)]; exact h3⟩
theorem part_step (X d B : Int) (hB : 0 < B) : (10 * X + d) / B = 10 * (X / B) + (10 * (X % B) + d) / B ∧ (10 * X + d) % B = (10 * (X % B) + d) % B := by
  have h1 := Int.mul_ediv_add_emod X B
  have h2 : 10 * X + d = (10 * (X % B) + d) + B * (10 * (X / B)) := by
    rw [Int.mul_left_comm]
    omega
  rw [h2]
  exact ⟨by rw [Int.add_mul_ediv_left _ _ (Int.ne_of_gt hB)]; omega, by rw [Int.add_mul_emod_self_left]⟩
theorem QiAt.done {da qs : List Int} {B r : Int} {i : Nat} {c x : Int} (h : QiAt da qs B r i c x) (hi : i < da.length) (hB : 0 < B) (hr : r < B) : QoAt da qs B r i := by
  obtain ⟨X, h1, h2, h3⟩ := h.xe
  obtain ⟨p1, p2⟩ := part_step X (da[i]?.getD 0) B hB
  have hl : i < qs.length := by rw [h.le]; exact hi
  have e1 := h.eq
  have e2 : x / B = c := by
    rw [e1, Int.add_comm, Int.add_mul_ediv_right _ _ (Int.ne_of_gt hB), Int.ediv_eq_zero_of_lt h.r0 hr]; omega
  have e3 : x % B = r := by
    rw [e1, Int.add_comm, Int.add_mul_emod_self_right, Int.emod_eq_of_lt h.r0 hr]
  refine ⟨h.le, h.dg, h.lo, ?_, ?_⟩
  · rw [h1, p2, ← h2, e3]
  · rw [dval_drop qs i hl, h.here, h3, h1, p1, ← h2, e2]; omega
theorem QoAt.begin (da : List Int) (B : Int) : QoAt da (List.replicate da.length 0) B 0 da.length := by
  refine ⟨List.length_replicate, fun d hd => by rw [(List.mem_replicate.1 hd).2]; omega, fun m hm => by rw [List.getElem?_replicate]; split <;> rfl, ?_, ?_⟩
  · rw [List.drop_of_length_le (Nat.le_refl _)]; simp [dval]
  · rw [List.drop_of_length_le (by simp), List.drop_of_length_le (Nat.le_refl _)]; simp [dval]
end Go.Proofs.YtoncpcdepemlcaaGreatDoor
