import Derived.Test.YtfbhonjndepjbaaDoorRofM
import Derived.Test.YtfbhonjndepjbaaDoorOrdM
import Derived.Laws.MakeOwn
/- trim: a number without noughts at its end. -/
namespace Go.Proofs.YtfbhonjndepjbaaDoor
open Go.RowKit

/-- A number of a sign and digits. -/
def bval (neg : Bool) (ds : List Int) : Int := if neg then -dval ds else dval ds
theorem bval_zero {neg : Bool} {ds : List Int} (h : dval ds = 0) : bval neg ds = 0 := by unfold bval; rw [h]; cases neg <;> rfl
theorem bval_neg {neg : Bool} {ds : List Int} (h : DgL ds) (h0 : dval ds ≠ 0) : decide (bval neg ds < 0) = neg ∧ (bval neg ds).natAbs = (dval ds).toNat := by
  have := dval_nonneg h
  unfold bval
  cases neg
  · exact ⟨decide_eq_false (by simp; omega), by simp; omega⟩
  · exact ⟨decide_eq_true (by simp; omega), by simp; omega⟩
theorem cells_src {w : World} {b off : Nat} {ds : List Int} (n : Nat) (hn : n ≤ ds.length) (h : ∀ j : Nat, j < ds.length → w.cell? ⟨b, off + j, none⟩ = some (.int .i64 (ds[j]?.getD 0))) :
    ∀ (j : Nat) (u : Value), ((ds.take n).map (Value.int .i64))[j]? = some u → w.cell? ((⟨b, off, none⟩ : Addr).add j) = some u := by
  intro j u hu
  have hj : j < n := by
    by_cases hj : j < n
    · exact hj
    · rw [List.getElem?_eq_none (by simp; omega)] at hu; cases hu
  rw [Go.WideShapes.add_plain, h j (by omega)]
  rw [List.getElem?_map, List.getElem?_take_of_lt hj, List.getElem?_eq_getElem (by omega)] at hu
  rw [List.getElem?_eq_getElem (by omega)]
  exact hu
set_option maxRecDepth 100000 in
set_option maxHeartbeats 2000000 in
theorem trim_newB (neg : Bool) (sv : Value) (ds : List Int) (w : World) (hD : DgAt w sv ds) (hd : DgL ds) (hl : ds.length ≤ 3000) :
    Calls Tryd.prog 59 #[bv neg sv] w fun r w' => ∃ v, r = .returned v ∧ BigV w' (bval neg ds) v ∧ NewV w.heap.size v ∧ Below w.heap.size w w' := by
  obtain ⟨hI, a, cap, rfl, hcap, _⟩ := hD
  unfold bv
  obtain ⟨i0, hi, hzz⟩ := Option.map_eq_some_iff.1 Tryd.info3
  simp only [Prod.mk.injEq] at hzz
  obtain ⟨hz0, hz1, hz2⟩ := hzz
  have HI : Hid (IntsIn (· < w.heap.size) w (.slice a ds.length cap) ds) := hI
  have HDG : Hid (DgL ds) := hd
  have hcap2 : (ds.length : Int) ≤ (cap : Int) := by omega
  clear hI hd
  go_enter Tryd.func59, Tryd.ntmps59
  go_wp2_with fail
  have r1 := (Row.new w 45 #[.bool neg, .slice a ds.length cap]).alloc (.cells #[.bool false, .slice none 0 0] 45)
  have r2 := Row.new1 w (.cells #[.bool neg, .slice a ds.length cap] 45) 45 #[.bool false, .slice none 0 0]
  have hB := ((Below.refl _ w).alloc (Nat.le_refl _) (.cells #[.bool neg, .slice a ds.length cap] 45)).alloc (by simp) (.cells #[.bool false, .slice none 0 0] 45)
  obtain ⟨d0, d1⟩ := r1.duo
  go_wp2
  clear d0 d1
  go_loopw [3] (fun v wr => ∃ n : Nat, n ≤ ds.length ∧ v = .int .i64 (n : Int) ∧ Hid (∀ j, n ≤ j → ds[j]?.getD 0 = 0) ∧ Row wr w.heap.size 45 #[.bool neg, .slice a ds.length cap] ∧ Row wr (w.heap.size + 1) 45 #[.bool false, .slice none 0 0] ∧ Below w.heap.size w wr) (fun v _ => (intOf v).toNat)
  case atStart => exact ⟨ds.length, Nat.le_refl _, rfl, fun j hj => by rw [List.getElem?_eq_none hj]; rfl, r1, r2, hB⟩
  case round =>
    obtain ⟨n, hn, rfl, HZ, q1, q2, hBr⟩ := hrel
    clear r1 r2 hB
    obtain ⟨d0, d1⟩ := q1.duo
    obtain ⟨e0, e1⟩ := q2.duo
    by_cases h0 : n = 0
    · subst h0
      have z := q2.frozen
      have hz : dval ds = 0 := by
        refine dval_zeros fun d hd => ?_
        obtain ⟨i, hi, rfl⟩ := List.getElem_of_mem hd
        have := HZ.out i (Nat.zero_le _)
        rwa [List.getElem?_eq_getElem hi] at this
      have hBe := below_set (below_set hBr (B := w.heap.size + 1) 0 (.bool false) (by omega)) (B := w.heap.size + 1) 1 (.slice none 0 0) (by omega)
      have hZe := Row.set2 q2 (.bool false) (.slice none 0 0)
      have hlt := q2.lt
      have hlt1 := q1.lt
      go_wp2
      refine bodyPost_ret (ret_one rfl (g := w.heap.size + 1) rfl (load43 hZe rfl)) rfl ⟨_, rfl, ⟨.slice none 0 0, ?_, ?_⟩, ⟨_, _, rfl, new_nil _⟩, hBe⟩
      · rw [bval_zero hz]; rfl
      · rw [bval_zero hz]
        exact (show digs (0 : Int).natAbs = [] from digs_zero) ▸ dg_nil _
    · rcases HI.out.kept (Kept.of_below hBr (fun _ h => h)) with ⟨hnil, _⟩ | ⟨b, off, cap', he, hlt, hc⟩
      · exfalso; rw [hnil] at hn; simp at hn; omega
      · simp only [Value.slice.injEq, true_and] at he
        obtain ⟨rfl, rfl⟩ := he
        obtain ⟨m, hm⟩ : ∃ m, n = m + 1 := ⟨n - 1, by omega⟩
        have hnm : (n : Int) - 1 = (m : Int) := by omega
        have hmd : m < ds.length := by omega
        have cm := hc m hmd
        have hg0 : (0 : Int) < (n : Int) := by omega
        have hg1 : (m : Int) < (ds.length : Int) := by omega
        obtain ⟨d, hdd⟩ : ∃ d, ds[m]?.getD 0 = d := ⟨_, rfl⟩
        rw [hdd] at cm
        have HC : Hid (∀ j : Nat, j < ds.length → wr.cell? ⟨b, off + j, none⟩ = some (.int .i64 (ds[j]?.getD 0))) := hc
        have HDD : Hid (ds[m]?.getD 0 = d) := hdd
        have HM : Hid (n = m + 1) := hm
        have z1 := q1.lt
        have z2 := q2.lt
        clear hc hdd hm h0
        by_cases hd0 : d = 0
        · subst hd0
          have HZ2 : Hid (∀ j, m ≤ j → ds[j]?.getD 0 = 0) := by
            intro j hj
            by_cases hjm : j = m
            · rw [hjm]; exact HDD.out
            · exact HZ.out j (by have := HM.out; omega)
          go_wp2
          go_roundw
          case rel => exact ⟨m, by omega, rfl, HZ2, q1, q2, hBr⟩
          case measure => have := HM.out; simp [intOf]; omega
        · have g0 : (d == 0) = false := by simpa using hd0
          have g1 : ((n : Int) == 0) = false := by simp only [beq_eq_false_iff_ne]; omega
          obtain ⟨ht1, ht2⟩ := trim_digs HDG.out n hn HZ.out (.inr (by rw [show n - 1 = m by have := HM.out; omega, HDD.out]; exact hd0))
          have hv0 : dval ds ≠ 0 := by
            intro hv
            rw [hv, show (0 : Int).toNat = 0 from rfl, digs_zero] at ht1
            have := congrArg List.length ht1
            rw [List.length_take, List.length_nil] at this
            omega
          obtain ⟨hb1, hb2⟩ := bval_neg (neg := neg) HDG.out hv0
          have HT : Hid (ds.take n = digs (bval neg ds).natAbs ∧ decide (bval neg ds < 0) = neg) := ⟨by rw [hb2]; exact ht1, hb1⟩
          have HN1 : Hid (n ≤ ds.length) := hn
          clear ht1 ht2 hv0 hb1 hb2 HZ
          have hn1 : (n : Int) ≤ (cap : Int) := by omega
          go_wp2_with fail
          have hS : Below wr.heap.size wr wr.drew := (Below.refl _ wr).drew
          refine wp_region_M (fun wx : World => Below wr.heap.size wr wx) (fun j => decide (j < 9)) 10 rfl (by kernel_rfl) ?_
          refine wpM_held 0 (v := ?_) rfl (by kernel_rfl) (by kernel_rfl) rfl (fun _ _ _ h => h) rfl (by intro wx hx; go_simp <;> rfl) hS ?_
          refine wpM_held 1 (v := .bool neg) rfl (by kernel_rfl) (by kernel_rfl) rfl (fun _ _ _ h => h) rfl (by intro wx hx; obtain ⟨x0, x1⟩ := (q1.below hx q1.lt).duo; go_simp <;> rfl) hS ?_
          refine wpM_held 3 (v := ?_) rfl (by kernel_rfl) (by kernel_rfl) rfl (fun _ _ _ h => h) rfl (by intro wx hx; go_simp <;> rfl) hS ?_
          refine wpM_held 4 (v := .slice (some ⟨b, off, none⟩) ds.length cap) rfl (by kernel_rfl) (by kernel_rfl) rfl (fun _ _ _ h => h) rfl (by intro wx hx; obtain ⟨x0, x1⟩ := (q1.below hx q1.lt).duo; go_simp <;> rfl) hS ?_
          refine wpM_held 5 (v := .int .i64 (n : Int)) rfl (by kernel_rfl) (by kernel_rfl) rfl (fun _ _ _ h => h) rfl (by intro wx hx; go_simp <;> rfl) hS ?_
          refine wpM_held 6 (v := .slice (some ⟨b, off, none⟩) n cap) rfl (by kernel_rfl) (by kernel_rfl) rfl (fun _ _ _ h => h) rfl (by intro wx hx; go_simp <;> first | rfl | omega) hS ?_
          refine wpM_one 2 rfl (by kernel_rfl) rfl ?_
          go_wp2_with fail
          have hW1 : Below wr.heap.size wr (wr.alloc (.cells #[] 3)).drew := ((Below.refl _ wr).alloc (Nat.le_refl _) _).drew
          have hO0 : (wr.alloc (.cells #[] 3)).drew.ownsRow wr.heap.size 3 1 (.slice (some ⟨wr.heap.size, 0, none⟩) 0 0) 0 [] := World.ownsRow_made wr #[] 0 (Nat.le_refl _) (by unfold maxLen; omega) rfl
          have hzs : wr.heap.size ≤ (wr.alloc (.cells #[] 3)).drew.heap.size := hW1.size
          have HSRC : Hid (∀ (j : Nat) (u : Value), ((ds.take n).map (Value.int .i64))[j]? = some u → (wr.alloc (.cells #[] 3)).drew.cell? ((⟨b, off, none⟩ : Addr).add j) = some u) :=
            cells_src n HN1.out (fun j hj => ((Kept.of_below (S := fun k => k < wr.heap.size) hW1 (fun _ h => h)).cell (p := ⟨b, off + j, none⟩) (by show b < wr.heap.size; have : b < w.heap.size := hlt; omega)).trans (HC.out j hj))
          refine ⟨fun _ => hW1, ?_⟩
          generalize hWg : (wr.alloc (.cells #[] 3)).drew = W1 at *
          clear hWg
          have hlen : ((ds.take n).map (Value.int .i64)).length = n * 1 := by rw [List.length_map, List.length_take, Nat.min_eq_left HN1.out]; omega
          refine wpM_one 7 rfl (by kernel_rfl) rfl ?_
          refine wpList_append_own2 _ rfl (.tmp 25) (.tmp 29) 43 rfl wr.heap.size 3 i0 (.int .i64 0) 1 8 Tryd.underlying43 hi hz0 hz1 hz2 rfl (by decide) _ _ _ rfl hO0 ⟨b, off, none⟩ n cap ((ds.take n).map (Value.int .i64)) rfl hlen HSRC.out (by intro u hu; obtain ⟨x, _, rfl⟩ := List.mem_map.1 hu; rfl) (by unfold maxLen; omega) (by omega) hzs ?_
          intro v1 x1 hown1 hgrow1 hblk1
          have hW2 : Below wr.heap.size wr x1 := hW1.grown hgrow1 hzs (fun k e => (hO0.lt k e).1)
          have HO : Hid (OwnD wr.heap.size x1 v1 (ds.take n)) := by
            show OwnD _ _ _ _
            unfold OwnD
            rw [List.length_take, Nat.min_eq_left HN1.out]
            simpa using hown1
          rw [Nat.zero_add] at hown1
          obtain ⟨g1, k1, rfl⟩ := owns_form hown1
          clear hown1 hgrow1 hblk1 HSRC hO0 hlen
          go_wp2_with fail
          refine ⟨fun _ => hW2, ?_⟩
          have p2 := q2.below hW2 q2.lt
          obtain ⟨y0, y1⟩ := p2.duo
          have zf := p2.frozen
          refine wpM_one 8 rfl (by kernel_rfl) rfl ?_
          go_wp2_with fail
          refine ⟨fun _ => hW2, ?_⟩
          refine wpM_one 9 rfl (by kernel_rfl) rfl ?_
          go_wp2_with fail
          refine ⟨fun h => by simp at h, ?_⟩
          refine wpM_done (by kernel_rfl) ?_
          have hBx := hBr.trans (hW2.mono hBr.size)
          have hBe := below_set (below_set hBx (B := w.heap.size + 1) 0 (.bool neg) (by omega)) (B := w.heap.size + 1) 1 (.slice g1 n k1) (by omega)
          have hZe := Row.set2 p2 (.bool neg) (.slice g1 n k1)
          have hOe : DgAt ((x1.setCell ⟨w.heap.size + 1, 0, none⟩ (.bool neg)).setCell ⟨w.heap.size + 1, 1, none⟩ (.slice g1 n k1)) (.slice g1 n k1) (ds.take n) :=
            OwnD.dg (B := wr.heap.size) (owns_kept HO.out (((Kept.refl (fun k => k ≠ w.heap.size + 1) x1).setCell (p := ⟨w.heap.size + 1, 0, none⟩) (by simp) _).setCell (p := ⟨w.heap.size + 1, 1, none⟩) (by simp) _) (fun k hk e => by have := (HO.out.lt k hk).1; omega))
          go_wp2
          refine bodyPost_ret (ret_one rfl (g := w.heap.size + 1) rfl (load43 hZe rfl)) rfl ⟨_, rfl, ⟨.slice g1 n k1, ?_, ?_⟩, ⟨_, _, rfl, HO.out.new.mono hBr.size⟩, hBe⟩
          · rw [HT.out.2]; rfl
          · rw [← HT.out.1]; exact hOe
theorem trim_new (neg : Bool) (sv : Value) (ds : List Int) (w : World) (hD : DgAt w sv ds) (hd : DgL ds) (hl : ds.length ≤ 1000) :
    Calls Tryd.prog 59 #[bv neg sv] w fun r w' => ∃ v, r = .returned v ∧ BigV w' (bval neg ds) v ∧ NewV w.heap.size v ∧ Below w.heap.size w w' :=
  trim_newB neg sv ds w hD hd (by omega)
theorem trim_big (neg : Bool) (sv : Value) (ds : List Int) (w : World) (hD : DgAt w sv ds) (hd : DgL ds) (hl : ds.length ≤ 3000) :
    Calls Tryd.prog 59 #[bv neg sv] w fun r w' => ∃ v, r = .returned v ∧ BigV w' (bval neg ds) v ∧ Below w.heap.size w w' := by
  refine (trim_newB neg sv ds w hD hd hl).mono ?_
  rintro r w' ⟨v, h1, h2, _, h3⟩
  exact ⟨v, h1, h2, h3⟩
theorem trim_any (neg : Bool) (sv : Value) (ds : List Int) (w : World) (hD : DgAt w sv ds) (hd : DgL ds) (hl : ds.length ≤ 1000) :
    Calls Tryd.prog 59 #[bv neg sv] w fun r w' => ∃ v, r = .returned v ∧ BigV w' (bval neg ds) v ∧ Below w.heap.size w w' :=
  trim_big neg sv ds w hD hd (by omega)
end Go.Proofs.YtfbhonjndepjbaaDoor
/- Shift: times ten, again and again. -/
namespace Go.Proofs.YtfbhonjndepjbaaDoor
open Go.RowKit

theorem make41 (n : Nat) (hn : n ≤ 1000) (w : World) : (Instr.makeSlice 43 (.int .i64 (n : Int)) (.int .i64 (n : Int))).run Tryd.prog w = .ok (.slice (some ⟨w.heap.size, 0, none⟩) n n) (w.alloc (.cells (madeCells #[.int .i64 0] n) 3)) := by
  obtain ⟨i0, hi, hzz⟩ := Option.map_eq_some_iff.1 Tryd.info3
  simp only [Prod.mk.injEq] at hzz
  obtain ⟨hz0, hz1, hz2⟩ := hzz
  have := run_makeSlice (P := Tryd.prog) w 43 3 i0 _ Tryd.underlying43 hi hz0 .i64 .i64 (n : Int) (n : Int) (by omega) (by omega) (by rw [hz1]; simp; omega) (by rw [hz2]; omega) (by omega)
  rw [hz1] at this
  simpa [Value.cells] using this
theorem made_zeros (n : Nat) : (madeCells #[.int .i64 0] n).toList = (List.replicate n (0 : Int)).map (Value.int .i64) := by
  rw [toList_madeCells_one]
  simp
theorem shift_val (x : Int) (n : Nat) : bval (decide (x < 0)) (List.replicate n 0 ++ digs x.natAbs) = x * 10 ^ n ∧ DgL (List.replicate n 0 ++ digs x.natAbs) := by
  have h1 : dval (List.replicate n (0 : Int) ++ digs x.natAbs) = 10 ^ n * (x.natAbs : Int) := by
    rw [dval_append, dval_zeros (fun d hd => (List.mem_replicate.1 hd).2), List.length_replicate, dval_digs]
    omega
  refine ⟨?_, fun d hd => ?_⟩
  · unfold bval
    rw [h1, Int.mul_comm]
    by_cases h : x < 0
    · rw [decide_eq_true h, if_pos rfl, ← Int.neg_mul]
      congr 1; omega
    · rw [decide_eq_false h, if_neg (by simp)]
      congr 1; omega
  · rcases List.mem_append.1 hd with hd | hd
    · rw [(List.mem_replicate.1 hd).2]; omega
    · exact digs_dg _ d hd
theorem row_cell {W : World} {B i : Nat} {t : TypeId} {cs : Array Value} (h : Row W B t cs) : W.cell? ⟨B, i, none⟩ = cs[i]? := cell_of_row W B i cs t (0, 0) h
/-- A Big's cell is written: digits elsewhere stay. -/
theorem DgAt.store {W : World} {sv : Value} {ds : List Int} (h : DgAt W sv ds) {B : Nat} {p : Bool} {x : Option Addr} {y z : Nat} (hR : Row W B 45 #[.bool p, .slice x y z]) (u u' : Value) :
    DgAt ((W.setCell ⟨B, 0, none⟩ u).setCell ⟨B, 1, none⟩ u') sv ds := by
  refine ⟨?_, h.2⟩
  have hk := ((Kept.refl (fun k => k ≠ B) W).setCell (p := ⟨B, 0, none⟩) (by simp) u).setCell (p := ⟨B, 1, none⟩) (by simp) u'
  rcases h.1 with h0 | ⟨b, off, c, e, hb, hc⟩
  · exact .inl h0
  · by_cases h0 : ds = []
    · subst h0; exact .inl ⟨rfl, _, _, e⟩
    · have hl : 0 < ds.length := List.length_pos_iff.2 h0
      have hne : b ≠ B := by
        rintro rfl
        have h1 := hc 0 hl
        rw [row_cell hR] at h1
        match off, h1 with
        | 0, h1 => simp at h1
        | 1, h1 => simp at h1
        | o + 2, h1 => simp at h1
      exact .inr ⟨b, off, c, e, Nat.lt_of_lt_of_le hb hk.size, fun j hj => (hk.cell (p := ⟨b, off + j, none⟩) hne).trans (hc j hj)⟩
set_option maxRecDepth 100000 in
set_option maxHeartbeats 1000000 in
theorem shift_new (x : Int) (v : Value) (n : Nat) (w : World) (hV : BigV w x v) (hn : n ≤ 300) (hx : (digs x.natAbs).length ≤ 600) :
    Calls Tryd.prog 58 #[v, .int .i64 (n : Int)] w fun r w' => ∃ v', r = .returned v' ∧ BigV w' (x * 10 ^ n) v' ∧ NewV w.heap.size v' ∧ Below w.heap.size w w' := by
  obtain ⟨sv, rfl, hD⟩ := hV
  obtain ⟨hsv, hsd⟩ := shift_val x n
  have HT : ∀ W sv', DgAt W sv' (List.replicate n 0 ++ digs x.natAbs) → Hid (Calls Tryd.prog 59 #[.agg #[.bool (decide (x < 0)), sv']] W fun r w' => ∃ v', r = .returned v' ∧ BigV w' (x * 10 ^ n) v' ∧ NewV W.heap.size v' ∧ Below W.heap.size W w') := fun W sv' h => by
    have := trim_new (decide (x < 0)) sv' _ W h hsd (by rw [List.length_append, List.length_replicate]; omega)
    rw [hsv] at this
    exact this
  clear hsv hsd
  unfold bv
  generalize decide (x < 0) = neg at *
  generalize digs x.natAbs = ds at *
  obtain ⟨_, a, c, rfl, _, _⟩ := id hD
  have HD : Hid (DgAt w (.slice a ds.length c) ds) := hD
  clear hD
  go_enter Tryd.func58, Tryd.ntmps58
  go_wp2_with fail
  have r1 := (Row.new w 45 #[.bool neg, .slice a ds.length c]).alloc (.cells #[.bool false, .slice none 0 0] 45)
  have r2 := Row.new1 w (.cells #[.bool neg, .slice a ds.length c] 45) 45 #[.bool false, .slice none 0 0]
  have hB := ((Below.refl _ w).alloc (Nat.le_refl _) (.cells #[.bool neg, .slice a ds.length c] 45)).alloc (by simp) (.cells #[.bool false, .slice none 0 0] 45)
  generalize (w.alloc (.cells #[.bool neg, .slice a ds.length c] 45)).alloc (.cells #[.bool false, .slice none 0 0] 45) = W at *
  have hS : Below W.heap.size W W.drew := (Below.refl _ W).drew
  have hz2 := r2.lt
  refine wp_region_M (fun wx : World => Below W.heap.size W wx) (fun j => decide (j < 9)) 10 rfl (by kernel_rfl) ?_
  refine wpM_held 0 (v := ?_) rfl (by kernel_rfl) (by kernel_rfl) rfl (fun _ _ _ h => h) rfl (by intro wx hx; go_simp <;> rfl) hS ?_
  refine wpM_held 1 (v := .bool neg) rfl (by kernel_rfl) (by kernel_rfl) rfl (fun _ _ _ h => h) rfl (by intro wx hx; obtain ⟨x0, x1⟩ := (r1.below hx r1.lt).duo; go_simp <;> rfl) hS ?_
  refine wpM_held 2 (v := .int .i64 (n : Int)) rfl (by kernel_rfl) (by kernel_rfl) rfl (fun _ _ _ h => h) rfl (by intro wx hx; go_simp <;> rfl) hS ?_
  refine wpM_held 4 (v := ?_) rfl (by kernel_rfl) (by kernel_rfl) rfl (fun _ _ _ h => h) rfl (by intro wx hx; go_simp <;> rfl) hS ?_
  refine wpM_held 5 (v := .slice a ds.length c) rfl (by kernel_rfl) (by kernel_rfl) rfl (fun _ _ _ h => h) rfl (by intro wx hx; obtain ⟨x0, x1⟩ := (r1.below hx r1.lt).duo; go_simp <;> rfl) hS ?_
  refine wpM_one 3 rfl (by kernel_rfl) rfl ?_
  have mk := make41 n (by omega)
  go_wp2_with fail
  have hsz0 : (madeCells #[Value.int .i64 0] n).size = n * 1 := by rw [size_madeCells]; omega
  have hO0 : (W.alloc (.cells (madeCells #[.int .i64 0] n) 3)).drew.ownsRow W.heap.size 3 1 (.slice (some ⟨W.heap.size, 0, none⟩) n n) n ((List.replicate n (0 : Int)).map (Value.int .i64)) := by
    have := World.ownsRow_lit (base := W.heap.size) (e := 3) (size := 1) W (madeCells #[.int .i64 0] n) n (Nat.le_refl _) (by unfold maxLen; omega) hsz0
    rw [made_zeros] at this
    exact this
  have hW1 : Below W.heap.size W (W.alloc (.cells (madeCells #[.int .i64 0] n) 3)).drew := ((Below.refl _ W).alloc (Nat.le_refl _) _).drew
  clear mk hsz0
  generalize (W.alloc (.cells (madeCells #[.int .i64 0] n) 3)).drew = W1 at *
  refine ⟨fun _ => hW1, ?_⟩
  have hD1 : DgAt W1 (.slice a ds.length c) ds := (HD.out.below hB).below (hW1.mono (Nat.le_refl _))
  refine wpM_one 6 rfl (by kernel_rfl) rfl ?_
  refine wpList_append_dg _ rfl (.tmp 8) (.tmp 10) rfl W.heap.size _ _ _ rfl hO0 _ ds rfl hD1 (by omega) hW1.size ?_
  intro v1 x1 hown1 hgrow1
  have hW2 : Below W.heap.size W x1 := hW1.grown hgrow1 hW1.size (fun k e => (hO0.lt k e).1)
  have hDg : DgAt x1 v1 (List.replicate n 0 ++ ds) := by
    refine OwnD.dg (B := W.heap.size) ?_
    unfold OwnD
    rw [List.length_append, List.length_replicate, List.map_append]
    exact hown1
  obtain ⟨g1, k1, rfl⟩ := owns_form hown1
  have HTT := HT x1 _ hDg
  clear hown1 hgrow1 hO0 hD1 HT hDg
  go_wp2_with fail
  refine ⟨fun _ => hW2, ?_⟩
  refine wpM_one 7 rfl (by kernel_rfl) rfl ?_
  go_wp2_with fail
  refine ⟨fun _ => hW2, ?_⟩
  refine wpM_one 8 rfl (by kernel_rfl) rfl ?_
  go_wp2_with fail
  refine Calls.mono HTT.out ?_
  rintro _ x2 ⟨v2, rfl, hV2, hN2, hb2⟩
  obtain ⟨s2, rfl, hD2⟩ := hV2
  have hN2 := hN2.get.mono hW2.size
  have hW3 : Below W.heap.size W x2 := hW2.trans (hb2.mono hW2.size)
  obtain ⟨_, a2, c2, rfl, _, _⟩ := id hD2
  clear hb2 HTT
  unfold bv
  obtain ⟨ng, hng⟩ : ∃ ng, decide (x * 10 ^ n < 0) = ng := ⟨_, rfl⟩
  have HNG : Hid (decide (x * 10 ^ n < 0) = ng) := hng
  rw [hng]
  clear hng
  go_wp2_with fail
  refine ⟨fun _ => hW3, ?_⟩
  have p2 := r2.below hW3 r2.lt
  obtain ⟨y0, y1⟩ := p2.duo
  have zf := p2.frozen
  refine wpM_one 9 rfl (by kernel_rfl) rfl ?_
  go_wp2_with fail
  refine ⟨fun h => by simp at h, ?_⟩
  refine wpM_done (by kernel_rfl) ?_
  have hBx := hB.trans (hW3.mono (by omega))
  have hBe := below_set (below_set hBx (B := w.heap.size + 1) 0 (.bool ng) (by omega)) (B := w.heap.size + 1) 1 (.slice a2 (digs (x * 10 ^ n).natAbs).length c2) (by omega)
  have hZe := Row.set2 p2 (.bool ng) (.slice a2 (digs (x * 10 ^ n).natAbs).length c2)
  have hDe := hD2.store p2 (.bool ng) (.slice a2 (digs (x * 10 ^ n).natAbs).length c2)
  go_wp2
  exact bodyPost_ret (ret_one rfl (g := w.heap.size + 1) rfl (load43 hZe rfl)) rfl ⟨_, rfl, ⟨_, by rw [HNG.out]; rfl, hDe⟩, ⟨_, _, rfl, hN2.mono (by omega)⟩, hBe⟩
theorem shift_any (x : Int) (v : Value) (n : Nat) (w : World) (hV : BigV w x v) (hn : n ≤ 300) (hx : (digs x.natAbs).length ≤ 600) :
    Calls Tryd.prog 58 #[v, .int .i64 (n : Int)] w fun r w' => ∃ v', r = .returned v' ∧ BigV w' (x * 10 ^ n) v' ∧ Below w.heap.size w w' := by
  refine (shift_new x v n w hV hn hx).mono ?_
  rintro r w' ⟨v, h1, h2, _, h3⟩
  exact ⟨v, h1, h2, h3⟩
end Go.Proofs.YtfbhonjndepjbaaDoor
/- more: which of two rows of digits is the greater number. -/
namespace Go.Proofs.YtfbhonjndepjbaaDoor
open Go.RowKit

theorem dval_tail (ds : List Int) : dval ds = ds[0]?.getD 0 + 10 * dval ds.tail := by cases ds <;> simp [dval]
theorem tail_get (ds : List Int) (j : Nat) : ds.tail[j]?.getD 0 = ds[j + 1]?.getD 0 := by cases ds <;> simp
theorem dval_ext : ∀ (n : Nat) (a b : List Int), a.length ≤ n → b.length ≤ n → (∀ j : Nat, a[j]?.getD 0 = b[j]?.getD 0) → dval a = dval b
  | 0, a, b, ha, hb, _ => by rw [List.eq_nil_of_length_eq_zero (by omega : a.length = 0), List.eq_nil_of_length_eq_zero (by omega : b.length = 0)]
  | n + 1, a, b, ha, hb, h => by
    rw [dval_tail a, dval_tail b, h 0, dval_ext n a.tail b.tail (by simp; omega) (by simp; omega) (fun j => by rw [tail_get, tail_get, h])]
theorem dgl_tail {ds : List Int} (h : DgL ds) : DgL ds.tail := fun d hd => h d (List.mem_of_mem_tail hd)
theorem dval_more : ∀ (i : Nat) (a b : List Int), DgL a → DgL b → (∀ j : Nat, i < j → a[j]?.getD 0 = b[j]?.getD 0) → b[i]?.getD 0 < a[i]?.getD 0 → dval b < dval a
  | 0, a, b, ha, hb, h, hi => by
    rw [dval_tail a, dval_tail b, dval_ext (a.length + b.length) a.tail b.tail (by simp; omega) (by simp; omega) (fun j => by rw [tail_get, tail_get, h (j + 1) (by omega)])]
    omega
  | i + 1, a, b, ha, hb, h, hi => by
    have ih := dval_more i a.tail b.tail (dgl_tail ha) (dgl_tail hb) (fun j hj => by rw [tail_get, tail_get, h (j + 1) (by omega)]) (by rw [tail_get, tail_get]; exact hi)
    have h1 := ha.get 0
    have h2 := hb.get 0
    rw [dval_tail a, dval_tail b]
    omega
def cI (x y : Int) : Int := if y < x then 1 else if x < y then -1 else 0
set_option maxRecDepth 100000 in
set_option maxHeartbeats 2000000 in
theorem more_any (na nb : Bool) (sa sb : Value) (da db : List Int) (w : World) (hA : DgAt w sa da) (hB : DgAt w sb db) (ga : DgL da) (gb : DgL db) (la : da.length ≤ 3000) (lb : db.length ≤ 3000) :
    Calls Tryd.prog 70 #[bv na sa, bv nb sb] w fun r w' => r = .returned (.int .i64 (cI (dval da) (dval db))) ∧ Below w.heap.size w w' := by
  obtain ⟨_, a1, c1, rfl, _, _⟩ := id hA
  obtain ⟨_, a2, c2, rfl, _, _⟩ := id hB
  obtain ⟨ci, HCI⟩ : ∃ ci, Hid (cI (dval da) (dval db) = ci) := ⟨_, rfl⟩
  rw [HCI.out]
  have HA : Hid (DgAt w (.slice a1 da.length c1) da) := hA
  have HB : Hid (DgAt w (.slice a2 db.length c2) db) := hB
  have HGA : Hid (DgL da) := ga
  have HGB : Hid (DgL db) := gb
  have HAT : ∀ W (i : Nat), DgAt W (.slice a1 da.length c1) da → Hid (Calls Tryd.prog 76 #[.agg #[.bool na, .slice a1 da.length c1], .int .i64 (i : Int)] W fun r w' => r = .returned (.int .i64 (da[i]?.getD 0)) ∧ Below W.heap.size W w') := fun W i h => by
    have := at_any na a1 c1 da (i : Int) W h.1
    rw [if_pos (by omega), Int.toNat_natCast] at this
    exact this
  have HBT : ∀ W (i : Nat), DgAt W (.slice a2 db.length c2) db → Hid (Calls Tryd.prog 76 #[.agg #[.bool nb, .slice a2 db.length c2], .int .i64 (i : Int)] W fun r w' => r = .returned (.int .i64 (db[i]?.getD 0)) ∧ Below W.heap.size W w') := fun W i h => by
    have := at_any nb a2 c2 db (i : Int) W h.1
    rw [if_pos (by omega), Int.toNat_natCast] at this
    exact this
  unfold bv
  clear hA hB ga gb
  go_enter Tryd.func70, Tryd.ntmps70
  go_wp2_with fail
  have r1 := (Row.new w 45 #[.bool na, .slice a1 da.length c1]).alloc (.cells #[.bool nb, .slice a2 db.length c2] 45)
  have r2 := Row.new1 w (.cells #[.bool na, .slice a1 da.length c1] 45) 45 #[.bool nb, .slice a2 db.length c2]
  have hB0 := ((Below.refl _ w).alloc (Nat.le_refl _) (.cells #[.bool na, .slice a1 da.length c1] 45)).alloc (by simp) (.cells #[.bool nb, .slice a2 db.length c2] 45)
  obtain ⟨d0, d1⟩ := r1.duo
  obtain ⟨e0, e1⟩ := r2.duo
  go_wp2
  clear d0 d1 e0 e1
  go_loopw [5] (fun v wr => ∃ k : Nat, k ≤ da.length + db.length + 1 ∧ v = .int .i64 ((k : Int) - 1) ∧ Hid (∀ j : Nat, k ≤ j → da[j]?.getD 0 = db[j]?.getD 0) ∧ Row wr w.heap.size 45 #[.bool na, .slice a1 da.length c1] ∧ Row wr (w.heap.size + 1) 45 #[.bool nb, .slice a2 db.length c2] ∧ Hid (Below w.heap.size w wr)) (fun v _ => (intOf v + 1).toNat)
  case atStart => exact ⟨da.length + db.length + 1, Nat.le_refl _, by congr 1; omega, fun j hj => by rw [List.getElem?_eq_none (by omega), List.getElem?_eq_none (by omega)], r1, r2, hB0⟩
  case round =>
    obtain ⟨k, hk, rfl, HE, q1, q2, HBr⟩ := hrel
    clear r1 r2 hB0
    by_cases h0 : k = 0
    · subst h0
      have hci : ci = 0 := by
        rw [← HCI.out]
        have := dval_ext (da.length + db.length) da db (by omega) (by omega) (fun j => HE.out j (Nat.zero_le _))
        unfold cI; rw [this]; simp
      have HC0 : Hid (ci = 0) := hci
      clear hci
      go_wp2
      go_ret
      exact ⟨by rw [HC0.out]; rfl, HBr.out⟩
    · obtain ⟨i, hi⟩ : ∃ i, k = i + 1 := ⟨k - 1, by omega⟩
      have hki : (k : Int) - 1 = (i : Int) := by omega
      have HKI : Hid (k = i + 1) := hi
      obtain ⟨x, ha⟩ : ∃ x, da[i]?.getD 0 = x := ⟨_, rfl⟩
      obtain ⟨y, hb⟩ : ∃ y, db[i]?.getD 0 = y := ⟨_, rfl⟩
      have hbx := HGA.out.get i
      have hby := HGB.out.get i
      rw [ha] at hbx
      rw [hb] at hby
      have hB0 := HBr.out
      clear hi h0
      rcases Int.lt_trichotomy x y with hxy | hxy | hxy
      · have hci : Hid (ci = -1) := by
          show _ = _
          rw [← HCI.out]
          have := dval_more i db da HGB.out HGA.out (fun j hj => (HE.out j (by have := HKI.out; omega)).symm) (by rw [ha, hb]; exact hxy)
          unfold cI; rw [if_neg (by omega), if_pos this]
        have g1 : decide (y < x) = false := decide_eq_false (by omega)
        go_wp2_with fail
        have hS : Below wr.heap.size wr wr.drew := (Below.refl _ wr).drew
        refine wp_region_M (fun wx : World => Below wr.heap.size wr wx) (fun j => decide (j < 7)) 7 rfl (by kernel_rfl) ?_
        refine wpM_held 0 (v := .agg #[.bool na, .slice a1 da.length c1]) rfl (by kernel_rfl) (by kernel_rfl) rfl (fun _ _ _ h => h) rfl (by intro wx hx; obtain ⟨x0, x1⟩ := (q1.below hx q1.lt).duo; go_simp <;> rfl) hS ?_
        refine wpM_held 1 (v := .int .i64 (i : Int)) rfl (by kernel_rfl) (by kernel_rfl) rfl (fun _ _ _ h => h) rfl (by intro wx hx; go_simp <;> rfl) hS ?_
        refine wpM_held 3 (v := .agg #[.bool nb, .slice a2 db.length c2]) rfl (by kernel_rfl) (by kernel_rfl) rfl (fun _ _ _ h => h) rfl (by intro wx hx; obtain ⟨x0, x1⟩ := (q2.below hx q2.lt).duo; go_simp <;> rfl) hS ?_
        refine wpM_held 4 (v := .int .i64 (i : Int)) rfl (by kernel_rfl) (by kernel_rfl) rfl (fun _ _ _ h => h) rfl (by intro wx hx; go_simp <;> rfl) hS ?_
        refine wpM_one 2 rfl (by kernel_rfl) rfl ?_
        go_wp2_with fail
        refine Calls.mono (HAT _ i (HA.out.below (hB0.trans (hS.mono hB0.size)))).out ?_
        rintro _ wa ⟨rfl, ba⟩
        have hS1 : Below wr.heap.size wr wa := hS.trans (ba.mono hS.size)
        clear ba
        rw [ha]
        go_wp2_with fail
        refine ⟨fun _ => hS1, ?_⟩
        refine wpM_one 5 rfl (by kernel_rfl) rfl ?_
        go_wp2_with fail
        refine Calls.mono (HBT _ i (HB.out.below (hB0.trans (hS1.mono hB0.size)))).out ?_
        rintro _ wb ⟨rfl, bb⟩
        have hS2 : Below wr.heap.size wr wb := hS1.trans (bb.mono hS1.size)
        clear bb hS1 hS
        rw [hb]
        go_wp2_with fail
        refine ⟨fun _ => hS2, ?_⟩
        refine wpM_one 6 rfl (by kernel_rfl) rfl ?_
        go_wp2_with fail
        refine ⟨fun _ => hS2, ?_⟩
        refine wpM_done (by kernel_rfl) ?_
        have q1 := q1.below hS2 q1.lt
        have q2 := q2.below hS2 q2.lt
        have hB02 := hB0.trans (hS2.mono hB0.size)
        clear hS2
        clear HBr
        go_wp2_with fail
        have hS : Below wb.heap.size wb wb.drew := (Below.refl _ wb).drew
        refine wp_region_M (fun wx : World => Below wb.heap.size wb wx) (fun j => decide (j < 7)) 7 rfl (by kernel_rfl) ?_
        refine wpM_held 0 (v := .agg #[.bool na, .slice a1 da.length c1]) rfl (by kernel_rfl) (by kernel_rfl) rfl (fun _ _ _ h => h) rfl (by intro wx hx; obtain ⟨x0, x1⟩ := (q1.below hx q1.lt).duo; go_simp <;> rfl) hS ?_
        refine wpM_held 1 (v := .int .i64 (i : Int)) rfl (by kernel_rfl) (by kernel_rfl) rfl (fun _ _ _ h => h) rfl (by intro wx hx; go_simp <;> rfl) hS ?_
        refine wpM_held 3 (v := .agg #[.bool nb, .slice a2 db.length c2]) rfl (by kernel_rfl) (by kernel_rfl) rfl (fun _ _ _ h => h) rfl (by intro wx hx; obtain ⟨x0, x1⟩ := (q2.below hx q2.lt).duo; go_simp <;> rfl) hS ?_
        refine wpM_held 4 (v := .int .i64 (i : Int)) rfl (by kernel_rfl) (by kernel_rfl) rfl (fun _ _ _ h => h) rfl (by intro wx hx; go_simp <;> rfl) hS ?_
        refine wpM_one 2 rfl (by kernel_rfl) rfl ?_
        go_wp2_with fail
        refine Calls.mono (HAT _ i (HA.out.below (hB02.trans (hS.mono hB02.size)))).out ?_
        rintro _ wc ⟨rfl, ba⟩
        have hS1 : Below wb.heap.size wb wc := hS.trans (ba.mono hS.size)
        clear ba
        rw [ha]
        go_wp2_with fail
        refine ⟨fun _ => hS1, ?_⟩
        refine wpM_one 5 rfl (by kernel_rfl) rfl ?_
        go_wp2_with fail
        refine Calls.mono (HBT _ i (HB.out.below (hB02.trans (hS1.mono hB02.size)))).out ?_
        rintro _ wd ⟨rfl, bb⟩
        have hS2 : Below wb.heap.size wb wd := hS1.trans (bb.mono hS1.size)
        clear bb hS1 hS
        rw [hb]
        go_wp2_with fail
        refine ⟨fun _ => hS2, ?_⟩
        refine wpM_one 6 rfl (by kernel_rfl) rfl ?_
        go_wp2_with fail
        refine ⟨fun _ => hS2, ?_⟩
        refine wpM_done (by kernel_rfl) ?_
        have q1 := q1.below hS2 q1.lt
        have q2 := q2.below hS2 q2.lt
        have hB022 := hB02.trans (hS2.mono hB02.size)
        clear hS2
        go_wp2
        go_ret
        exact ⟨by rw [hci.out]; rfl, hB022⟩
      · have HXY : Hid (x = y) := hxy
        have g1 : decide (y < x) = false := decide_eq_false (by omega)
        have g2 : decide (x < y) = false := decide_eq_false (by omega)
        clear hxy
        go_wp2_with fail
        have hS : Below wr.heap.size wr wr.drew := (Below.refl _ wr).drew
        refine wp_region_M (fun wx : World => Below wr.heap.size wr wx) (fun j => decide (j < 7)) 7 rfl (by kernel_rfl) ?_
        refine wpM_held 0 (v := .agg #[.bool na, .slice a1 da.length c1]) rfl (by kernel_rfl) (by kernel_rfl) rfl (fun _ _ _ h => h) rfl (by intro wx hx; obtain ⟨x0, x1⟩ := (q1.below hx q1.lt).duo; go_simp <;> rfl) hS ?_
        refine wpM_held 1 (v := .int .i64 (i : Int)) rfl (by kernel_rfl) (by kernel_rfl) rfl (fun _ _ _ h => h) rfl (by intro wx hx; go_simp <;> rfl) hS ?_
        refine wpM_held 3 (v := .agg #[.bool nb, .slice a2 db.length c2]) rfl (by kernel_rfl) (by kernel_rfl) rfl (fun _ _ _ h => h) rfl (by intro wx hx; obtain ⟨x0, x1⟩ := (q2.below hx q2.lt).duo; go_simp <;> rfl) hS ?_
        refine wpM_held 4 (v := .int .i64 (i : Int)) rfl (by kernel_rfl) (by kernel_rfl) rfl (fun _ _ _ h => h) rfl (by intro wx hx; go_simp <;> rfl) hS ?_
        refine wpM_one 2 rfl (by kernel_rfl) rfl ?_
        go_wp2_with fail
        refine Calls.mono (HAT _ i (HA.out.below (hB0.trans (hS.mono hB0.size)))).out ?_
        rintro _ wa ⟨rfl, ba⟩
        have hS1 : Below wr.heap.size wr wa := hS.trans (ba.mono hS.size)
        clear ba
        rw [ha]
        go_wp2_with fail
        refine ⟨fun _ => hS1, ?_⟩
        refine wpM_one 5 rfl (by kernel_rfl) rfl ?_
        go_wp2_with fail
        refine Calls.mono (HBT _ i (HB.out.below (hB0.trans (hS1.mono hB0.size)))).out ?_
        rintro _ wb ⟨rfl, bb⟩
        have hS2 : Below wr.heap.size wr wb := hS1.trans (bb.mono hS1.size)
        clear bb hS1 hS
        rw [hb]
        go_wp2_with fail
        refine ⟨fun _ => hS2, ?_⟩
        refine wpM_one 6 rfl (by kernel_rfl) rfl ?_
        go_wp2_with fail
        refine ⟨fun _ => hS2, ?_⟩
        refine wpM_done (by kernel_rfl) ?_
        have q1 := q1.below hS2 q1.lt
        have q2 := q2.below hS2 q2.lt
        have hB02 := hB0.trans (hS2.mono hB0.size)
        clear hS2
        clear HBr
        go_wp2_with fail
        have hS : Below wb.heap.size wb wb.drew := (Below.refl _ wb).drew
        refine wp_region_M (fun wx : World => Below wb.heap.size wb wx) (fun j => decide (j < 7)) 7 rfl (by kernel_rfl) ?_
        refine wpM_held 0 (v := .agg #[.bool na, .slice a1 da.length c1]) rfl (by kernel_rfl) (by kernel_rfl) rfl (fun _ _ _ h => h) rfl (by intro wx hx; obtain ⟨x0, x1⟩ := (q1.below hx q1.lt).duo; go_simp <;> rfl) hS ?_
        refine wpM_held 1 (v := .int .i64 (i : Int)) rfl (by kernel_rfl) (by kernel_rfl) rfl (fun _ _ _ h => h) rfl (by intro wx hx; go_simp <;> rfl) hS ?_
        refine wpM_held 3 (v := .agg #[.bool nb, .slice a2 db.length c2]) rfl (by kernel_rfl) (by kernel_rfl) rfl (fun _ _ _ h => h) rfl (by intro wx hx; obtain ⟨x0, x1⟩ := (q2.below hx q2.lt).duo; go_simp <;> rfl) hS ?_
        refine wpM_held 4 (v := .int .i64 (i : Int)) rfl (by kernel_rfl) (by kernel_rfl) rfl (fun _ _ _ h => h) rfl (by intro wx hx; go_simp <;> rfl) hS ?_
        refine wpM_one 2 rfl (by kernel_rfl) rfl ?_
        go_wp2_with fail
        refine Calls.mono (HAT _ i (HA.out.below (hB02.trans (hS.mono hB02.size)))).out ?_
        rintro _ wc ⟨rfl, ba⟩
        have hS1 : Below wb.heap.size wb wc := hS.trans (ba.mono hS.size)
        clear ba
        rw [ha]
        go_wp2_with fail
        refine ⟨fun _ => hS1, ?_⟩
        refine wpM_one 5 rfl (by kernel_rfl) rfl ?_
        go_wp2_with fail
        refine Calls.mono (HBT _ i (HB.out.below (hB02.trans (hS1.mono hB02.size)))).out ?_
        rintro _ wd ⟨rfl, bb⟩
        have hS2 : Below wb.heap.size wb wd := hS1.trans (bb.mono hS1.size)
        clear bb hS1 hS
        rw [hb]
        go_wp2_with fail
        refine ⟨fun _ => hS2, ?_⟩
        refine wpM_one 6 rfl (by kernel_rfl) rfl ?_
        go_wp2_with fail
        refine ⟨fun _ => hS2, ?_⟩
        refine wpM_done (by kernel_rfl) ?_
        have q1 := q1.below hS2 q1.lt
        have q2 := q2.below hS2 q2.lt
        have hB022 := hB02.trans (hS2.mono hB02.size)
        clear hS2
        have HE2 : Hid (∀ j : Nat, i ≤ j → da[j]?.getD 0 = db[j]?.getD 0) := by
          intro j hj
          by_cases hji : j = i
          · rw [hji, ha, hb]; exact HXY.out
          · exact HE.out j (by have := HKI.out; omega)
        go_wp2
        go_roundw
        case rel => exact ⟨i, by have := HKI.out; omega, by go_num, HE2, q1, q2, hB022⟩
        case measure => have := HKI.out; simp [intOf]; omega
      · have hci : Hid (ci = 1) := by
          show _ = _
          rw [← HCI.out]
          have := dval_more i da db HGA.out HGB.out (fun j hj => HE.out j (by have := HKI.out; omega)) (by rw [ha, hb]; exact hxy)
          unfold cI; rw [if_pos this]
        go_wp2_with fail
        have hS : Below wr.heap.size wr wr.drew := (Below.refl _ wr).drew
        refine wp_region_M (fun wx : World => Below wr.heap.size wr wx) (fun j => decide (j < 7)) 7 rfl (by kernel_rfl) ?_
        refine wpM_held 0 (v := .agg #[.bool na, .slice a1 da.length c1]) rfl (by kernel_rfl) (by kernel_rfl) rfl (fun _ _ _ h => h) rfl (by intro wx hx; obtain ⟨x0, x1⟩ := (q1.below hx q1.lt).duo; go_simp <;> rfl) hS ?_
        refine wpM_held 1 (v := .int .i64 (i : Int)) rfl (by kernel_rfl) (by kernel_rfl) rfl (fun _ _ _ h => h) rfl (by intro wx hx; go_simp <;> rfl) hS ?_
        refine wpM_held 3 (v := .agg #[.bool nb, .slice a2 db.length c2]) rfl (by kernel_rfl) (by kernel_rfl) rfl (fun _ _ _ h => h) rfl (by intro wx hx; obtain ⟨x0, x1⟩ := (q2.below hx q2.lt).duo; go_simp <;> rfl) hS ?_
        refine wpM_held 4 (v := .int .i64 (i : Int)) rfl (by kernel_rfl) (by kernel_rfl) rfl (fun _ _ _ h => h) rfl (by intro wx hx; go_simp <;> rfl) hS ?_
        refine wpM_one 2 rfl (by kernel_rfl) rfl ?_
        go_wp2_with fail
        refine Calls.mono (HAT _ i (HA.out.below (hB0.trans (hS.mono hB0.size)))).out ?_
        rintro _ wa ⟨rfl, ba⟩
        have hS1 : Below wr.heap.size wr wa := hS.trans (ba.mono hS.size)
        clear ba
        rw [ha]
        go_wp2_with fail
        refine ⟨fun _ => hS1, ?_⟩
        refine wpM_one 5 rfl (by kernel_rfl) rfl ?_
        go_wp2_with fail
        refine Calls.mono (HBT _ i (HB.out.below (hB0.trans (hS1.mono hB0.size)))).out ?_
        rintro _ wb ⟨rfl, bb⟩
        have hS2 : Below wr.heap.size wr wb := hS1.trans (bb.mono hS1.size)
        clear bb hS1 hS
        rw [hb]
        go_wp2_with fail
        refine ⟨fun _ => hS2, ?_⟩
        refine wpM_one 6 rfl (by kernel_rfl) rfl ?_
        go_wp2_with fail
        refine ⟨fun _ => hS2, ?_⟩
        refine wpM_done (by kernel_rfl) ?_
        have q1 := q1.below hS2 q1.lt
        have q2 := q2.below hS2 q2.lt
        have hB02 := hB0.trans (hS2.mono hB0.size)
        clear hS2
        go_wp2
        go_ret
        exact ⟨by rw [hci.out]; rfl, hB02⟩
end Go.Proofs.YtfbhonjndepjbaaDoor
/- Pure: sums and differences of rows of digits, place by place. -/
namespace Go.Proofs.YtfbhonjndepjbaaDoor

theorem dval_take (l : List Int) (k : Nat) : dval (l.take (k + 1)) = dval (l.take k) + 10 ^ k * l[k]?.getD 0 := by
  by_cases h : k < l.length
  · rw [List.take_add_one, dval_append, List.length_take, Nat.min_eq_left (by omega), List.getElem?_eq_getElem h]
    simp [dval]
  · rw [List.take_of_length_le (by omega), List.take_of_length_le (by omega), List.getElem?_eq_none (by omega)]
    simp
theorem dval_lt {ds : List Int} (h : DgL ds) : dval ds < 10 ^ ds.length := by
  induction ds with
  | nil => simp [dval]
  | cons d r ih =>
    have h1 := h d (by simp)
    have h2 := ih (fun x hx => h x (by simp [hx]))
    show d + 10 * dval r < 10 ^ (r.length + 1)
    rw [Int.pow_succ]
    omega
theorem pow10_pos (k : Nat) : (0 : Int) < 10 ^ k := Int.pow_pos (by omega)
theorem dval_snoc (ds : List Int) (d : Int) : dval (ds ++ [d]) = dval ds + 10 ^ ds.length * d := by rw [dval_append]; simp [dval]
/-- One place of a sum. -/
theorem sum_place {da db ds : List Int} {k : Nat} {c d c' : Int} (hl : ds.length = k) (h : dval ds + 10 ^ k * c = dval (da.take k) + dval (db.take k)) (hn : da[k]?.getD 0 + db[k]?.getD 0 + c = 10 * c' + d) :
    dval (ds ++ [d]) + 10 ^ (k + 1) * c' = dval (da.take (k + 1)) + dval (db.take (k + 1)) := by
  rw [dval_take, dval_take, dval_snoc, hl, Int.pow_succ]
  have e : (10 : Int) ^ k * (da[k]?.getD 0 + db[k]?.getD 0 + c) = 10 ^ k * (10 * c' + d) := by rw [hn]
  rw [Int.mul_add, Int.mul_add, Int.mul_add] at e
  rw [Int.mul_assoc]
  omega
theorem less_place {da db ds : List Int} {k : Nat} {c d c' : Int} (hl : ds.length = k) (h : dval ds - 10 ^ k * c = dval (da.take k) - dval (db.take k)) (hn : da[k]?.getD 0 - db[k]?.getD 0 - c = d - 10 * c') :
    dval (ds ++ [d]) - 10 ^ (k + 1) * c' = dval (da.take (k + 1)) - dval (db.take (k + 1)) := by
  rw [dval_take, dval_take, dval_snoc, hl, Int.pow_succ]
  have e : (10 : Int) ^ k * (da[k]?.getD 0 - db[k]?.getD 0 - c) = 10 ^ k * (d - 10 * c') := by rw [hn]
  rw [Int.mul_sub, Int.mul_sub, Int.mul_sub] at e
  rw [Int.mul_assoc]
  omega
theorem sum_end {da db ds : List Int} {k : Nat} {c : Int} (ha : DgL da) (hb : DgL db) (hd : DgL ds) (hk : k = max da.length db.length + 1) (hc : 0 ≤ c) (h : dval ds + 10 ^ k * c = dval (da.take k) + dval (db.take k)) : dval ds = dval da + dval db := by
  rw [List.take_of_length_le (by omega), List.take_of_length_le (by omega)] at h
  have h1 := dval_lt ha
  have h2 := dval_lt hb
  have h3 := dval_nonneg hd
  have p1 : (10 : Int) ^ da.length ≤ 10 ^ (max da.length db.length) := by
    have := Nat.pow_le_pow_right (show 0 < 10 by decide) (Nat.le_max_left da.length db.length)
    exact_mod_cast this
  have p2 : (10 : Int) ^ db.length ≤ 10 ^ (max da.length db.length) := by
    have := Nat.pow_le_pow_right (show 0 < 10 by decide) (Nat.le_max_right da.length db.length)
    exact_mod_cast this
  rw [hk, Int.pow_succ] at h
  have hp := pow10_pos (max da.length db.length)
  generalize (10 : Int) ^ (max da.length db.length) = P at *
  by_cases h0 : c = 0
  · subst h0; simp at h; omega
  · exfalso
    have : P * 10 * 1 ≤ P * 10 * c := Int.mul_le_mul_of_nonneg_left (by omega) (by omega)
    omega
theorem less_end {da db ds : List Int} {c : Int} (ha : DgL da) (hb : DgL db) (hd : DgL ds) (hl : ds.length = da.length) (hle : dval db ≤ dval da) (hc : 0 ≤ c) (h : dval ds - 10 ^ da.length * c = dval (da.take da.length) - dval (db.take da.length)) : dval ds = dval da - dval db := by
  rw [List.take_length] at h
  have h1 := dval_lt ha
  have h4 := dval_lt hd
  rw [hl] at h4
  have e : dval db = dval (db.take da.length) + 10 ^ (db.take da.length).length * dval (db.drop da.length) := by
    rw [← dval_append, List.take_append_drop]
  have h5 := dval_nonneg (fun d hd' => hb d (List.mem_of_mem_drop hd') : DgL (db.drop da.length))
  have h6 := dval_nonneg (fun d hd' => hb d (List.mem_of_mem_take hd') : DgL (db.take da.length))
  have hp := pow10_pos da.length
  have e2 : dval db = dval (db.take da.length) := by
    by_cases hlen : db.length ≤ da.length
    · rw [List.take_of_length_le hlen]
    · rw [List.length_take, Nat.min_eq_left (by omega)] at e
      by_cases h0 : dval (db.drop da.length) = 0
      · rw [h0] at e; omega
      · exfalso
        have : (10 : Int) ^ da.length * 1 ≤ 10 ^ da.length * dval (db.drop da.length) := Int.mul_le_mul_of_nonneg_left (by omega) (by omega)
        omega
  rw [← e2] at h
  generalize (10 : Int) ^ da.length = P at *
  by_cases h0 : c = 0
  · subst h0; simp at h; omega
  · exfalso
    have : P * 1 ≤ P * c := Int.mul_le_mul_of_nonneg_left (by omega) (by omega)
    omega
end Go.Proofs.YtfbhonjndepjbaaDoor
/- A product, place by place (pure). -/
namespace Go.Proofs.YtfbhonjndepjbaaDoor

theorem dval_take_succ (bs : List Int) (k : Nat) (h : k < bs.length) : dval (bs.take (k + 1)) = dval (bs.take k) + bs[k]?.getD 0 * 10 ^ k := by
  rw [List.take_add_one, List.getElem?_eq_getElem h, dval_append]
  simp only [Option.toList_some, Option.getD_some, dval, List.length_take]
  rw [Nat.min_eq_left (Nat.le_of_lt h), Int.mul_zero, Int.add_zero, Int.mul_comm]
theorem getD_set (ds : List Int) (i m : Nat) (v : Int) (h : i < ds.length) : (ds.set i v)[m]?.getD 0 = if m = i then v else ds[m]?.getD 0 := by
  by_cases hm : m = i
  · subst hm; rw [List.getElem?_set_self h, if_pos rfl]; rfl
  · rw [List.getElem?_set_ne (fun h => hm h.symm), if_neg hm]
/-- k places of a digit's product are added. -/
structure PrAt (P x : Int) (i : Nat) (bs ds : List Int) (k : Nat) : Prop where
  val : dval ds = P + x * 10 ^ i * dval (bs.take k)
  lo : ∀ m : Nat, 0 ≤ ds[m]?.getD 0
  hi : ∀ m : Nat, ds[m]?.getD 0 ≤ if m < i + k then 90 else 9
theorem mul_dig {x y : Int} (hx : 0 ≤ x ∧ x ≤ 9) (hy : 0 ≤ y ∧ y ≤ 9) : 0 ≤ x * y ∧ x * y ≤ 81 := by
  refine ⟨Int.mul_nonneg hx.1 hy.1, ?_⟩
  have h1 := Int.mul_le_mul hx.2 hy.2 hy.1 (by decide : (0 : Int) ≤ 9)
  exact h1
theorem PrAt.step {P x : Int} {i k : Nat} {bs ds : List Int} (h : PrAt P x i bs ds k) (hx : 0 ≤ x ∧ x ≤ 9) (hb : DgL bs) (hk : k < bs.length) (hl : i + k < ds.length) :
    PrAt P x i bs (ds.set (i + k) (ds[i + k]?.getD 0 + x * bs[k]?.getD 0)) (k + 1) := by
  have hp := mul_dig hx (hb.get k)
  refine ⟨?_, fun m => ?_, fun m => ?_⟩
  · rw [dval_set _ _ _ hl, h.val, dval_take_succ bs k hk, Int.pow_add, Int.mul_add]
    generalize ds[i + k]?.getD 0 = d
    generalize bs[k]?.getD 0 = y
    rw [show d + x * y - d = x * y by omega, show x * y * (10 ^ i * 10 ^ k) = x * 10 ^ i * (y * 10 ^ k) by rw [Int.mul_assoc, Int.mul_assoc, ← Int.mul_assoc y, Int.mul_comm y (10 ^ i), Int.mul_assoc]]
    omega
  · rw [getD_set _ _ _ _ hl]
    have h1 := h.lo m
    have h2 := h.lo (i + k)
    split <;> omega
  · rw [getD_set _ _ _ _ hl]
    have h1 := h.hi m
    have h2 := h.hi (i + k)
    rw [if_neg (Nat.lt_irrefl _)] at h2
    split
    · rw [if_pos (by omega)]; omega
    · split at h1
      · rw [if_pos (by omega)]; exact h1
      · split <;> omega
/-- k places are carried on. -/
structure CaAt (P : Int) (ds : List Int) (k : Nat) : Prop where
  val : dval ds = P
  lo : ∀ m : Nat, 0 ≤ ds[m]?.getD 0
  hi : ∀ m : Nat, ds[m]?.getD 0 ≤ if m < k then 9 else if m = k then 100 else 90
theorem PrAt.carry {P x : Int} {i k : Nat} {bs ds : List Int} (h : PrAt P x i bs ds k) (hk : k = bs.length) : CaAt (P + x * 10 ^ i * dval bs) ds 0 := by
  refine ⟨?_, h.lo, fun m => ?_⟩
  · rw [h.val, hk, List.take_length]
  · have h1 := h.hi m
    rw [if_neg (Nat.not_lt_zero _)]
    split at h1 <;> split <;> omega
theorem CaAt.step {P : Int} {ds : List Int} {k : Nat} (h : CaAt P ds k) (hl : k + 1 < ds.length) :
    CaAt P ((ds.set (k + 1) (ds[k + 1]?.getD 0 + ds[k]?.getD 0 / 10)).set k (ds[k]?.getD 0 % 10)) (k + 1) := by
  have a0 := h.lo k
  have a1 := h.hi k
  have b0 := h.lo (k + 1)
  have b1 := h.hi (k + 1)
  rw [if_neg (by omega), if_pos rfl] at a1
  rw [if_neg (by omega), if_neg (by omega)] at b1
  refine ⟨(dval_carry ds k hl).trans h.val, fun m => ?_, fun m => ?_⟩
  · rw [getD_set _ _ _ _ (by simp; omega), getD_set _ _ _ _ hl]
    have h1 := h.lo m
    split
    · omega
    · split <;> omega
  · rw [getD_set _ _ _ _ (by simp; omega), getD_set _ _ _ _ hl]
    have h1 := h.hi m
    split
    · rw [if_pos (by omega)]; omega
    · split
      · rw [if_neg (by omega)]; omega
      · split at h1
        · rw [if_pos (by omega)]; exact h1
        · rw [if_neg (by omega)]; exact h1
theorem dval_ge {ds : List Int} (h : ∀ m : Nat, 0 ≤ ds[m]?.getD 0) (k : Nat) : ds[k]?.getD 0 * 10 ^ k ≤ dval ds ∧ 0 ≤ dval ds := by
  induction ds generalizing k with
  | nil => simp [dval]
  | cons d t ih =>
    have hd := h 0
    have ht : ∀ m : Nat, 0 ≤ t[m]?.getD 0 := fun m => by simpa using h (m + 1)
    simp only [List.getElem?_cons_zero, Option.getD_some] at hd
    have h0 := (ih ht 0).2
    refine ⟨?_, by simp only [dval]; omega⟩
    cases k with
    | zero => simp only [List.getElem?_cons_zero, Option.getD_some, dval, Int.pow_zero]; omega
    | succ k =>
      have h2 := (ih ht k).1
      simp only [List.getElem?_cons_succ, dval, Int.pow_succ]
      rw [← Int.mul_assoc]
      omega
/-- All is carried on, and the last place is nought. -/
theorem CaAt.digits {P : Int} {ds : List Int} {k : Nat} (h : CaAt P ds k) (hl : k + 1 = ds.length) (hP : P < 10 ^ k) : DgL ds := by
  have h0 : ds[k]?.getD 0 ≤ 0 := by
    have h1 := (dval_ge h.lo k).1
    rw [h.val] at h1
    have h2 := h.lo k
    rcases Int.lt_or_le 0 (ds[k]?.getD 0) with h3 | h3
    · have h4 : (10 : Int) ^ k * 1 ≤ 10 ^ k * ds[k]?.getD 0 := Int.mul_le_mul_of_nonneg_left (by omega) (Int.le_of_lt (Int.pow_pos (by decide)))
      rw [Int.mul_one, Int.mul_comm] at h4
      omega
    · exact h3
  intro d hd
  obtain ⟨m, hm, rfl⟩ := List.getElem_of_mem hd
  have h1 := h.lo m
  have h2 := h.hi m
  rw [List.getElem?_eq_getElem hm, Option.getD_some] at h1 h2
  refine ⟨h1, ?_⟩
  by_cases hk : m < k
  · rw [if_pos hk] at h2; exact h2
  · have : m = k := by omega
    subst this
    rw [List.getElem?_eq_getElem hm, Option.getD_some] at h0
    omega
end Go.Proofs.YtfbhonjndepjbaaDoor
/- Times: its digits in memory, and a round of it (pure). -/
namespace Go.Proofs.YtfbhonjndepjbaaDoor
open Go.RowKit

/-- Digits as cells. -/
def dcell (ds : List Int) : Array Value := (ds.map (Value.int .i64)).toArray
theorem dcell_get (ds : List Int) (m : Nat) (h : m < ds.length) : (dcell ds)[m]? = some (.int .i64 (ds[m]?.getD 0)) := by
  unfold dcell
  rw [List.getElem?_toArray, List.getElem?_map, List.getElem?_eq_getElem h]
  rfl
theorem dcell_set (ds : List Int) (m : Nat) (v : Int) : (dcell ds).setIfInBounds m (.int .i64 v) = dcell (ds.set m v) := by
  unfold dcell
  rw [List.map_set, List.setIfInBounds_toArray]
theorem dcell_zeros (n : Nat) : madeCells #[.int .i64 0] n = dcell (List.replicate n 0) := by
  apply Array.toList_inj.1
  rw [made_zeros]
  rfl
/-- What lies in memory while a product is made. -/
structure TiSt (w : World) (na nb : Bool) (va vb : Value) (ds : List Int) (wr : World) : Prop where
  ra : Row wr w.heap.size 45 #[.bool na, va]
  rb : Row wr (w.heap.size + 1) 45 #[.bool nb, vb]
  rz : Row wr (w.heap.size + 1 + 1) 45 #[.bool false, .slice none 0 0]
  rd : Row wr (w.heap.size + 1 + 1 + 1) 3 (dcell ds)
  be : Below w.heap.size w wr
theorem TiSt.drew {w : World} {na nb : Bool} {va vb : Value} {ds : List Int} {wr : World} (h : TiSt w na nb va vb ds wr) : TiSt w na nb va vb ds wr.drew := ⟨h.ra, h.rb, h.rz, h.rd, h.be.drew⟩
theorem Row.other {W : World} {B : Nat} {t : TypeId} {cs : Array Value} (h : Row W B t cs) {K : Nat} (hk : B ≠ K) (i : Nat) (v : Value) : Row (W.setCell ⟨K, i, none⟩ v) B t cs :=
  h.kept ((Kept.refl (fun b => b ≠ K) W).setCell (p := ⟨K, i, none⟩) (by simp) v) hk
theorem TiSt.set {w : World} {na nb : Bool} {va vb : Value} {ds : List Int} {wr : World} (h : TiSt w na nb va vb ds wr) (m : Nat) (v : Int) : TiSt w na nb va vb (ds.set m v) (wr.setCell ⟨w.heap.size + 1 + 1 + 1, m, none⟩ (.int .i64 v)) :=
  ⟨h.ra.other (by omega) _ _, h.rb.other (by omega) _ _, h.rz.other (by omega) _ _, by rw [← dcell_set]; exact Row.set m _ h.rd, below_set h.be m _ (by omega)⟩
theorem TiSt.at {w : World} {na nb : Bool} {va vb : Value} {ds : List Int} {wr : World} (h : TiSt w na nb va vb ds wr) (m : Nat) (hm : m < ds.length) : wr.cell? ⟨w.heap.size + 1 + 1 + 1, m, none⟩ = some (.int .i64 (ds[m]?.getD 0)) := h.rd.cell (dcell_get ds m hm)
theorem TiSt.dg {w : World} {na nb : Bool} {va vb : Value} {ds : List Int} {wr : World} (h : TiSt w na nb va vb ds wr) {n : Nat} (hn : ds.length = n) : DgAt wr (.slice (some ⟨w.heap.size + 1 + 1 + 1, 0, none⟩) n n) ds := by
  subst hn
  refine ⟨.inr ⟨w.heap.size + 1 + 1 + 1, 0, ds.length, rfl, h.rd.lt, fun j hj => ?_⟩, _, _, rfl, Nat.le_refl _, fun e => by simp at e⟩
  rw [Nat.zero_add]
  exact h.at j hj
/-- The outer loop: i digits are taken. -/
structure OuAt (da db ds : List Int) (i : Nat) : Prop where
  dg : DgL ds
  val : dval ds = dval (da.take i) * dval db
theorem OuAt.start (da db : List Int) (n : Nat) : OuAt da db (List.replicate n 0) 0 :=
  ⟨fun d hd => by rw [(List.mem_replicate.1 hd).2]; omega, by rw [dval_zeros (fun d hd => (List.mem_replicate.1 hd).2)]; simp [dval]⟩
theorem OuAt.first {da db ds : List Int} {i : Nat} (h : OuAt da db ds i) : PrAt (dval (da.take i) * dval db) (da[i]?.getD 0) i db ds 0 := by
  refine ⟨by rw [h.val]; simp [dval], fun m => (h.dg.get m).1, fun m => ?_⟩
  have := (h.dg.get m).2
  split <;> omega
theorem OuAt.next {da db ds : List Int} {i k : Nat} (hi : i < da.length) (ha : DgL da) (hb : DgL db) (h : CaAt (dval (da.take i) * dval db + da[i]?.getD 0 * 10 ^ i * dval db) ds k) (hl : k + 1 = ds.length) (hk : k = da.length + db.length) : OuAt da db ds (i + 1) := by
  rw [← Int.add_mul, ← dval_take_succ da i hi] at h
  refine ⟨h.digits hl ?_, h.val⟩
  have d1 : DgL (da.take (i + 1)) := fun d hd => ha d (List.mem_of_mem_take hd)
  have h1 := dval_lt d1
  have h2 := dval_lt hb
  have h3 := dval_nonneg d1
  have h4 := dval_nonneg hb
  have h5 : (10 : Int) ^ (da.take (i + 1)).length ≤ 10 ^ da.length := by
    have : (10 : Nat) ^ (da.take (i + 1)).length ≤ 10 ^ da.length := Nat.pow_le_pow_right (by decide) (by rw [List.length_take]; omega)
    exact_mod_cast this
  have h6 : (0 : Int) < 10 ^ da.length := Int.pow_pos (by decide)
  have h7 : (0 : Int) < 10 ^ db.length := Int.pow_pos (by decide)
  rw [hk, Int.pow_add]
  generalize (10 : Int) ^ da.length = p at *
  generalize (10 : Int) ^ db.length = q at *
  generalize dval (da.take (i + 1)) = x at *
  generalize dval db = y at *
  have e1 : x * y ≤ x * q := Int.mul_le_mul_of_nonneg_left (by omega) h3
  have e2 : x * q < p * q := Int.mul_lt_mul_of_pos_right (by omega) h7
  omega
end Go.Proofs.YtfbhonjndepjbaaDoor
/- sum: of two rows of digits. -/
namespace Go.Proofs.YtfbhonjndepjbaaDoor
open Go.RowKit

set_option maxRecDepth 100000 in
set_option maxHeartbeats 2000000 in
theorem sum_digs (na nb : Bool) (sa sb : Value) (da db : List Int) (w : World) (hA : DgAt w sa da) (hB : DgAt w sb db) (ga : DgL da) (gb : DgL db) (la : da.length ≤ 900) (lb : db.length ≤ 900) :
    Calls Tryd.prog 80 #[bv na sa, bv nb sb] w fun r w' => ∃ sv ds, r = .returned sv ∧ DgAt w' sv ds ∧ DgL ds ∧ dval ds = dval da + dval db ∧ ds.length ≤ max da.length db.length + 1 ∧ Below w.heap.size w w' := by
  obtain ⟨i0, hi, hzz⟩ := Option.map_eq_some_iff.1 Tryd.info3
  simp only [Prod.mk.injEq] at hzz
  obtain ⟨hz0, hz1, hz2⟩ := hzz
  obtain ⟨_, a1, c1, rfl, _, _⟩ := id hA
  obtain ⟨_, a2, c2, rfl, _, _⟩ := id hB
  have HA : Hid (DgAt w (.slice a1 da.length c1) da) := hA
  have HB : Hid (DgAt w (.slice a2 db.length c2) db) := hB
  have HGA : Hid (DgL da) := ga
  have HGB : Hid (DgL db) := gb
  have HAT : ∀ W (i : Nat), DgAt W (.slice a1 da.length c1) da → Hid (Calls Tryd.prog 76 #[.agg #[.bool na, .slice a1 da.length c1], .int .i64 (i : Int)] W fun r w' => r = .returned (.int .i64 (da[i]?.getD 0)) ∧ Below W.heap.size W w') := fun W i h => by
    have := at_any na a1 c1 da (i : Int) W h.1
    rw [if_pos (by omega), Int.toNat_natCast] at this
    exact this
  have HBT : ∀ W (i : Nat), DgAt W (.slice a2 db.length c2) db → Hid (Calls Tryd.prog 76 #[.agg #[.bool nb, .slice a2 db.length c2], .int .i64 (i : Int)] W fun r w' => r = .returned (.int .i64 (db[i]?.getD 0)) ∧ Below W.heap.size W w') := fun W i h => by
    have := at_any nb a2 c2 db (i : Int) W h.1
    rw [if_pos (by omega), Int.toNat_natCast] at this
    exact this
  unfold bv
  clear hA hB ga gb
  go_enter Tryd.func80, Tryd.ntmps80
  go_wp2_with fail
  have r1 := (Row.new w 45 #[.bool na, .slice a1 da.length c1]).alloc (.cells #[.bool nb, .slice a2 db.length c2] 45)
  have r2 := Row.new1 w (.cells #[.bool na, .slice a1 da.length c1] 45) 45 #[.bool nb, .slice a2 db.length c2]
  have hB0 := ((Below.refl _ w).alloc (Nat.le_refl _) (.cells #[.bool na, .slice a1 da.length c1] 45)).alloc (by simp) (.cells #[.bool nb, .slice a2 db.length c2] 45)
  obtain ⟨M, hM⟩ : ∃ M, max da.length db.length + 1 = M := ⟨_, rfl⟩
  have HM : Hid (M = max da.length db.length + 1) := hM.symm
  have hM2 : M ≤ 901 := by omega
  have hM3 : ∀ k : Nat, k < M ↔ (k ≤ da.length ∨ k ≤ db.length) := fun k => by omega
  have HM3 : Hid (∀ k : Nat, k < M ↔ (k ≤ da.length ∨ k ≤ db.length)) := hM3
  clear hM hM3
  go_wp2
  go_loopw [5, 6, 7] (fun v5 v6 v7 wr => ∃ (k : Nat) (c : Int) (ds : List Int), k ≤ M ∧ v7 = .int .i64 (k : Int) ∧ v6 = .int .i64 c ∧ OwnD w.heap.size wr v5 ds ∧ Hid (ds.length = k ∧ 0 ≤ c ∧ c ≤ 1 ∧ DgL ds ∧ dval ds + 10 ^ k * c = dval (da.take k) + dval (db.take k)) ∧ Row wr w.heap.size 45 #[.bool na, .slice a1 da.length c1] ∧ Row wr (w.heap.size + 1) 45 #[.bool nb, .slice a2 db.length c2] ∧ Below w.heap.size w wr) (fun _ _ v7 _ => M - (intOf v7).toNat)
  case atStart => exact ⟨0, 0, [], Nat.zero_le _, rfl, rfl, World.ownsRow_nil _ _ _ _, ⟨rfl, Int.le_refl _, by omega, fun d hd => by simp at hd, by simp [dval]⟩, r1, r2, hB0⟩
  case round =>
    obtain ⟨k, c, ds, hk, rfl, rfl, hO, HI, q1, q2, hB1⟩ := hrel
    clear r1 r2 hB0
    obtain ⟨d0, d1⟩ := q1.duo
    obtain ⟨e0, e1⟩ := q2.duo
    obtain ⟨gu, cu, rfl⟩ := hO.form
    have hcb := HI.out.2.1
    have hcb2 := HI.out.2.2.1
    have hdl : ds.length ≤ 901 := by rw [HI.out.1]; omega
    have hk9 : (k : Int) ≤ 901 := by omega
    by_cases hkM : k < M
    · have HK : Hid (k < M) := hkM
      have hor : (decide ((k : Int) ≤ (da.length : Int)) = true ∧ decide (k ≤ da.length) = true) ∨ ((decide ((k : Int) ≤ (da.length : Int)) = false ∧ decide (k ≤ da.length) = false) ∧ decide ((k : Int) ≤ (db.length : Int)) = true ∧ decide (k ≤ db.length) = true) := by
        have := (HM3.out k).1 hkM
        by_cases h : k ≤ da.length
        · exact .inl ⟨decide_eq_true (by omega), decide_eq_true (by omega)⟩
        · exact .inr ⟨⟨decide_eq_false (by omega), decide_eq_false (by omega)⟩, decide_eq_true (by omega), decide_eq_true (by omega)⟩
      obtain ⟨x, ha⟩ : ∃ x, da[k]?.getD 0 = x := ⟨_, rfl⟩
      obtain ⟨y, hb⟩ : ∃ y, db[k]?.getD 0 = y := ⟨_, rfl⟩
      have hbx := HGA.out.get k
      have hby := HGB.out.get k
      rw [ha] at hbx
      rw [hb] at hby
      have bx1 := hbx.1
      have bx2 := hbx.2
      have by1 := hby.1
      have by2 := hby.2
      obtain ⟨n, hn⟩ : ∃ n, x + y + c = n := ⟨_, rfl⟩
      have hn0 : 0 ≤ n := by omega
      have hn1 : n ≤ 19 := by omega
      obtain ⟨d, hd⟩ : ∃ d, n.tmod 10 = d := ⟨_, rfl⟩
      obtain ⟨c', hc'⟩ : ∃ c', n.tdiv 10 = c' := ⟨_, rfl⟩
      have hd9 : 0 ≤ d ∧ d ≤ 9 ∧ 0 ≤ c' ∧ c' ≤ 1 ∧ n = 10 * c' + d := by
        rw [← hd, ← hc', Int.tmod_eq_emod_of_nonneg hn0, Int.tdiv_eq_ediv_of_nonneg hn0]; omega
      have HI2 : Hid ((ds ++ [d]).length = k + 1 ∧ 0 ≤ c' ∧ c' ≤ 1 ∧ DgL (ds ++ [d]) ∧ dval (ds ++ [d]) + 10 ^ (k + 1) * c' = dval (da.take (k + 1)) + dval (db.take (k + 1))) := by
        obtain ⟨i1, i2, i3, i4, i5⟩ := HI.out
        refine ⟨by simp [i1], hd9.2.2.1, hd9.2.2.2.1, fun z hz => ?_, sum_place i1 i5 (by rw [ha, hb, hn]; exact hd9.2.2.2.2)⟩
        rcases List.mem_append.1 hz with hz | hz
        · exact i4 z hz
        · rw [List.mem_singleton.1 hz]; exact ⟨hd9.1, hd9.2.1⟩
      have bc1 := hd9.2.2.1
      have bc2 := hd9.2.2.2.1
      have bd1 := hd9.1
      have bd2 := hd9.2.1
      clear hd9 HI hbx hby hcb hcb2
      rcases hor with ⟨g1, g1n⟩ | ⟨⟨g1, g1n⟩, g2, g2n⟩
      · go_wp2_with fail
        have hS : Below wr.heap.size wr wr.drew := (Below.refl _ wr).drew
        refine wp_region_M (fun wx : World => Below wr.heap.size wr wx) (fun j => decide (j < 10)) 10 rfl (by kernel_rfl) ?_
        refine wpM_held 0 (v := .agg #[.bool na, .slice a1 da.length c1]) rfl (by kernel_rfl) (by kernel_rfl) rfl (fun _ _ _ h => h) rfl (by intro wx hx; obtain ⟨x0, x1⟩ := (q1.below hx q1.lt).duo; go_simp <;> rfl) hS ?_
        refine wpM_held 1 (v := .int .i64 (k : Int)) rfl (by kernel_rfl) (by kernel_rfl) rfl (fun _ _ _ h => h) rfl (by intro wx hx; go_simp <;> rfl) hS ?_
        refine wpM_held 3 (v := .agg #[.bool nb, .slice a2 db.length c2]) rfl (by kernel_rfl) (by kernel_rfl) rfl (fun _ _ _ h => h) rfl (by intro wx hx; obtain ⟨x0, x1⟩ := (q2.below hx q2.lt).duo; go_simp <;> rfl) hS ?_
        refine wpM_held 4 (v := .int .i64 (k : Int)) rfl (by kernel_rfl) (by kernel_rfl) rfl (fun _ _ _ h => h) rfl (by intro wx hx; go_simp <;> rfl) hS ?_
        refine wpM_held 7 (v := .int .i64 c) rfl (by kernel_rfl) (by kernel_rfl) rfl (fun _ _ _ h => h) rfl (by intro wx hx; go_simp <;> rfl) hS ?_
        refine wpM_one 2 rfl (by kernel_rfl) rfl ?_
        go_wp2_with fail
        refine Calls.mono (HAT _ k (HA.out.below (hB1.trans (hS.mono hB1.size)))).out ?_
        rintro _ wa ⟨rfl, ba⟩
        have hS1 : Below wr.heap.size wr wa := hS.trans (ba.mono hS.size)
        clear ba
        rw [ha]
        go_wp2_with fail
        refine ⟨fun _ => hS1, ?_⟩
        refine wpM_one 5 rfl (by kernel_rfl) rfl ?_
        go_wp2_with fail
        refine Calls.mono (HBT _ k (HB.out.below (hB1.trans (hS1.mono hB1.size)))).out ?_
        rintro _ wb ⟨rfl, bb⟩
        have hS2 : Below wr.heap.size wr wb := hS1.trans (bb.mono hS1.size)
        clear bb hS1 hS
        rw [hb]
        go_wp2_with fail
        refine ⟨fun _ => hS2, ?_⟩
        refine wpM_one 6 rfl (by kernel_rfl) rfl ?_
        go_wp2_with fail
        refine ⟨fun _ => hS2, ?_⟩
        refine wpM_one 8 rfl (by kernel_rfl) rfl ?_
        go_wp2_with fail
        refine ⟨fun _ => hS2, ?_⟩
        refine wpM_one 9 rfl (by kernel_rfl) rfl ?_
        go_wp2_with fail
        refine ⟨fun _ => hS2, ?_⟩
        refine wpM_done (by kernel_rfl) ?_
        have q1 := q1.below hS2 q1.lt
        have q2 := q2.below hS2 q2.lt
        have hB2 := hB1.trans (hS2.mono hB1.size)
        have hO2 := hO.below hS2
        clear hS2 hO hB1
        have hbs := hB2.size
        have HNW : Hid _ := new_one wb d
        have hO3 : (wb.alloc (.cells #[.int .i64 d] 3)).ownsRow w.heap.size 3 1 (.slice gu ds.length cu) ds.length (ds.map (Value.int .i64)) := World.ownsRow.alloc hO2 _
        have p1 := q1.alloc (.cells #[.int .i64 d] 3)
        have p2 := q2.alloc (.cells #[.int .i64 d] 3)
        have hB3 := hB2.alloc hbs (.cells #[.int .i64 d] 3)
        clear hO2 hB2 q1 q2
        go_wp2_with (at_builtin; refine wpList_append_own2 _ rfl (.tmp 32) (.tmp 35) 43 rfl w.heap.size 3 i0 (.int .i64 0) 1 8 Tryd.underlying43 hi hz0 hz1 hz2 rfl (by decide) _ _ _ rfl hO3 ⟨wb.heap.size, 0, none⟩ 1 1 [.int .i64 d] rfl rfl HNW.out (by simp [Value.oneCell']) (by unfold maxLen; omega) (by omega) (by simp; omega) ?_)
        intro v1 x1 hown1 hgrow1 hblk1
        have t1 := row_grownO p1 hO3 hgrow1 (by decide)
        have t2 := row_grownO p2 hO3 hgrow1 (by decide)
        have hB4 := below_grownO hB3 (by simp; omega) hO3 hgrow1
        have hO4 := OwnD.snoc hown1
        clear hown1 hgrow1 hblk1 p1 p2 hB3 hO3 HNW
        go_wp2
        go_roundw
        case rel => exact ⟨k + 1, c', ds ++ [d], HK.out, by go_num, rfl, hO4, HI2, t1, t2, hB4⟩
        case measure => have := HK.out; simp [intOf]; omega
      · go_wp2_with fail
        have hS : Below wr.heap.size wr wr.drew := (Below.refl _ wr).drew
        refine wp_region_M (fun wx : World => Below wr.heap.size wr wx) (fun j => decide (j < 10)) 10 rfl (by kernel_rfl) ?_
        refine wpM_held 0 (v := .agg #[.bool na, .slice a1 da.length c1]) rfl (by kernel_rfl) (by kernel_rfl) rfl (fun _ _ _ h => h) rfl (by intro wx hx; obtain ⟨x0, x1⟩ := (q1.below hx q1.lt).duo; go_simp <;> rfl) hS ?_
        refine wpM_held 1 (v := .int .i64 (k : Int)) rfl (by kernel_rfl) (by kernel_rfl) rfl (fun _ _ _ h => h) rfl (by intro wx hx; go_simp <;> rfl) hS ?_
        refine wpM_held 3 (v := .agg #[.bool nb, .slice a2 db.length c2]) rfl (by kernel_rfl) (by kernel_rfl) rfl (fun _ _ _ h => h) rfl (by intro wx hx; obtain ⟨x0, x1⟩ := (q2.below hx q2.lt).duo; go_simp <;> rfl) hS ?_
        refine wpM_held 4 (v := .int .i64 (k : Int)) rfl (by kernel_rfl) (by kernel_rfl) rfl (fun _ _ _ h => h) rfl (by intro wx hx; go_simp <;> rfl) hS ?_
        refine wpM_held 7 (v := .int .i64 c) rfl (by kernel_rfl) (by kernel_rfl) rfl (fun _ _ _ h => h) rfl (by intro wx hx; go_simp <;> rfl) hS ?_
        refine wpM_one 2 rfl (by kernel_rfl) rfl ?_
        go_wp2_with fail
        refine Calls.mono (HAT _ k (HA.out.below (hB1.trans (hS.mono hB1.size)))).out ?_
        rintro _ wa ⟨rfl, ba⟩
        have hS1 : Below wr.heap.size wr wa := hS.trans (ba.mono hS.size)
        clear ba
        rw [ha]
        go_wp2_with fail
        refine ⟨fun _ => hS1, ?_⟩
        refine wpM_one 5 rfl (by kernel_rfl) rfl ?_
        go_wp2_with fail
        refine Calls.mono (HBT _ k (HB.out.below (hB1.trans (hS1.mono hB1.size)))).out ?_
        rintro _ wb ⟨rfl, bb⟩
        have hS2 : Below wr.heap.size wr wb := hS1.trans (bb.mono hS1.size)
        clear bb hS1 hS
        rw [hb]
        go_wp2_with fail
        refine ⟨fun _ => hS2, ?_⟩
        refine wpM_one 6 rfl (by kernel_rfl) rfl ?_
        go_wp2_with fail
        refine ⟨fun _ => hS2, ?_⟩
        refine wpM_one 8 rfl (by kernel_rfl) rfl ?_
        go_wp2_with fail
        refine ⟨fun _ => hS2, ?_⟩
        refine wpM_one 9 rfl (by kernel_rfl) rfl ?_
        go_wp2_with fail
        refine ⟨fun _ => hS2, ?_⟩
        refine wpM_done (by kernel_rfl) ?_
        have q1 := q1.below hS2 q1.lt
        have q2 := q2.below hS2 q2.lt
        have hB2 := hB1.trans (hS2.mono hB1.size)
        have hO2 := hO.below hS2
        clear hS2 hO hB1
        have hbs := hB2.size
        have HNW : Hid _ := new_one wb d
        have hO3 : (wb.alloc (.cells #[.int .i64 d] 3)).ownsRow w.heap.size 3 1 (.slice gu ds.length cu) ds.length (ds.map (Value.int .i64)) := World.ownsRow.alloc hO2 _
        have p1 := q1.alloc (.cells #[.int .i64 d] 3)
        have p2 := q2.alloc (.cells #[.int .i64 d] 3)
        have hB3 := hB2.alloc hbs (.cells #[.int .i64 d] 3)
        clear hO2 hB2 q1 q2
        go_wp2_with (at_builtin; refine wpList_append_own2 _ rfl (.tmp 32) (.tmp 35) 43 rfl w.heap.size 3 i0 (.int .i64 0) 1 8 Tryd.underlying43 hi hz0 hz1 hz2 rfl (by decide) _ _ _ rfl hO3 ⟨wb.heap.size, 0, none⟩ 1 1 [.int .i64 d] rfl rfl HNW.out (by simp [Value.oneCell']) (by unfold maxLen; omega) (by omega) (by simp; omega) ?_)
        intro v1 x1 hown1 hgrow1 hblk1
        have t1 := row_grownO p1 hO3 hgrow1 (by decide)
        have t2 := row_grownO p2 hO3 hgrow1 (by decide)
        have hB4 := below_grownO hB3 (by simp; omega) hO3 hgrow1
        have hO4 := OwnD.snoc hown1
        clear hown1 hgrow1 hblk1 p1 p2 hB3 hO3 HNW
        go_wp2
        go_roundw
        case rel => exact ⟨k + 1, c', ds ++ [d], HK.out, by go_num, rfl, hO4, HI2, t1, t2, hB4⟩
        case measure => have := HK.out; simp [intOf]; omega
    · have hke : k = M := by omega
      have g1 : decide ((k : Int) ≤ (da.length : Int)) = false := decide_eq_false (by have := (HM3.out k).2; omega)
      have g2 : decide ((k : Int) ≤ (db.length : Int)) = false := decide_eq_false (by have := (HM3.out k).2; omega)
      have g3 : decide (k ≤ da.length) = false := decide_eq_false (by have := (HM3.out k).2; omega)
      have g4 : decide (k ≤ db.length) = false := decide_eq_false (by have := (HM3.out k).2; omega)
      obtain ⟨i1, i2, i3, i4, i5⟩ := HI.out
      have hres := sum_end HGA.out HGB.out i4 (hke.trans HM.out) i2 i5
      have HR : Hid (DgAt wr (.slice gu ds.length cu) ds ∧ DgL ds ∧ dval ds = dval da + dval db ∧ ds.length ≤ max da.length db.length + 1) := ⟨hO.dg, i4, hres, by rw [i1, hke, HM.out]; exact Nat.le_refl _⟩
      clear i1 i2 i3 i4 i5 hres hke hkM HI HM HM3
      go_wp2
      go_ret
      exact ⟨_, ds, rfl, HR.out.1, HR.out.2.1, HR.out.2.2.1, HR.out.2.2.2, hB1⟩
end Go.Proofs.YtfbhonjndepjbaaDoor
/- less: one row of digits less another. -/
namespace Go.Proofs.YtfbhonjndepjbaaDoor
open Go.RowKit

set_option maxRecDepth 100000 in
set_option maxHeartbeats 2000000 in
theorem less_digs (na nb : Bool) (sa sb : Value) (da db : List Int) (w : World) (hA : DgAt w sa da) (hB : DgAt w sb db) (ga : DgL da) (gb : DgL db) (la : da.length ≤ 900) (_lb : db.length ≤ 900) (hle : dval db ≤ dval da) :
    Calls Tryd.prog 81 #[bv na sa, bv nb sb] w fun r w' => ∃ sv ds, r = .returned sv ∧ DgAt w' sv ds ∧ DgL ds ∧ dval ds = dval da - dval db ∧ ds.length ≤ max da.length db.length + 1 ∧ Below w.heap.size w w' := by
  obtain ⟨i0, hi, hzz⟩ := Option.map_eq_some_iff.1 Tryd.info3
  simp only [Prod.mk.injEq] at hzz
  obtain ⟨hz0, hz1, hz2⟩ := hzz
  obtain ⟨_, a1, c1, rfl, _, _⟩ := id hA
  obtain ⟨_, a2, c2, rfl, _, _⟩ := id hB
  have HA : Hid (DgAt w (.slice a1 da.length c1) da) := hA
  have HB : Hid (DgAt w (.slice a2 db.length c2) db) := hB
  have HGA : Hid (DgL da) := ga
  have HGB : Hid (DgL db) := gb
  have HAT : ∀ W (i : Nat), DgAt W (.slice a1 da.length c1) da → Hid (Calls Tryd.prog 76 #[.agg #[.bool na, .slice a1 da.length c1], .int .i64 (i : Int)] W fun r w' => r = .returned (.int .i64 (da[i]?.getD 0)) ∧ Below W.heap.size W w') := fun W i h => by
    have := at_any na a1 c1 da (i : Int) W h.1
    rw [if_pos (by omega), Int.toNat_natCast] at this
    exact this
  have HBT : ∀ W (i : Nat), DgAt W (.slice a2 db.length c2) db → Hid (Calls Tryd.prog 76 #[.agg #[.bool nb, .slice a2 db.length c2], .int .i64 (i : Int)] W fun r w' => r = .returned (.int .i64 (db[i]?.getD 0)) ∧ Below W.heap.size W w') := fun W i h => by
    have := at_any nb a2 c2 db (i : Int) W h.1
    rw [if_pos (by omega), Int.toNat_natCast] at this
    exact this
  unfold bv
  clear hA hB ga gb
  go_enter Tryd.func81, Tryd.ntmps81
  go_wp2_with fail
  have r1 := (Row.new w 45 #[.bool na, .slice a1 da.length c1]).alloc (.cells #[.bool nb, .slice a2 db.length c2] 45)
  have r2 := Row.new1 w (.cells #[.bool na, .slice a1 da.length c1] 45) 45 #[.bool nb, .slice a2 db.length c2]
  have hB0 := ((Below.refl _ w).alloc (Nat.le_refl _) (.cells #[.bool na, .slice a1 da.length c1] 45)).alloc (by simp) (.cells #[.bool nb, .slice a2 db.length c2] 45)
  have HLE : Hid (dval db ≤ dval da) := hle
  clear hle
  go_wp2
  go_loopw [5, 6, 7] (fun v5 v6 v7 wr => ∃ (k : Nat) (c : Int) (ds : List Int), k ≤ da.length ∧ v7 = .int .i64 (k : Int) ∧ v6 = .int .i64 c ∧ OwnD w.heap.size wr v5 ds ∧ Hid (ds.length = k ∧ 0 ≤ c ∧ c ≤ 1 ∧ DgL ds ∧ dval ds - 10 ^ k * c = dval (da.take k) - dval (db.take k)) ∧ Row wr w.heap.size 45 #[.bool na, .slice a1 da.length c1] ∧ Row wr (w.heap.size + 1) 45 #[.bool nb, .slice a2 db.length c2] ∧ Below w.heap.size w wr) (fun _ _ v7 _ => da.length - (intOf v7).toNat)
  case atStart => exact ⟨0, 0, [], Nat.zero_le _, rfl, rfl, World.ownsRow_nil _ _ _ _, ⟨rfl, Int.le_refl _, by omega, fun d hd => by simp at hd, by simp [dval]⟩, r1, r2, hB0⟩
  case round =>
    obtain ⟨k, c, ds, hk, rfl, rfl, hO, HI, q1, q2, hB1⟩ := hrel
    clear r1 r2 hB0
    obtain ⟨d0, d1⟩ := q1.duo
    obtain ⟨e0, e1⟩ := q2.duo
    obtain ⟨gu, cu, rfl⟩ := hO.form
    have hcb := HI.out.2.1
    have hcb2 := HI.out.2.2.1
    have hdl : ds.length ≤ 901 := by rw [HI.out.1]; omega
    have hk9 : (k : Int) ≤ 901 := by omega
    by_cases hkM : k < da.length
    · have HK : Hid (k < da.length) := hkM
      have g0 : (k : Int) < (da.length : Int) := by omega
      obtain ⟨x, ha⟩ : ∃ x, da[k]?.getD 0 = x := ⟨_, rfl⟩
      obtain ⟨y, hb⟩ : ∃ y, db[k]?.getD 0 = y := ⟨_, rfl⟩
      have hbx := HGA.out.get k
      have hby := HGB.out.get k
      rw [ha] at hbx
      rw [hb] at hby
      have bx1 := hbx.1
      have bx2 := hbx.2
      have by1 := hby.1
      have by2 := hby.2
      obtain ⟨n, hn⟩ : ∃ n, x - y - c = n := ⟨_, rfl⟩
      have hn0 : -10 ≤ n := by omega
      have hn1 : n ≤ 9 := by omega
      have key : ∀ d c' : Int, 0 ≤ d → d ≤ 9 → 0 ≤ c' → c' ≤ 1 → n = d - 10 * c' → Hid ((ds ++ [d]).length = k + 1 ∧ 0 ≤ c' ∧ c' ≤ 1 ∧ DgL (ds ++ [d]) ∧ dval (ds ++ [d]) - 10 ^ (k + 1) * c' = dval (da.take (k + 1)) - dval (db.take (k + 1))) := by
        intro d c' h1 h2 h3 h4 h5
        obtain ⟨i1, i2, i3, i4, i5⟩ := HI.out
        refine ⟨by simp [i1], h3, h4, fun z hz => ?_, less_place i1 i5 (by rw [ha, hb, hn]; exact h5)⟩
        rcases List.mem_append.1 hz with hz | hz
        · exact i4 z hz
        · rw [List.mem_singleton.1 hz]; exact ⟨h1, h2⟩
      by_cases hneg : n < 0
      · have HI2 := key (n + 10) 1 (by omega) (by omega) (by omega) (by omega) (by omega)
        clear key HI hbx hby hcb hcb2
        go_wp2_with fail
        have hS : Below wr.heap.size wr wr.drew := (Below.refl _ wr).drew
        refine wp_region_M (fun wx : World => Below wr.heap.size wr wx) (fun j => decide (j < 10)) 10 rfl (by kernel_rfl) ?_
        refine wpM_held 0 (v := .agg #[.bool na, .slice a1 da.length c1]) rfl (by kernel_rfl) (by kernel_rfl) rfl (fun _ _ _ h => h) rfl (by intro wx hx; obtain ⟨x0, x1⟩ := (q1.below hx q1.lt).duo; go_simp <;> rfl) hS ?_
        refine wpM_held 1 (v := .int .i64 (k : Int)) rfl (by kernel_rfl) (by kernel_rfl) rfl (fun _ _ _ h => h) rfl (by intro wx hx; go_simp <;> rfl) hS ?_
        refine wpM_held 3 (v := .agg #[.bool nb, .slice a2 db.length c2]) rfl (by kernel_rfl) (by kernel_rfl) rfl (fun _ _ _ h => h) rfl (by intro wx hx; obtain ⟨x0, x1⟩ := (q2.below hx q2.lt).duo; go_simp <;> rfl) hS ?_
        refine wpM_held 4 (v := .int .i64 (k : Int)) rfl (by kernel_rfl) (by kernel_rfl) rfl (fun _ _ _ h => h) rfl (by intro wx hx; go_simp <;> rfl) hS ?_
        refine wpM_held 7 (v := .int .i64 c) rfl (by kernel_rfl) (by kernel_rfl) rfl (fun _ _ _ h => h) rfl (by intro wx hx; go_simp <;> rfl) hS ?_
        refine wpM_one 2 rfl (by kernel_rfl) rfl ?_
        go_wp2_with fail
        refine Calls.mono (HAT _ k (HA.out.below (hB1.trans (hS.mono hB1.size)))).out ?_
        rintro _ wa ⟨rfl, ba⟩
        have hS1 : Below wr.heap.size wr wa := hS.trans (ba.mono hS.size)
        clear ba
        rw [ha]
        go_wp2_with fail
        refine ⟨fun _ => hS1, ?_⟩
        refine wpM_one 5 rfl (by kernel_rfl) rfl ?_
        go_wp2_with fail
        refine Calls.mono (HBT _ k (HB.out.below (hB1.trans (hS1.mono hB1.size)))).out ?_
        rintro _ wb ⟨rfl, bb⟩
        have hS2 : Below wr.heap.size wr wb := hS1.trans (bb.mono hS1.size)
        clear bb hS1 hS
        rw [hb]
        go_wp2_with fail
        refine ⟨fun _ => hS2, ?_⟩
        refine wpM_one 6 rfl (by kernel_rfl) rfl ?_
        go_wp2_with fail
        refine ⟨fun _ => hS2, ?_⟩
        refine wpM_one 8 rfl (by kernel_rfl) rfl ?_
        go_wp2_with fail
        refine ⟨fun _ => hS2, ?_⟩
        refine wpM_one 9 rfl (by kernel_rfl) rfl ?_
        go_wp2_with fail
        refine ⟨fun _ => hS2, ?_⟩
        refine wpM_done (by kernel_rfl) ?_
        have q1 := q1.below hS2 q1.lt
        have q2 := q2.below hS2 q2.lt
        have hB2 := hB1.trans (hS2.mono hB1.size)
        have hO2 := hO.below hS2
        clear hS2 hO hB1
        have hbs := hB2.size
        have HNW : Hid _ := new_one wb (n + 10)
        have hO3 : (wb.alloc (.cells #[.int .i64 (n + 10)] 3)).ownsRow w.heap.size 3 1 (.slice gu ds.length cu) ds.length (ds.map (Value.int .i64)) := World.ownsRow.alloc hO2 _
        have p1 := q1.alloc (.cells #[.int .i64 (n + 10)] 3)
        have p2 := q2.alloc (.cells #[.int .i64 (n + 10)] 3)
        have hB3 := hB2.alloc hbs (.cells #[.int .i64 (n + 10)] 3)
        clear hO2 hB2 q1 q2
        go_wp2_with (at_builtin; refine wpList_append_own2 _ rfl (.tmp 29) (.tmp 31) 43 rfl w.heap.size 3 i0 (.int .i64 0) 1 8 Tryd.underlying43 hi hz0 hz1 hz2 rfl (by decide) _ _ _ rfl hO3 ⟨wb.heap.size, 0, none⟩ 1 1 [.int .i64 (n + 10)] rfl rfl HNW.out (by simp [Value.oneCell']) (by unfold maxLen; omega) (by omega) (by simp; omega) ?_)
        intro v1 x1 hown1 hgrow1 hblk1
        have t1 := row_grownO p1 hO3 hgrow1 (by decide)
        have t2 := row_grownO p2 hO3 hgrow1 (by decide)
        have hB4 := below_grownO hB3 (by simp; omega) hO3 hgrow1
        have hO4 := OwnD.snoc hown1
        clear hown1 hgrow1 hblk1 p1 p2 hB3 hO3 HNW
        go_wp2
        go_roundw
        case rel => exact ⟨k + 1, 1, ds ++ [n + 10], HK.out, by go_num, rfl, hO4, HI2, t1, t2, hB4⟩
        case measure => have := HK.out; simp [intOf]; omega
      · have HI2 := key n 0 (by omega) (by omega) (by omega) (by omega) (by omega)
        clear key HI hbx hby hcb hcb2
        go_wp2_with fail
        have hS : Below wr.heap.size wr wr.drew := (Below.refl _ wr).drew
        refine wp_region_M (fun wx : World => Below wr.heap.size wr wx) (fun j => decide (j < 10)) 10 rfl (by kernel_rfl) ?_
        refine wpM_held 0 (v := .agg #[.bool na, .slice a1 da.length c1]) rfl (by kernel_rfl) (by kernel_rfl) rfl (fun _ _ _ h => h) rfl (by intro wx hx; obtain ⟨x0, x1⟩ := (q1.below hx q1.lt).duo; go_simp <;> rfl) hS ?_
        refine wpM_held 1 (v := .int .i64 (k : Int)) rfl (by kernel_rfl) (by kernel_rfl) rfl (fun _ _ _ h => h) rfl (by intro wx hx; go_simp <;> rfl) hS ?_
        refine wpM_held 3 (v := .agg #[.bool nb, .slice a2 db.length c2]) rfl (by kernel_rfl) (by kernel_rfl) rfl (fun _ _ _ h => h) rfl (by intro wx hx; obtain ⟨x0, x1⟩ := (q2.below hx q2.lt).duo; go_simp <;> rfl) hS ?_
        refine wpM_held 4 (v := .int .i64 (k : Int)) rfl (by kernel_rfl) (by kernel_rfl) rfl (fun _ _ _ h => h) rfl (by intro wx hx; go_simp <;> rfl) hS ?_
        refine wpM_held 7 (v := .int .i64 c) rfl (by kernel_rfl) (by kernel_rfl) rfl (fun _ _ _ h => h) rfl (by intro wx hx; go_simp <;> rfl) hS ?_
        refine wpM_one 2 rfl (by kernel_rfl) rfl ?_
        go_wp2_with fail
        refine Calls.mono (HAT _ k (HA.out.below (hB1.trans (hS.mono hB1.size)))).out ?_
        rintro _ wa ⟨rfl, ba⟩
        have hS1 : Below wr.heap.size wr wa := hS.trans (ba.mono hS.size)
        clear ba
        rw [ha]
        go_wp2_with fail
        refine ⟨fun _ => hS1, ?_⟩
        refine wpM_one 5 rfl (by kernel_rfl) rfl ?_
        go_wp2_with fail
        refine Calls.mono (HBT _ k (HB.out.below (hB1.trans (hS1.mono hB1.size)))).out ?_
        rintro _ wb ⟨rfl, bb⟩
        have hS2 : Below wr.heap.size wr wb := hS1.trans (bb.mono hS1.size)
        clear bb hS1 hS
        rw [hb]
        go_wp2_with fail
        refine ⟨fun _ => hS2, ?_⟩
        refine wpM_one 6 rfl (by kernel_rfl) rfl ?_
        go_wp2_with fail
        refine ⟨fun _ => hS2, ?_⟩
        refine wpM_one 8 rfl (by kernel_rfl) rfl ?_
        go_wp2_with fail
        refine ⟨fun _ => hS2, ?_⟩
        refine wpM_one 9 rfl (by kernel_rfl) rfl ?_
        go_wp2_with fail
        refine ⟨fun _ => hS2, ?_⟩
        refine wpM_done (by kernel_rfl) ?_
        have q1 := q1.below hS2 q1.lt
        have q2 := q2.below hS2 q2.lt
        have hB2 := hB1.trans (hS2.mono hB1.size)
        have hO2 := hO.below hS2
        clear hS2 hO hB1
        have hbs := hB2.size
        have HNW : Hid _ := new_one wb n
        have hO3 : (wb.alloc (.cells #[.int .i64 n] 3)).ownsRow w.heap.size 3 1 (.slice gu ds.length cu) ds.length (ds.map (Value.int .i64)) := World.ownsRow.alloc hO2 _
        have p1 := q1.alloc (.cells #[.int .i64 n] 3)
        have p2 := q2.alloc (.cells #[.int .i64 n] 3)
        have hB3 := hB2.alloc hbs (.cells #[.int .i64 n] 3)
        clear hO2 hB2 q1 q2
        go_wp2_with (at_builtin; refine wpList_append_own2 _ rfl (.tmp 29) (.tmp 31) 43 rfl w.heap.size 3 i0 (.int .i64 0) 1 8 Tryd.underlying43 hi hz0 hz1 hz2 rfl (by decide) _ _ _ rfl hO3 ⟨wb.heap.size, 0, none⟩ 1 1 [.int .i64 n] rfl rfl HNW.out (by simp [Value.oneCell']) (by unfold maxLen; omega) (by omega) (by simp; omega) ?_)
        intro v1 x1 hown1 hgrow1 hblk1
        have t1 := row_grownO p1 hO3 hgrow1 (by decide)
        have t2 := row_grownO p2 hO3 hgrow1 (by decide)
        have hB4 := below_grownO hB3 (by simp; omega) hO3 hgrow1
        have hO4 := OwnD.snoc hown1
        clear hown1 hgrow1 hblk1 p1 p2 hB3 hO3 HNW
        go_wp2
        go_roundw
        case rel => exact ⟨k + 1, 0, ds ++ [n], HK.out, by go_num, rfl, hO4, HI2, t1, t2, hB4⟩
        case measure => have := HK.out; simp [intOf]; omega
    · have hke : k = da.length := by omega
      have g1 : decide ((k : Int) < (da.length : Int)) = false := decide_eq_false (by omega)
      have g3 : decide (k < da.length) = false := decide_eq_false (by omega)
      obtain ⟨i1, i2, i3, i4, i5⟩ := HI.out
      rw [hke] at i1 i5
      have hres := less_end HGA.out HGB.out i4 i1 HLE.out i2 i5
      have HR : Hid (DgAt wr (.slice gu ds.length cu) ds ∧ DgL ds ∧ dval ds = dval da - dval db ∧ ds.length ≤ max da.length db.length + 1) := ⟨hO.dg, i4, hres, by rw [i1]; omega⟩
      clear i1 i2 i3 i4 i5 hres hke hkM HI
      go_wp2
      go_ret
      exact ⟨_, ds, rfl, HR.out.1, HR.out.2.1, HR.out.2.2.1, HR.out.2.2.2, hB1⟩
end Go.Proofs.YtfbhonjndepjbaaDoor
