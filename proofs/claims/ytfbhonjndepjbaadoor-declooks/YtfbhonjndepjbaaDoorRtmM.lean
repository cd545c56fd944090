import Derived.Test.YtfbhonjndepjbaaDoorRofM
import Derived.Test.YtfbhonjndepjbaaDoorOrdM
import Derived.Laws.MakeOwn
/- trim: a number without noughts at its end. -/
namespace Go.Proofs.YtfbhonjndepjbaaDoor
open Go.RowKit

/-- A number of a sign and digits. -/
def bval (neg : Bool) (ds : List Int) : Int := if neg then -dval ds else dval ds
theorem bval_zero {neg : Bool} {ds : List Int} (h : dval ds = 0) : bval neg ds = 0 := by unfold bval; rw [h]; cases neg <;> rfl
theorem bval_neg {neg : Bool} {ds : List Int} (h : DgL ds) (h0 : dval ds ≠ 0) : decide (bval neg ds < 0) = neg ∧ (bval neg ds).natAbs = (dval ds).toNat := by
  have := dval_nonneg h
  unfold bval
  cases neg
  · exact ⟨decide_eq_false (by simp; omega), by simp; omega⟩
  · exact ⟨decide_eq_true (by simp; omega), by simp; omega⟩
theorem cells_src {w : World} {b off : Nat} {ds : List Int} (n : Nat) (hn : n ≤ ds.length) (h : ∀ j : Nat, j < ds.length → w.cell? ⟨b, off + j, none⟩ = some (.int .i64 (ds[j]?.getD 0))) :
    ∀ (j : Nat) (u : Value), ((ds.take n).map (Value.int .i64))[j]? = some u → w.cell? ((⟨b, off, none⟩ : Addr).add j) = some u := by
  intro j u hu
  have hj : j < n := by
    by_cases hj : j < n
    · exact hj
    · rw [List.getElem?_eq_none (by simp; omega)] at hu; cases hu
  rw [Go.WideShapes.add_plain, h j (by omega)]
  rw [List.getElem?_map, List.getElem?_take_of_lt hj, List.getElem?_eq_getElem (by omega)] at hu
  rw [List.getElem?_eq_getElem (by omega)]
  exact hu
set_option maxRecDepth 100000 in
set_option maxHeartbeats 2000000 in
theorem trim_new (neg : Bool) (sv : Value) (ds : List Int) (w : World) (hD : DgAt w sv ds) (hd : DgL ds) (hl : ds.length ≤ 1000) :
    Calls Tryd.prog 59 #[bv neg sv] w fun r w' => ∃ v, r = .returned v ∧ BigV w' (bval neg ds) v ∧ NewV w.heap.size v ∧ Below w.heap.size w w' := by
  obtain ⟨hI, a, cap, rfl, hcap, _⟩ := hD
  unfold bv
  obtain ⟨i0, hi, hzz⟩ := Option.map_eq_some_iff.1 Tryd.info3
  simp only [Prod.mk.injEq] at hzz
  obtain ⟨hz0, hz1, hz2⟩ := hzz
  have HI : Hid (IntsIn (· < w.heap.size) w (.slice a ds.length cap) ds) := hI
  have HDG : Hid (DgL ds) := hd
  have hcap2 : (ds.length : Int) ≤ (cap : Int) := by omega
  clear hI hd
  go_enter Tryd.func59, Tryd.ntmps59
  go_wp2_with fail
  have r1 := (Row.new w 45 #[.bool neg, .slice a ds.length cap]).alloc (.cells #[.bool false, .slice none 0 0] 45)
  have r2 := Row.new1 w (.cells #[.bool neg, .slice a ds.length cap] 45) 45 #[.bool false, .slice none 0 0]
  have hB := ((Below.refl _ w).alloc (Nat.le_refl _) (.cells #[.bool neg, .slice a ds.length cap] 45)).alloc (by simp) (.cells #[.bool false, .slice none 0 0] 45)
  obtain ⟨d0, d1⟩ := r1.duo
  go_wp2
  clear d0 d1
  go_loopw [3] (fun v wr => ∃ n : Nat, n ≤ ds.length ∧ v = .int .i64 (n : Int) ∧ Hid (∀ j, n ≤ j → ds[j]?.getD 0 = 0) ∧ Row wr w.heap.size 45 #[.bool neg, .slice a ds.length cap] ∧ Row wr (w.heap.size + 1) 45 #[.bool false, .slice none 0 0] ∧ Below w.heap.size w wr) (fun v _ => (intOf v).toNat)
  case atStart => exact ⟨ds.length, Nat.le_refl _, rfl, fun j hj => by rw [List.getElem?_eq_none hj]; rfl, r1, r2, hB⟩
  case round =>
    obtain ⟨n, hn, rfl, HZ, q1, q2, hBr⟩ := hrel
    clear r1 r2 hB
    obtain ⟨d0, d1⟩ := q1.duo
    obtain ⟨e0, e1⟩ := q2.duo
    by_cases h0 : n = 0
    · subst h0
      have z := q2.frozen
      have hz : dval ds = 0 := by
        refine dval_zeros fun d hd => ?_
        obtain ⟨i, hi, rfl⟩ := List.getElem_of_mem hd
        have := HZ.out i (Nat.zero_le _)
        rwa [List.getElem?_eq_getElem hi] at this
      have hBe := below_set (below_set hBr (B := w.heap.size + 1) 0 (.bool false) (by omega)) (B := w.heap.size + 1) 1 (.slice none 0 0) (by omega)
      have hZe := Row.set2 q2 (.bool false) (.slice none 0 0)
      have hlt := q2.lt
      have hlt1 := q1.lt
      go_wp2
      refine bodyPost_ret (ret_one rfl (g := w.heap.size + 1) rfl (load43 hZe rfl)) rfl ⟨_, rfl, ⟨.slice none 0 0, ?_, ?_⟩, ⟨_, _, rfl, new_nil _⟩, hBe⟩
      · rw [bval_zero hz]; rfl
      · rw [bval_zero hz]
        exact (show digs (0 : Int).natAbs = [] from digs_zero) ▸ dg_nil _
    · rcases HI.out.kept (Kept.of_below hBr (fun _ h => h)) with ⟨hnil, _⟩ | ⟨b, off, cap', he, hlt, hc⟩
      · exfalso; rw [hnil] at hn; simp at hn; omega
      · simp only [Value.slice.injEq, true_and] at he
        obtain ⟨rfl, rfl⟩ := he
        obtain ⟨m, hm⟩ : ∃ m, n = m + 1 := ⟨n - 1, by omega⟩
        have hnm : (n : Int) - 1 = (m : Int) := by omega
        have hmd : m < ds.length := by omega
        have cm := hc m hmd
        have hg0 : (0 : Int) < (n : Int) := by omega
        have hg1 : (m : Int) < (ds.length : Int) := by omega
        obtain ⟨d, hdd⟩ : ∃ d, ds[m]?.getD 0 = d := ⟨_, rfl⟩
        rw [hdd] at cm
        have HC : Hid (∀ j : Nat, j < ds.length → wr.cell? ⟨b, off + j, none⟩ = some (.int .i64 (ds[j]?.getD 0))) := hc
        have HDD : Hid (ds[m]?.getD 0 = d) := hdd
        have HM : Hid (n = m + 1) := hm
        have z1 := q1.lt
        have z2 := q2.lt
        clear hc hdd hm h0
        by_cases hd0 : d = 0
        · subst hd0
          have HZ2 : Hid (∀ j, m ≤ j → ds[j]?.getD 0 = 0) := by
            intro j hj
            by_cases hjm : j = m
            · rw [hjm]; exact HDD.out
            · exact HZ.out j (by have := HM.out; omega)
          go_wp2
          go_roundw
          case rel => exact ⟨m, by omega, rfl, HZ2, q1, q2, hBr⟩
          case measure => have := HM.out; simp [intOf]; omega
        · have g0 : (d == 0) = false := by simpa using hd0
          have g1 : ((n : Int) == 0) = false := by simp only [beq_eq_false_iff_ne]; omega
          obtain ⟨ht1, ht2⟩ := trim_digs HDG.out n hn HZ.out (.inr (by rw [show n - 1 = m by have := HM.out; omega, HDD.out]; exact hd0))
          have hv0 : dval ds ≠ 0 := by
            intro hv
            rw [hv, show (0 : Int).toNat = 0 from rfl, digs_zero] at ht1
            have := congrArg List.length ht1
            rw [List.length_take, List.length_nil] at this
            omega
          obtain ⟨hb1, hb2⟩ := bval_neg (neg := neg) HDG.out hv0
          have HT : Hid (ds.take n = digs (bval neg ds).natAbs ∧ decide (bval neg ds < 0) = neg) := ⟨by rw [hb2]; exact ht1, hb1⟩
          have HN1 : Hid (n ≤ ds.length) := hn
          clear ht1 ht2 hv0 hb1 hb2 HZ
          have hn1 : (n : Int) ≤ (cap : Int) := by omega
          go_wp2_with fail
          have hS : Below wr.heap.size wr wr.drew := (Below.refl _ wr).drew
          refine wp_region_M (fun wx : World => Below wr.heap.size wr wx) (fun j => decide (j < 9)) 10 rfl (by kernel_rfl) ?_
          refine wpM_held 0 (v := ?_) rfl (by kernel_rfl) (by kernel_rfl) rfl (fun _ _ _ h => h) rfl (by intro wx hx; go_simp <;> rfl) hS ?_
          refine wpM_held 1 (v := .bool neg) rfl (by kernel_rfl) (by kernel_rfl) rfl (fun _ _ _ h => h) rfl (by intro wx hx; obtain ⟨x0, x1⟩ := (q1.below hx q1.lt).duo; go_simp <;> rfl) hS ?_
          refine wpM_held 3 (v := ?_) rfl (by kernel_rfl) (by kernel_rfl) rfl (fun _ _ _ h => h) rfl (by intro wx hx; go_simp <;> rfl) hS ?_
          refine wpM_held 4 (v := .slice (some ⟨b, off, none⟩) ds.length cap) rfl (by kernel_rfl) (by kernel_rfl) rfl (fun _ _ _ h => h) rfl (by intro wx hx; obtain ⟨x0, x1⟩ := (q1.below hx q1.lt).duo; go_simp <;> rfl) hS ?_
          refine wpM_held 5 (v := .int .i64 (n : Int)) rfl (by kernel_rfl) (by kernel_rfl) rfl (fun _ _ _ h => h) rfl (by intro wx hx; go_simp <;> rfl) hS ?_
          refine wpM_held 6 (v := .slice (some ⟨b, off, none⟩) n cap) rfl (by kernel_rfl) (by kernel_rfl) rfl (fun _ _ _ h => h) rfl (by intro wx hx; go_simp <;> first | rfl | omega) hS ?_
          refine wpM_one 2 rfl (by kernel_rfl) rfl ?_
          go_wp2_with fail
          have hW1 : Below wr.heap.size wr (wr.alloc (.cells #[] 3)).drew := ((Below.refl _ wr).alloc (Nat.le_refl _) _).drew
          have hO0 : (wr.alloc (.cells #[] 3)).drew.ownsRow wr.heap.size 3 1 (.slice (some ⟨wr.heap.size, 0, none⟩) 0 0) 0 [] := World.ownsRow_made wr #[] 0 (Nat.le_refl _) (by unfold maxLen; omega) rfl
          have hzs : wr.heap.size ≤ (wr.alloc (.cells #[] 3)).drew.heap.size := hW1.size
          have HSRC : Hid (∀ (j : Nat) (u : Value), ((ds.take n).map (Value.int .i64))[j]? = some u → (wr.alloc (.cells #[] 3)).drew.cell? ((⟨b, off, none⟩ : Addr).add j) = some u) :=
            cells_src n HN1.out (fun j hj => ((Kept.of_below (S := fun k => k < wr.heap.size) hW1 (fun _ h => h)).cell (p := ⟨b, off + j, none⟩) (by show b < wr.heap.size; have : b < w.heap.size := hlt; omega)).trans (HC.out j hj))
          refine ⟨fun _ => hW1, ?_⟩
          generalize hWg : (wr.alloc (.cells #[] 3)).drew = W1 at *
          clear hWg
          have hlen : ((ds.take n).map (Value.int .i64)).length = n * 1 := by rw [List.length_map, List.length_take, Nat.min_eq_left HN1.out]; omega
          refine wpM_one 7 rfl (by kernel_rfl) rfl ?_
          refine wpList_append_own2 _ rfl (.tmp 25) (.tmp 29) 43 rfl wr.heap.size 3 i0 (.int .i64 0) 1 8 Tryd.underlying43 hi hz0 hz1 hz2 rfl (by decide) _ _ _ rfl hO0 ⟨b, off, none⟩ n cap ((ds.take n).map (Value.int .i64)) rfl hlen HSRC.out (by intro u hu; obtain ⟨x, _, rfl⟩ := List.mem_map.1 hu; rfl) (by unfold maxLen; omega) (by omega) hzs ?_
          intro v1 x1 hown1 hgrow1 hblk1
          have hW2 : Below wr.heap.size wr x1 := hW1.grown hgrow1 hzs (fun k e => (hO0.lt k e).1)
          have HO : Hid (OwnD wr.heap.size x1 v1 (ds.take n)) := by
            show OwnD _ _ _ _
            unfold OwnD
            rw [List.length_take, Nat.min_eq_left HN1.out]
            simpa using hown1
          rw [Nat.zero_add] at hown1
          obtain ⟨g1, k1, rfl⟩ := owns_form hown1
          clear hown1 hgrow1 hblk1 HSRC hO0 hlen
          go_wp2_with fail
          refine ⟨fun _ => hW2, ?_⟩
          have p2 := q2.below hW2 q2.lt
          obtain ⟨y0, y1⟩ := p2.duo
          have zf := p2.frozen
          refine wpM_one 8 rfl (by kernel_rfl) rfl ?_
          go_wp2_with fail
          refine ⟨fun _ => hW2, ?_⟩
          refine wpM_one 9 rfl (by kernel_rfl) rfl ?_
          go_wp2_with fail
          refine ⟨fun h => by simp at h, ?_⟩
          refine wpM_done (by kernel_rfl) ?_
          have hBx := hBr.trans (hW2.mono hBr.size)
          have hBe := below_set (below_set hBx (B := w.heap.size + 1) 0 (.bool neg) (by omega)) (B := w.heap.size + 1) 1 (.slice g1 n k1) (by omega)
          have hZe := Row.set2 p2 (.bool neg) (.slice g1 n k1)
          have hOe : DgAt ((x1.setCell ⟨w.heap.size + 1, 0, none⟩ (.bool neg)).setCell ⟨w.heap.size + 1, 1, none⟩ (.slice g1 n k1)) (.slice g1 n k1) (ds.take n) :=
            OwnD.dg (B := wr.heap.size) (owns_kept HO.out (((Kept.refl (fun k => k ≠ w.heap.size + 1) x1).setCell (p := ⟨w.heap.size + 1, 0, none⟩) (by simp) _).setCell (p := ⟨w.heap.size + 1, 1, none⟩) (by simp) _) (fun k hk e => by have := (HO.out.lt k hk).1; omega))
          go_wp2
          refine bodyPost_ret (ret_one rfl (g := w.heap.size + 1) rfl (load43 hZe rfl)) rfl ⟨_, rfl, ⟨.slice g1 n k1, ?_, ?_⟩, ⟨_, _, rfl, HO.out.new.mono hBr.size⟩, hBe⟩
          · rw [HT.out.2]; rfl
          · rw [← HT.out.1]; exact hOe
theorem trim_any (neg : Bool) (sv : Value) (ds : List Int) (w : World) (hD : DgAt w sv ds) (hd : DgL ds) (hl : ds.length ≤ 1000) :
    Calls Tryd.prog 59 #[bv neg sv] w fun r w' => ∃ v, r = .returned v ∧ BigV w' (bval neg ds) v ∧ Below w.heap.size w w' := by
  refine (trim_new neg sv ds w hD hd hl).mono ?_
  rintro r w' ⟨v, h1, h2, _, h3⟩
  exact ⟨v, h1, h2, h3⟩
end Go.Proofs.YtfbhonjndepjbaaDoor
/- Shift: times ten, again and again. -/
namespace Go.Proofs.YtfbhonjndepjbaaDoor
open Go.RowKit

theorem make41 (n : Nat) (hn : n ≤ 1000) (w : World) : (Instr.makeSlice 43 (.int .i64 (n : Int)) (.int .i64 (n : Int))).run Tryd.prog w = .ok (.slice (some ⟨w.heap.size, 0, none⟩) n n) (w.alloc (.cells (madeCells #[.int .i64 0] n) 3)) := by
  obtain ⟨i0, hi, hzz⟩ := Option.map_eq_some_iff.1 Tryd.info3
  simp only [Prod.mk.injEq] at hzz
  obtain ⟨hz0, hz1, hz2⟩ := hzz
  have := run_makeSlice (P := Tryd.prog) w 43 3 i0 _ Tryd.underlying43 hi hz0 .i64 .i64 (n : Int) (n : Int) (by omega) (by omega) (by rw [hz1]; simp; omega) (by rw [hz2]; omega) (by omega)
  rw [hz1] at this
  simpa [Value.cells] using this
theorem made_zeros (n : Nat) : (madeCells #[.int .i64 0] n).toList = (List.replicate n (0 : Int)).map (Value.int .i64) := by
  rw [toList_madeCells_one]
  simp
theorem shift_val (x : Int) (n : Nat) : bval (decide (x < 0)) (List.replicate n 0 ++ digs x.natAbs) = x * 10 ^ n ∧ DgL (List.replicate n 0 ++ digs x.natAbs) := by
  have h1 : dval (List.replicate n (0 : Int) ++ digs x.natAbs) = 10 ^ n * (x.natAbs : Int) := by
    rw [dval_append, dval_zeros (fun d hd => (List.mem_replicate.1 hd).2), List.length_replicate, dval_digs]
    omega
  refine ⟨?_, fun d hd => ?_⟩
  · unfold bval
    rw [h1, Int.mul_comm]
    by_cases h : x < 0
    · rw [decide_eq_true h, if_pos rfl, ← Int.neg_mul]
      congr 1; omega
    · rw [decide_eq_false h, if_neg (by simp)]
      congr 1; omega
  · rcases List.mem_append.1 hd with hd | hd
    · rw [(List.mem_replicate.1 hd).2]; omega
    · exact digs_dg _ d hd
theorem row_cell {W : World} {B i : Nat} {t : TypeId} {cs : Array Value} (h : Row W B t cs) : W.cell? ⟨B, i, none⟩ = cs[i]? := cell_of_row W B i cs t (0, 0) h
/-- A Big's cell is written: digits elsewhere stay. -/
theorem DgAt.store {W : World} {sv : Value} {ds : List Int} (h : DgAt W sv ds) {B : Nat} {p : Bool} {x : Option Addr} {y z : Nat} (hR : Row W B 45 #[.bool p, .slice x y z]) (u u' : Value) :
    DgAt ((W.setCell ⟨B, 0, none⟩ u).setCell ⟨B, 1, none⟩ u') sv ds := by
  refine ⟨?_, h.2⟩
  have hk := ((Kept.refl (fun k => k ≠ B) W).setCell (p := ⟨B, 0, none⟩) (by simp) u).setCell (p := ⟨B, 1, none⟩) (by simp) u'
  rcases h.1 with h0 | ⟨b, off, c, e, hb, hc⟩
  · exact .inl h0
  · by_cases h0 : ds = []
    · subst h0; exact .inl ⟨rfl, _, _, e⟩
    · have hl : 0 < ds.length := List.length_pos_iff.2 h0
      have hne : b ≠ B := by
        rintro rfl
        have h1 := hc 0 hl
        rw [row_cell hR] at h1
        match off, h1 with
        | 0, h1 => simp at h1
        | 1, h1 => simp at h1
        | o + 2, h1 => simp at h1
      exact .inr ⟨b, off, c, e, Nat.lt_of_lt_of_le hb hk.size, fun j hj => (hk.cell (p := ⟨b, off + j, none⟩) hne).trans (hc j hj)⟩
set_option maxRecDepth 100000 in
set_option maxHeartbeats 1000000 in
theorem shift_new (x : Int) (v : Value) (n : Nat) (w : World) (hV : BigV w x v) (hn : n ≤ 300) (hx : (digs x.natAbs).length ≤ 600) :
    Calls Tryd.prog 58 #[v, .int .i64 (n : Int)] w fun r w' => ∃ v', r = .returned v' ∧ BigV w' (x * 10 ^ n) v' ∧ NewV w.heap.size v' ∧ Below w.heap.size w w' := by
  obtain ⟨sv, rfl, hD⟩ := hV
  obtain ⟨hsv, hsd⟩ := shift_val x n
  have HT : ∀ W sv', DgAt W sv' (List.replicate n 0 ++ digs x.natAbs) → Hid (Calls Tryd.prog 59 #[.agg #[.bool (decide (x < 0)), sv']] W fun r w' => ∃ v', r = .returned v' ∧ BigV w' (x * 10 ^ n) v' ∧ NewV W.heap.size v' ∧ Below W.heap.size W w') := fun W sv' h => by
    have := trim_new (decide (x < 0)) sv' _ W h hsd (by rw [List.length_append, List.length_replicate]; omega)
    rw [hsv] at this
    exact this
  clear hsv hsd
  unfold bv
  generalize decide (x < 0) = neg at *
  generalize digs x.natAbs = ds at *
  obtain ⟨_, a, c, rfl, _, _⟩ := id hD
  have HD : Hid (DgAt w (.slice a ds.length c) ds) := hD
  clear hD
  go_enter Tryd.func58, Tryd.ntmps58
  go_wp2_with fail
  have r1 := (Row.new w 45 #[.bool neg, .slice a ds.length c]).alloc (.cells #[.bool false, .slice none 0 0] 45)
  have r2 := Row.new1 w (.cells #[.bool neg, .slice a ds.length c] 45) 45 #[.bool false, .slice none 0 0]
  have hB := ((Below.refl _ w).alloc (Nat.le_refl _) (.cells #[.bool neg, .slice a ds.length c] 45)).alloc (by simp) (.cells #[.bool false, .slice none 0 0] 45)
  generalize (w.alloc (.cells #[.bool neg, .slice a ds.length c] 45)).alloc (.cells #[.bool false, .slice none 0 0] 45) = W at *
  have hS : Below W.heap.size W W.drew := (Below.refl _ W).drew
  have hz2 := r2.lt
  refine wp_region_M (fun wx : World => Below W.heap.size W wx) (fun j => decide (j < 9)) 10 rfl (by kernel_rfl) ?_
  refine wpM_held 0 (v := ?_) rfl (by kernel_rfl) (by kernel_rfl) rfl (fun _ _ _ h => h) rfl (by intro wx hx; go_simp <;> rfl) hS ?_
  refine wpM_held 1 (v := .bool neg) rfl (by kernel_rfl) (by kernel_rfl) rfl (fun _ _ _ h => h) rfl (by intro wx hx; obtain ⟨x0, x1⟩ := (r1.below hx r1.lt).duo; go_simp <;> rfl) hS ?_
  refine wpM_held 2 (v := .int .i64 (n : Int)) rfl (by kernel_rfl) (by kernel_rfl) rfl (fun _ _ _ h => h) rfl (by intro wx hx; go_simp <;> rfl) hS ?_
  refine wpM_held 4 (v := ?_) rfl (by kernel_rfl) (by kernel_rfl) rfl (fun _ _ _ h => h) rfl (by intro wx hx; go_simp <;> rfl) hS ?_
  refine wpM_held 5 (v := .slice a ds.length c) rfl (by kernel_rfl) (by kernel_rfl) rfl (fun _ _ _ h => h) rfl (by intro wx hx; obtain ⟨x0, x1⟩ := (r1.below hx r1.lt).duo; go_simp <;> rfl) hS ?_
  refine wpM_one 3 rfl (by kernel_rfl) rfl ?_
  have mk := make41 n (by omega)
  go_wp2_with fail
  have hsz0 : (madeCells #[Value.int .i64 0] n).size = n * 1 := by rw [size_madeCells]; omega
  have hO0 : (W.alloc (.cells (madeCells #[.int .i64 0] n) 3)).drew.ownsRow W.heap.size 3 1 (.slice (some ⟨W.heap.size, 0, none⟩) n n) n ((List.replicate n (0 : Int)).map (Value.int .i64)) := by
    have := World.ownsRow_lit (base := W.heap.size) (e := 3) (size := 1) W (madeCells #[.int .i64 0] n) n (Nat.le_refl _) (by unfold maxLen; omega) hsz0
    rw [made_zeros] at this
    exact this
  have hW1 : Below W.heap.size W (W.alloc (.cells (madeCells #[.int .i64 0] n) 3)).drew := ((Below.refl _ W).alloc (Nat.le_refl _) _).drew
  clear mk hsz0
  generalize (W.alloc (.cells (madeCells #[.int .i64 0] n) 3)).drew = W1 at *
  refine ⟨fun _ => hW1, ?_⟩
  have hD1 : DgAt W1 (.slice a ds.length c) ds := (HD.out.below hB).below (hW1.mono (Nat.le_refl _))
  refine wpM_one 6 rfl (by kernel_rfl) rfl ?_
  refine wpList_append_dg _ rfl (.tmp 8) (.tmp 10) rfl W.heap.size _ _ _ rfl hO0 _ ds rfl hD1 (by omega) hW1.size ?_
  intro v1 x1 hown1 hgrow1
  have hW2 : Below W.heap.size W x1 := hW1.grown hgrow1 hW1.size (fun k e => (hO0.lt k e).1)
  have hDg : DgAt x1 v1 (List.replicate n 0 ++ ds) := by
    refine OwnD.dg (B := W.heap.size) ?_
    unfold OwnD
    rw [List.length_append, List.length_replicate, List.map_append]
    exact hown1
  obtain ⟨g1, k1, rfl⟩ := owns_form hown1
  have HTT := HT x1 _ hDg
  clear hown1 hgrow1 hO0 hD1 HT hDg
  go_wp2_with fail
  refine ⟨fun _ => hW2, ?_⟩
  refine wpM_one 7 rfl (by kernel_rfl) rfl ?_
  go_wp2_with fail
  refine ⟨fun _ => hW2, ?_⟩
  refine wpM_one 8 rfl (by kernel_rfl) rfl ?_
  go_wp2_with fail
  refine Calls.mono HTT.out ?_
  rintro _ x2 ⟨v2, rfl, hV2, hN2, hb2⟩
  obtain ⟨s2, rfl, hD2⟩ := hV2
  have hN2 := hN2.get.mono hW2.size
  have hW3 : Below W.heap.size W x2 := hW2.trans (hb2.mono hW2.size)
  obtain ⟨_, a2, c2, rfl, _, _⟩ := id hD2
  clear hb2 HTT
  unfold bv
  obtain ⟨ng, hng⟩ : ∃ ng, decide (x * 10 ^ n < 0) = ng := ⟨_, rfl⟩
  have HNG : Hid (decide (x * 10 ^ n < 0) = ng) := hng
  rw [hng]
  clear hng
  go_wp2_with fail
  refine ⟨fun _ => hW3, ?_⟩
  have p2 := r2.below hW3 r2.lt
  obtain ⟨y0, y1⟩ := p2.duo
  have zf := p2.frozen
  refine wpM_one 9 rfl (by kernel_rfl) rfl ?_
  go_wp2_with fail
  refine ⟨fun h => by simp at h, ?_⟩
  refine wpM_done (by kernel_rfl) ?_
  have hBx := hB.trans (hW3.mono (by omega))
  have hBe := below_set (below_set hBx (B := w.heap.size + 1) 0 (.bool ng) (by omega)) (B := w.heap.size + 1) 1 (.slice a2 (digs (x * 10 ^ n).natAbs).length c2) (by omega)
  have hZe := Row.set2 p2 (.bool ng) (.slice a2 (digs (x * 10 ^ n).natAbs).length c2)
  have hDe := hD2.store p2 (.bool ng) (.slice a2 (digs (x * 10 ^ n).natAbs).length c2)
  go_wp2
  exact bodyPost_ret (ret_one rfl (g := w.heap.size + 1) rfl (load43 hZe rfl)) rfl ⟨_, rfl, ⟨_, by rw [HNG.out]; rfl, hDe⟩, ⟨_, _, rfl, hN2.mono (by omega)⟩, hBe⟩
theorem shift_any (x : Int) (v : Value) (n : Nat) (w : World) (hV : BigV w x v) (hn : n ≤ 300) (hx : (digs x.natAbs).length ≤ 600) :
    Calls Tryd.prog 58 #[v, .int .i64 (n : Int)] w fun r w' => ∃ v', r = .returned v' ∧ BigV w' (x * 10 ^ n) v' ∧ Below w.heap.size w w' := by
  refine (shift_new x v n w hV hn hx).mono ?_
  rintro r w' ⟨v, h1, h2, _, h3⟩
  exact ⟨v, h1, h2, h3⟩
end Go.Proofs.YtfbhonjndepjbaaDoor
/- more: which of two rows of digits is the greater number. -/
namespace Go.Proofs.YtfbhonjndepjbaaDoor
open Go.RowKit

theorem dval_tail (ds : List Int) : dval ds = ds[0]?.getD 0 + 10 * dval ds.tail := by cases ds <;> simp [dval]
theorem tail_get (ds : List Int) (j : Nat) : ds.tail[j]?.getD 0 = ds[j + 1]?.getD 0 := by cases ds <;> simp
theorem dval_ext : ∀ (n : Nat) (a b : List Int), a.length ≤ n → b.length ≤ n → (∀ j : Nat, a[j]?.getD 0 = b[j]?.getD 0) → dval a = dval b
  | 0, a, b, ha, hb, _ => by rw [List.eq_nil_of_length_eq_zero (by omega : a.length = 0), List.eq_nil_of_length_eq_zero (by omega : b.length = 0)]
  | n + 1, a, b, ha, hb, h => by
    rw [dval_tail a, dval_tail b, h 0, dval_ext n a.tail b.tail (by simp; omega) (by simp; omega) (fun j => by rw [tail_get, tail_get, h])]
theorem dgl_tail {ds : List Int} (h : DgL ds) : DgL ds.tail := fun d hd => h d (List.mem_of_mem_tail hd)
theorem dval_more : ∀ (i : Nat) (a b : List Int), DgL a → DgL b → (∀ j : Nat, i < j → a[j]?.getD 0 = b[j]?.getD 0) → b[i]?.getD 0 < a[i]?.getD 0 → dval b < dval a
  | 0, a, b, ha, hb, h, hi => by
    rw [dval_tail a, dval_tail b, dval_ext (a.length + b.length) a.tail b.tail (by simp; omega) (by simp; omega) (fun j => by rw [tail_get, tail_get, h (j + 1) (by omega)])]
    omega
  | i + 1, a, b, ha, hb, h, hi => by
    have ih := dval_more i a.tail b.tail (dgl_tail ha) (dgl_tail hb) (fun j hj => by rw [tail_get, tail_get, h (j + 1) (by omega)]) (by rw [tail_get, tail_get]; exact hi)
    have h1 := ha.get 0
    have h2 := hb.get 0
    rw [dval_tail a, dval_tail b]
    omega
def cI (x y : Int) : Int := if y < x then 1 else if x < y then -1 else 0
set_option maxRecDepth 100000 in
set_option maxHeartbeats 2000000 in
theorem more_any (na nb : Bool) (sa sb : Value) (da db : List Int) (w : World) (hA : DgAt w sa da) (hB : DgAt w sb db) (ga : DgL da) (gb : DgL db) (la : da.length ≤ 1000) (lb : db.length ≤ 1000) :
    Calls Tryd.prog 70 #[bv na sa, bv nb sb] w fun r w' => r = .returned (.int .i64 (cI (dval da) (dval db))) ∧ Below w.heap.size w w' := by
  obtain ⟨_, a1, c1, rfl, _, _⟩ := id hA
  obtain ⟨_, a2, c2, rfl, _, _⟩ := id hB
  obtain ⟨ci, HCI⟩ : ∃ ci, Hid (cI (dval da) (dval db) = ci) := ⟨_, rfl⟩
  rw [HCI.out]
  have HA : Hid (DgAt w (.slice a1 da.length c1) da) := hA
  have HB : Hid (DgAt w (.slice a2 db.length c2) db) := hB
  have HGA : Hid (DgL da) := ga
  have HGB : Hid (DgL db) := gb
  have HAT : ∀ W (i : Nat), DgAt W (.slice a1 da.length c1) da → Hid (Calls Tryd.prog 76 #[.agg #[.bool na, .slice a1 da.length c1], .int .i64 (i : Int)] W fun r w' => r = .returned (.int .i64 (da[i]?.getD 0)) ∧ Below W.heap.size W w') := fun W i h => by
    have := at_any na a1 c1 da (i : Int) W h.1
    rw [if_pos (by omega), Int.toNat_natCast] at this
    exact this
  have HBT : ∀ W (i : Nat), DgAt W (.slice a2 db.length c2) db → Hid (Calls Tryd.prog 76 #[.agg #[.bool nb, .slice a2 db.length c2], .int .i64 (i : Int)] W fun r w' => r = .returned (.int .i64 (db[i]?.getD 0)) ∧ Below W.heap.size W w') := fun W i h => by
    have := at_any nb a2 c2 db (i : Int) W h.1
    rw [if_pos (by omega), Int.toNat_natCast] at this
    exact this
  unfold bv
  clear hA hB ga gb
  go_enter Tryd.func70, Tryd.ntmps70
  go_wp2_with fail
  have r1 := (Row.new w 45 #[.bool na, .slice a1 da.length c1]).alloc (.cells #[.bool nb, .slice a2 db.length c2] 45)
  have r2 := Row.new1 w (.cells #[.bool na, .slice a1 da.length c1] 45) 45 #[.bool nb, .slice a2 db.length c2]
  have hB0 := ((Below.refl _ w).alloc (Nat.le_refl _) (.cells #[.bool na, .slice a1 da.length c1] 45)).alloc (by simp) (.cells #[.bool nb, .slice a2 db.length c2] 45)
  obtain ⟨d0, d1⟩ := r1.duo
  obtain ⟨e0, e1⟩ := r2.duo
  go_wp2
  clear d0 d1 e0 e1
  go_loopw [5] (fun v wr => ∃ k : Nat, k ≤ da.length + db.length + 1 ∧ v = .int .i64 ((k : Int) - 1) ∧ Hid (∀ j : Nat, k ≤ j → da[j]?.getD 0 = db[j]?.getD 0) ∧ Row wr w.heap.size 45 #[.bool na, .slice a1 da.length c1] ∧ Row wr (w.heap.size + 1) 45 #[.bool nb, .slice a2 db.length c2] ∧ Hid (Below w.heap.size w wr)) (fun v _ => (intOf v + 1).toNat)
  case atStart => exact ⟨da.length + db.length + 1, Nat.le_refl _, by congr 1; omega, fun j hj => by rw [List.getElem?_eq_none (by omega), List.getElem?_eq_none (by omega)], r1, r2, hB0⟩
  case round =>
    obtain ⟨k, hk, rfl, HE, q1, q2, HBr⟩ := hrel
    clear r1 r2 hB0
    by_cases h0 : k = 0
    · subst h0
      have hci : ci = 0 := by
        rw [← HCI.out]
        have := dval_ext (da.length + db.length) da db (by omega) (by omega) (fun j => HE.out j (Nat.zero_le _))
        unfold cI; rw [this]; simp
      have HC0 : Hid (ci = 0) := hci
      clear hci
      go_wp2
      go_ret
      exact ⟨by rw [HC0.out]; rfl, HBr.out⟩
    · obtain ⟨i, hi⟩ : ∃ i, k = i + 1 := ⟨k - 1, by omega⟩
      have hki : (k : Int) - 1 = (i : Int) := by omega
      have HKI : Hid (k = i + 1) := hi
      obtain ⟨x, ha⟩ : ∃ x, da[i]?.getD 0 = x := ⟨_, rfl⟩
      obtain ⟨y, hb⟩ : ∃ y, db[i]?.getD 0 = y := ⟨_, rfl⟩
      have hbx := HGA.out.get i
      have hby := HGB.out.get i
      rw [ha] at hbx
      rw [hb] at hby
      have hB0 := HBr.out
      clear hi h0
      rcases Int.lt_trichotomy x y with hxy | hxy | hxy
      · have hci : Hid (ci = -1) := by
          show _ = _
          rw [← HCI.out]
          have := dval_more i db da HGB.out HGA.out (fun j hj => (HE.out j (by have := HKI.out; omega)).symm) (by rw [ha, hb]; exact hxy)
          unfold cI; rw [if_neg (by omega), if_pos this]
        have g1 : decide (y < x) = false := decide_eq_false (by omega)
        go_wp2_with fail
        have hS : Below wr.heap.size wr wr.drew := (Below.refl _ wr).drew
        refine wp_region_M (fun wx : World => Below wr.heap.size wr wx) (fun j => decide (j < 7)) 7 rfl (by kernel_rfl) ?_
        refine wpM_held 0 (v := .agg #[.bool na, .slice a1 da.length c1]) rfl (by kernel_rfl) (by kernel_rfl) rfl (fun _ _ _ h => h) rfl (by intro wx hx; obtain ⟨x0, x1⟩ := (q1.below hx q1.lt).duo; go_simp <;> rfl) hS ?_
        refine wpM_held 1 (v := .int .i64 (i : Int)) rfl (by kernel_rfl) (by kernel_rfl) rfl (fun _ _ _ h => h) rfl (by intro wx hx; go_simp <;> rfl) hS ?_
        refine wpM_held 3 (v := .agg #[.bool nb, .slice a2 db.length c2]) rfl (by kernel_rfl) (by kernel_rfl) rfl (fun _ _ _ h => h) rfl (by intro wx hx; obtain ⟨x0, x1⟩ := (q2.below hx q2.lt).duo; go_simp <;> rfl) hS ?_
        refine wpM_held 4 (v := .int .i64 (i : Int)) rfl (by kernel_rfl) (by kernel_rfl) rfl (fun _ _ _ h => h) rfl (by intro wx hx; go_simp <;> rfl) hS ?_
        refine wpM_one 2 rfl (by kernel_rfl) rfl ?_
        go_wp2_with fail
        refine Calls.mono (HAT _ i (HA.out.below (hB0.trans (hS.mono hB0.size)))).out ?_
        rintro _ wa ⟨rfl, ba⟩
        have hS1 : Below wr.heap.size wr wa := hS.trans (ba.mono hS.size)
        clear ba
        rw [ha]
        go_wp2_with fail
        refine ⟨fun _ => hS1, ?_⟩
        refine wpM_one 5 rfl (by kernel_rfl) rfl ?_
        go_wp2_with fail
        refine Calls.mono (HBT _ i (HB.out.below (hB0.trans (hS1.mono hB0.size)))).out ?_
        rintro _ wb ⟨rfl, bb⟩
        have hS2 : Below wr.heap.size wr wb := hS1.trans (bb.mono hS1.size)
        clear bb hS1 hS
        rw [hb]
        go_wp2_with fail
        refine ⟨fun _ => hS2, ?_⟩
        refine wpM_one 6 rfl (by kernel_rfl) rfl ?_
        go_wp2_with fail
        refine ⟨fun _ => hS2, ?_⟩
        refine wpM_done (by kernel_rfl) ?_
        have q1 := q1.below hS2 q1.lt
        have q2 := q2.below hS2 q2.lt
        have hB02 := hB0.trans (hS2.mono hB0.size)
        clear hS2
        clear HBr
        go_wp2_with fail
        have hS : Below wb.heap.size wb wb.drew := (Below.refl _ wb).drew
        refine wp_region_M (fun wx : World => Below wb.heap.size wb wx) (fun j => decide (j < 7)) 7 rfl (by kernel_rfl) ?_
        refine wpM_held 0 (v := .agg #[.bool na, .slice a1 da.length c1]) rfl (by kernel_rfl) (by kernel_rfl) rfl (fun _ _ _ h => h) rfl (by intro wx hx; obtain ⟨x0, x1⟩ := (q1.below hx q1.lt).duo; go_simp <;> rfl) hS ?_
        refine wpM_held 1 (v := .int .i64 (i : Int)) rfl (by kernel_rfl) (by kernel_rfl) rfl (fun _ _ _ h => h) rfl (by intro wx hx; go_simp <;> rfl) hS ?_
        refine wpM_held 3 (v := .agg #[.bool nb, .slice a2 db.length c2]) rfl (by kernel_rfl) (by kernel_rfl) rfl (fun _ _ _ h => h) rfl (by intro wx hx; obtain ⟨x0, x1⟩ := (q2.below hx q2.lt).duo; go_simp <;> rfl) hS ?_
        refine wpM_held 4 (v := .int .i64 (i : Int)) rfl (by kernel_rfl) (by kernel_rfl) rfl (fun _ _ _ h => h) rfl (by intro wx hx; go_simp <;> rfl) hS ?_
        refine wpM_one 2 rfl (by kernel_rfl) rfl ?_
        go_wp2_with fail
        refine Calls.mono (HAT _ i (HA.out.below (hB02.trans (hS.mono hB02.size)))).out ?_
        rintro _ wc ⟨rfl, ba⟩
        have hS1 : Below wb.heap.size wb wc := hS.trans (ba.mono hS.size)
        clear ba
        rw [ha]
        go_wp2_with fail
        refine ⟨fun _ => hS1, ?_⟩
        refine wpM_one 5 rfl (by kernel_rfl) rfl ?_
        go_wp2_with fail
        refine Calls.mono (HBT _ i (HB.out.below (hB02.trans (hS1.mono hB02.size)))).out ?_
        rintro _ wd ⟨rfl, bb⟩
        have hS2 : Below wb.heap.size wb wd := hS1.trans (bb.mono hS1.size)
        clear bb hS1 hS
        rw [hb]
        go_wp2_with fail
        refine ⟨fun _ => hS2, ?_⟩
        refine wpM_one 6 rfl (by kernel_rfl) rfl ?_
        go_wp2_with fail
        refine ⟨fun _ => hS2, ?_⟩
        refine wpM_done (by kernel_rfl) ?_
        have q1 := q1.below hS2 q1.lt
        have q2 := q2.below hS2 q2.lt
        have hB022 := hB02.trans (hS2.mono hB02.size)
        clear hS2
        go_wp2
        go_ret
        exact ⟨by rw [hci.out]; rfl, hB022⟩
      · have HXY : Hid (x = y) := hxy
        have g1 : decide (y < x) = false := decide_eq_false (by omega)
        have g2 : decide (x < y) = false := decide_eq_false (by omega)
        clear hxy
        go_wp2_with fail
        have hS : Below wr.heap.size wr wr.drew := (Below.refl _ wr).drew
        refine wp_region_M (fun wx : World => Below wr.heap.size wr wx) (fun j => decide (j < 7)) 7 rfl (by kernel_rfl) ?_
        refine wpM_held 0 (v := .agg #[.bool na, .slice a1 da.length c1]) rfl (by kernel_rfl) (by kernel_rfl) rfl (fun _ _ _ h => h) rfl (by intro wx hx; obtain ⟨x0, x1⟩ := (q1.below hx q1.lt).duo; go_simp <;> rfl) hS ?_
        refine wpM_held 1 (v := .int .i64 (i : Int)) rfl (by kernel_rfl) (by kernel_rfl) rfl (fun _ _ _ h => h) rfl (by intro wx hx; go_simp <;> rfl) hS ?_
        refine wpM_held 3 (v := .agg #[.bool nb, .slice a2 db.length c2]) rfl (by kernel_rfl) (by kernel_rfl) rfl (fun _ _ _ h => h) rfl (by intro wx hx; obtain ⟨x0, x1⟩ := (q2.below hx q2.lt).duo; go_simp <;> rfl) hS ?_
        refine wpM_held 4 (v := .int .i64 (i : Int)) rfl (by kernel_rfl) (by kernel_rfl) rfl (fun _ _ _ h => h) rfl (by intro wx hx; go_simp <;> rfl) hS ?_
        refine wpM_one 2 rfl (by kernel_rfl) rfl ?_
        go_wp2_with fail
        refine Calls.mono (HAT _ i (HA.out.below (hB0.trans (hS.mono hB0.size)))).out ?_
        rintro _ wa ⟨rfl, ba⟩
        have hS1 : Below wr.heap.size wr wa := hS.trans (ba.mono hS.size)
        clear ba
        rw [ha]
        go_wp2_with fail
        refine ⟨fun _ => hS1, ?_⟩
        refine wpM_one 5 rfl (by kernel_rfl) rfl ?_
        go_wp2_with fail
        refine Calls.mono (HBT _ i (HB.out.below (hB0.trans (hS1.mono hB0.size)))).out ?_
        rintro _ wb ⟨rfl, bb⟩
        have hS2 : Below wr.heap.size wr wb := hS1.trans (bb.mono hS1.size)
        clear bb hS1 hS
        rw [hb]
        go_wp2_with fail
        refine ⟨fun _ => hS2, ?_⟩
        refine wpM_one 6 rfl (by kernel_rfl) rfl ?_
        go_wp2_with fail
        refine ⟨fun _ => hS2, ?_⟩
        refine wpM_done (by kernel_rfl) ?_
        have q1 := q1.below hS2 q1.lt
        have q2 := q2.below hS2 q2.lt
        have hB02 := hB0.trans (hS2.mono hB0.size)
        clear hS2
        clear HBr
        go_wp2_with fail
        have hS : Below wb.heap.size wb wb.drew := (Below.refl _ wb).drew
        refine wp_region_M (fun wx : World => Below wb.heap.size wb wx) (fun j => decide (j < 7)) 7 rfl (by kernel_rfl) ?_
        refine wpM_held 0 (v := .agg #[.bool na, .slice a1 da.length c1]) rfl (by kernel_rfl) (by kernel_rfl) rfl (fun _ _ _ h => h) rfl (by intro wx hx; obtain ⟨x0, x1⟩ := (q1.below hx q1.lt).duo; go_simp <;> rfl) hS ?_
        refine wpM_held 1 (v := .int .i64 (i : Int)) rfl (by kernel_rfl) (by kernel_rfl) rfl (fun _ _ _ h => h) rfl (by intro wx hx; go_simp <;> rfl) hS ?_
        refine wpM_held 3 (v := .agg #[.bool nb, .slice a2 db.length c2]) rfl (by kernel_rfl) (by kernel_rfl) rfl (fun _ _ _ h => h) rfl (by intro wx hx; obtain ⟨x0, x1⟩ := (q2.below hx q2.lt).duo; go_simp <;> rfl) hS ?_
        refine wpM_held 4 (v := .int .i64 (i : Int)) rfl (by kernel_rfl) (by kernel_rfl) rfl (fun _ _ _ h => h) rfl (by intro wx hx; go_simp <;> rfl) hS ?_
        refine wpM_one 2 rfl (by kernel_rfl) rfl ?_
        go_wp2_with fail
        refine Calls.mono (HAT _ i (HA.out.below (hB02.trans (hS.mono hB02.size)))).out ?_
        rintro _ wc ⟨rfl, ba⟩
        have hS1 : Below wb.heap.size wb wc := hS.trans (ba.mono hS.size)
        clear ba
        rw [ha]
        go_wp2_with fail
        refine ⟨fun _ => hS1, ?_⟩
        refine wpM_one 5 rfl (by kernel_rfl) rfl ?_
        go_wp2_with fail
        refine Calls.mono (HBT _ i (HB.out.below (hB02.trans (hS1.mono hB02.size)))).out ?_
        rintro _ wd ⟨rfl, bb⟩
        have hS2 : Below wb.heap.size wb wd := hS1.trans (bb.mono hS1.size)
        clear bb hS1 hS
        rw [hb]
        go_wp2_with fail
        refine ⟨fun _ => hS2, ?_⟩
        refine wpM_one 6 rfl (by kernel_rfl) rfl ?_
        go_wp2_with fail
        refine ⟨fun _ => hS2, ?_⟩
        refine wpM_done (by kernel_rfl) ?_
        have q1 := q1.below hS2 q1.lt
        have q2 := q2.below hS2 q2.lt
        have hB022 := hB02.trans (hS2.mono hB02.size)
        clear hS2
        have HE2 : Hid (∀ j : Nat, i ≤ j → da[j]?.getD 0 = db[j]?.getD 0) := by
          intro j hj
          by_cases hji : j = i
          · rw [hji, ha, hb]; exact HXY.out
          · exact HE.out j (by have := HKI.out; omega)
        go_wp2
        go_roundw
        case rel => exact ⟨i, by have := HKI.out; omega, by go_num, HE2, q1, q2, hB022⟩
        case measure => have := HKI.out; simp [intOf]; omega
      · have hci : Hid (ci = 1) := by
          show _ = _
          rw [← HCI.out]
          have := dval_more i da db HGA.out HGB.out (fun j hj => HE.out j (by have := HKI.out; omega)) (by rw [ha, hb]; exact hxy)
          unfold cI; rw [if_pos this]
        go_wp2_with fail
        have hS : Below wr.heap.size wr wr.drew := (Below.refl _ wr).drew
        refine wp_region_M (fun wx : World => Below wr.heap.size wr wx) (fun j => decide (j < 7)) 7 rfl (by kernel_rfl) ?_
        refine wpM_held 0 (v := .agg #[.bool na, .slice a1 da.length c1]) rfl (by kernel_rfl) (by kernel_rfl) rfl (fun _ _ _ h => h) rfl (by intro wx hx; obtain ⟨x0, x1⟩ := (q1.below hx q1.lt).duo; go_simp <;> rfl) hS ?_
        refine wpM_held 1 (v := .int .i64 (i : Int)) rfl (by kernel_rfl) (by kernel_rfl) rfl (fun _ _ _ h => h) rfl (by intro wx hx; go_simp <;> rfl) hS ?_
        refine wpM_held 3 (v := .agg #[.bool nb, .slice a2 db.length c2]) rfl (by kernel_rfl) (by kernel_rfl) rfl (fun _ _ _ h => h) rfl (by intro wx hx; obtain ⟨x0, x1⟩ := (q2.below hx q2.lt).duo; go_simp <;> rfl) hS ?_
        refine wpM_held 4 (v := .int .i64 (i : Int)) rfl (by kernel_rfl) (by kernel_rfl) rfl (fun _ _ _ h => h) rfl (by intro wx hx; go_simp <;> rfl) hS ?_
        refine wpM_one 2 rfl (by kernel_rfl) rfl ?_
        go_wp2_with fail
        refine Calls.mono (HAT _ i (HA.out.below (hB0.trans (hS.mono hB0.size)))).out ?_
        rintro _ wa ⟨rfl, ba⟩
        have hS1 : Below wr.heap.size wr wa := hS.trans (ba.mono hS.size)
        clear ba
        rw [ha]
        go_wp2_with fail
        refine ⟨fun _ => hS1, ?_⟩
        refine wpM_one 5 rfl (by kernel_rfl) rfl ?_
        go_wp2_with fail
        refine Calls.mono (HBT _ i (HB.out.below (hB0.trans (hS1.mono hB0.size)))).out ?_
        rintro _ wb ⟨rfl, bb⟩
        have hS2 : Below wr.heap.size wr wb := hS1.trans (bb.mono hS1.size)
        clear bb hS1 hS
        rw [hb]
        go_wp2_with fail
        refine ⟨fun _ => hS2, ?_⟩
        refine wpM_one 6 rfl (by kernel_rfl) rfl ?_
        go_wp2_with fail
        refine ⟨fun _ => hS2, ?_⟩
        refine wpM_done (by kernel_rfl) ?_
        have q1 := q1.below hS2 q1.lt
        have q2 := q2.below hS2 q2.lt
        have hB02 := hB0.trans (hS2.mono hB0.size)
        clear hS2
        go_wp2
        go_ret
        exact ⟨by rw [hci.out]; rfl, hB02⟩
end Go.Proofs.YtfbhonjndepjbaaDoor
