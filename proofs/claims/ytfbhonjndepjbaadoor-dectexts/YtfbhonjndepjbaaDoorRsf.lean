import Derived.Test.YtfbhonjndepjbaaDoorRtm
import Derived.Laws.MakeOwn
/- Shift: times ten, again and again. -/
namespace Go.Proofs.YtfbhonjndepjbaaDoor
open Go.RowKit

theorem make41 (n : Nat) (hn : n ≤ 1000) (w : World) : (Instr.makeSlice 43 (.int .i64 (n : Int)) (.int .i64 (n : Int))).run Tryd.prog w = .ok (.slice (some ⟨w.heap.size, 0, none⟩) n n) (w.alloc (.cells (madeCells #[.int .i64 0] n) 3)) := by
  obtain ⟨i0, hi, hzz⟩ := Option.map_eq_some_iff.1 Tryd.info3
  simp only [Prod.mk.injEq] at hzz
  obtain ⟨hz0, hz1, hz2⟩ := hzz
  have := run_makeSlice (P := Tryd.prog) w 43 3 i0 _ Tryd.underlying43 hi hz0 .i64 .i64 (n : Int) (n : Int) (by omega) (by omega) (by rw [hz1]; simp; omega) (by rw [hz2]; omega) (by omega)
  rw [hz1] at this
  simpa [Value.cells] using this
theorem made_zeros (n : Nat) : (madeCells #[.int .i64 0] n).toList = (List.replicate n (0 : Int)).map (Value.int .i64) := by
  rw [toList_madeCells_one]
  simp
theorem shift_val (x : Int) (n : Nat) : bval (decide (x < 0)) (List.replicate n 0 ++ digs x.natAbs) = x * 10 ^ n ∧ DgL (List.replicate n 0 ++ digs x.natAbs) := by
  have h1 : dval (List.replicate n (0 : Int) ++ digs x.natAbs) = 10 ^ n * (x.natAbs : Int) := by
    rw [dval_append, dval_zeros (fun d hd => (List.mem_replicate.1 hd).2), List.length_replicate, dval_digs]
    omega
  refine ⟨?_, fun d hd => ?_⟩
  · unfold bval
    rw [h1, Int.mul_comm]
    by_cases h : x < 0
    · rw [decide_eq_true h, if_pos rfl, ← Int.neg_mul]
      congr 1; omega
    · rw [decide_eq_false h, if_neg (by simp)]
      congr 1; omega
  · rcases List.mem_append.1 hd with hd | hd
    · rw [(List.mem_replicate.1 hd).2]; omega
    · exact digs_dg _ d hd
theorem row_cell {W : World} {B i : Nat} {t : TypeId} {cs : Array Value} (h : Row W B t cs) : W.cell? ⟨B, i, none⟩ = cs[i]? := cell_of_row W B i cs t (0, 0) h
/-- A Big's cell is written: digits elsewhere stay. -/
theorem DgAt.store {W : World} {sv : Value} {ds : List Int} (h : DgAt W sv ds) {B : Nat} {p : Bool} {x : Option Addr} {y z : Nat} (hR : Row W B 45 #[.bool p, .slice x y z]) (u u' : Value) :
    DgAt ((W.setCell ⟨B, 0, none⟩ u).setCell ⟨B, 1, none⟩ u') sv ds := by
  refine ⟨?_, h.2⟩
  have hk := ((Kept.refl (fun k => k ≠ B) W).setCell (p := ⟨B, 0, none⟩) (by simp) u).setCell (p := ⟨B, 1, none⟩) (by simp) u'
  rcases h.1 with h0 | ⟨b, off, c, e, hb, hc⟩
  · exact .inl h0
  · by_cases h0 : ds = []
    · subst h0; exact .inl ⟨rfl, _, _, e⟩
    · have hl : 0 < ds.length := List.length_pos_iff.2 h0
      have hne : b ≠ B := by
        rintro rfl
        have h1 := hc 0 hl
        rw [row_cell hR] at h1
        match off, h1 with
        | 0, h1 => simp at h1
        | 1, h1 => simp at h1
        | o + 2, h1 => simp at h1
      exact .inr ⟨b, off, c, e, Nat.lt_of_lt_of_le hb hk.size, fun j hj => (hk.cell (p := ⟨b, off + j, none⟩) hne).trans (hc j hj)⟩
set_option maxRecDepth 100000 in
set_option maxHeartbeats 1000000 in
theorem shift_new (x : Int) (v : Value) (n : Nat) (w : World) (hV : BigV w x v) (hn : n ≤ 300) (hx : (digs x.natAbs).length ≤ 600) :
    Calls Tryd.prog 58 #[v, .int .i64 (n : Int)] w fun r w' => ∃ v', r = .returned v' ∧ BigV w' (x * 10 ^ n) v' ∧ NewV w.heap.size v' ∧ Below w.heap.size w w' := by
  obtain ⟨sv, rfl, hD⟩ := hV
  obtain ⟨hsv, hsd⟩ := shift_val x n
  have HT : ∀ W sv', DgAt W sv' (List.replicate n 0 ++ digs x.natAbs) → Hid (Calls Tryd.prog 59 #[.agg #[.bool (decide (x < 0)), sv']] W fun r w' => ∃ v', r = .returned v' ∧ BigV w' (x * 10 ^ n) v' ∧ NewV W.heap.size v' ∧ Below W.heap.size W w') := fun W sv' h => by
    have := trim_new (decide (x < 0)) sv' _ W h hsd (by rw [List.length_append, List.length_replicate]; omega)
    rw [hsv] at this
    exact this
  clear hsv hsd
  unfold bv
  generalize decide (x < 0) = neg at *
  generalize digs x.natAbs = ds at *
  obtain ⟨_, a, c, rfl, _, _⟩ := id hD
  have HD : Hid (DgAt w (.slice a ds.length c) ds) := hD
  clear hD
  go_enter Tryd.func58, Tryd.ntmps58
  go_wp2_with fail
  have r1 := (Row.new w 45 #[.bool neg, .slice a ds.length c]).alloc (.cells #[.bool false, .slice none 0 0] 45)
  have r2 := Row.new1 w (.cells #[.bool neg, .slice a ds.length c] 45) 45 #[.bool false, .slice none 0 0]
  have hB := ((Below.refl _ w).alloc (Nat.le_refl _) (.cells #[.bool neg, .slice a ds.length c] 45)).alloc (by simp) (.cells #[.bool false, .slice none 0 0] 45)
  generalize (w.alloc (.cells #[.bool neg, .slice a ds.length c] 45)).alloc (.cells #[.bool false, .slice none 0 0] 45) = W at *
  have hS : Below W.heap.size W W.drew := (Below.refl _ W).drew
  have hz2 := r2.lt
  refine wp_region_M (fun wx : World => Below W.heap.size W wx) (fun j => decide (j < 9)) 10 rfl (by kernel_rfl) ?_
  refine wpM_held 0 (v := ?_) rfl (by kernel_rfl) (by kernel_rfl) rfl (fun _ _ _ h => h) rfl (by intro wx hx; go_simp <;> rfl) hS ?_
  refine wpM_held 1 (v := .bool neg) rfl (by kernel_rfl) (by kernel_rfl) rfl (fun _ _ _ h => h) rfl (by intro wx hx; obtain ⟨x0, x1⟩ := (r1.below hx r1.lt).duo; go_simp <;> rfl) hS ?_
  refine wpM_held 2 (v := .int .i64 (n : Int)) rfl (by kernel_rfl) (by kernel_rfl) rfl (fun _ _ _ h => h) rfl (by intro wx hx; go_simp <;> rfl) hS ?_
  refine wpM_held 4 (v := ?_) rfl (by kernel_rfl) (by kernel_rfl) rfl (fun _ _ _ h => h) rfl (by intro wx hx; go_simp <;> rfl) hS ?_
  refine wpM_held 5 (v := .slice a ds.length c) rfl (by kernel_rfl) (by kernel_rfl) rfl (fun _ _ _ h => h) rfl (by intro wx hx; obtain ⟨x0, x1⟩ := (r1.below hx r1.lt).duo; go_simp <;> rfl) hS ?_
  refine wpM_one 3 rfl (by kernel_rfl) rfl ?_
  have mk := make41 n (by omega)
  go_wp2_with fail
  have hsz0 : (madeCells #[Value.int .i64 0] n).size = n * 1 := by rw [size_madeCells]; omega
  have hO0 : (W.alloc (.cells (madeCells #[.int .i64 0] n) 3)).drew.ownsRow W.heap.size 3 1 (.slice (some ⟨W.heap.size, 0, none⟩) n n) n ((List.replicate n (0 : Int)).map (Value.int .i64)) := by
    have := World.ownsRow_lit (base := W.heap.size) (e := 3) (size := 1) W (madeCells #[.int .i64 0] n) n (Nat.le_refl _) (by unfold maxLen; omega) hsz0
    rw [made_zeros] at this
    exact this
  have hW1 : Below W.heap.size W (W.alloc (.cells (madeCells #[.int .i64 0] n) 3)).drew := ((Below.refl _ W).alloc (Nat.le_refl _) _).drew
  clear mk hsz0
  generalize (W.alloc (.cells (madeCells #[.int .i64 0] n) 3)).drew = W1 at *
  refine ⟨fun _ => hW1, ?_⟩
  have hD1 : DgAt W1 (.slice a ds.length c) ds := (HD.out.below hB).below (hW1.mono (Nat.le_refl _))
  refine wpM_one 6 rfl (by kernel_rfl) rfl ?_
  refine wpList_append_dg _ rfl (.tmp 8) (.tmp 10) rfl W.heap.size _ _ _ rfl hO0 _ ds rfl hD1 (by omega) hW1.size ?_
  intro v1 x1 hown1 hgrow1
  have hW2 : Below W.heap.size W x1 := hW1.grown hgrow1 hW1.size (fun k e => (hO0.lt k e).1)
  have hDg : DgAt x1 v1 (List.replicate n 0 ++ ds) := by
    refine OwnD.dg (B := W.heap.size) ?_
    unfold OwnD
    rw [List.length_append, List.length_replicate, List.map_append]
    exact hown1
  obtain ⟨g1, k1, rfl⟩ := owns_form hown1
  have HTT := HT x1 _ hDg
  clear hown1 hgrow1 hO0 hD1 HT hDg
  go_wp2_with fail
  refine ⟨fun _ => hW2, ?_⟩
  refine wpM_one 7 rfl (by kernel_rfl) rfl ?_
  go_wp2_with fail
  refine ⟨fun _ => hW2, ?_⟩
  refine wpM_one 8 rfl (by kernel_rfl) rfl ?_
  go_wp2_with fail
  refine Calls.mono HTT.out ?_
  rintro _ x2 ⟨v2, rfl, hV2, hN2, hb2⟩
  obtain ⟨s2, rfl, hD2⟩ := hV2
  have hN2 := hN2.get.mono hW2.size
  have hW3 : Below W.heap.size W x2 := hW2.trans (hb2.mono hW2.size)
  obtain ⟨_, a2, c2, rfl, _, _⟩ := id hD2
  clear hb2 HTT
  unfold bv
  obtain ⟨ng, hng⟩ : ∃ ng, decide (x * 10 ^ n < 0) = ng := ⟨_, rfl⟩
  have HNG : Hid (decide (x * 10 ^ n < 0) = ng) := hng
  rw [hng]
  clear hng
  go_wp2_with fail
  refine ⟨fun _ => hW3, ?_⟩
  have p2 := r2.below hW3 r2.lt
  obtain ⟨y0, y1⟩ := p2.duo
  have zf := p2.frozen
  refine wpM_one 9 rfl (by kernel_rfl) rfl ?_
  go_wp2_with fail
  refine ⟨fun h => by simp at h, ?_⟩
  refine wpM_done (by kernel_rfl) ?_
  have hBx := hB.trans (hW3.mono (by omega))
  have hBe := below_set (below_set hBx (B := w.heap.size + 1) 0 (.bool ng) (by omega)) (B := w.heap.size + 1) 1 (.slice a2 (digs (x * 10 ^ n).natAbs).length c2) (by omega)
  have hZe := Row.set2 p2 (.bool ng) (.slice a2 (digs (x * 10 ^ n).natAbs).length c2)
  have hDe := hD2.store p2 (.bool ng) (.slice a2 (digs (x * 10 ^ n).natAbs).length c2)
  go_wp2
  exact bodyPost_ret (ret_one rfl (g := w.heap.size + 1) rfl (load43 hZe rfl)) rfl ⟨_, rfl, ⟨_, by rw [HNG.out]; rfl, hDe⟩, ⟨_, _, rfl, hN2.mono (by omega)⟩, hBe⟩
theorem shift_any (x : Int) (v : Value) (n : Nat) (w : World) (hV : BigV w x v) (hn : n ≤ 300) (hx : (digs x.natAbs).length ≤ 600) :
    Calls Tryd.prog 58 #[v, .int .i64 (n : Int)] w fun r w' => ∃ v', r = .returned v' ∧ BigV w' (x * 10 ^ n) v' ∧ Below w.heap.size w w' := by
  refine (shift_new x v n w hV hn hx).mono ?_
  rintro r w' ⟨v, h1, h2, _, h3⟩
  exact ⟨v, h1, h2, h3⟩
end Go.Proofs.YtfbhonjndepjbaaDoor
