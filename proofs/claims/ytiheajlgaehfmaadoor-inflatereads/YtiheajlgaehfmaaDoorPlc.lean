import Derived.Test.YtiheajlgaehfmaaDoorPfc
/- The program's stream: the codes of the code lengths. -/
namespace Go.Proofs.YtiheajlgaehfmaaDoor
open Go.RowKit

/-- The table of the order, among the blocks that are not touched. -/
structure OrdIn (T : Nat → Prop) (w : World) : Prop where
  inT : T 0
  cell : ∀ j, j < 19 → w.cell? ⟨0, j, none⟩ = some (.int .i64 ((orderL[j]?.getD 0 : Nat) : Int))
theorem OrdIn.kept {T : Nat → Prop} {w w' : World} (h : OrdIn T w) (hk : Kept T w w') : OrdIn T w' := ⟨h.inT, fun j hj => (hk.cell (p := ⟨0, j, none⟩) h.inT).trans (h.cell j hj)⟩
theorem OrdIn.mono {T T' : Nat → Prop} {w : World} (h : OrdIn T w) (hT : ∀ k, T k → T' k) : OrdIn T' w := ⟨hT 0 h.inT, h.cell⟩
theorem order_lt : ∀ j, j < 19 → orderL[j]?.getD 0 < 19 := by decide

def i64s (zs : List Int) : Array Value := (zs.map (Value.int .i64)).toArray
theorem i64s_set (zs : List Int) (k : Nat) (x : Int) : (i64s zs).setIfInBounds k (.int .i64 x) = i64s (zs.set k x) := by simp [i64s, List.map_set]
theorem i64s_get (zs : List Int) (k : Nat) (h : k < zs.length) : (i64s zs)[k]? = some (.int .i64 (zs[k]?.getD 0)) := by simp [i64s, h]
theorem Row.i64s_in {w : World} {L : Nat} {zs : List Int} (D : Nat → Prop) (h : Row w L 3 (i64s zs)) (hD : D L) (c : Nat) : IntsIn D w (.slice (some ⟨L, 0, none⟩) zs.length c) zs :=
  .inr ⟨L, 0, c, rfl, hD, fun j hj => by rw [Nat.zero_add]; exact h.cell (i64s_get zs j hj)⟩
theorem PEnv.add {T : Nat → Prop} {S Q : Nat} {bs : List Int} {g : Option Addr} {c most L : Nat} {w : World} (h : PEnv T S Q bs g c most w) (hL : L < w.heap.size) (hS : L ≠ S) (hQ : L ≠ Q) : PEnv (fun k => T k ∨ k = L) S Q bs g c most w :=
  ⟨fun k hk => hk.elim (h.lt k) (fun e => e ▸ hL), fun hk => hk.elim h.nS (fun e => hS e.symm), fun hk => hk.elim h.nQ (fun e => hQ e.symm), h.bytes.mono (fun _ hk => .inl hk), h.are, h.len, h.cap, h.nil, h.big⟩
theorem PAt.add {T : Nat → Prop} {S Q : Nat} {bs : List Int} {g : Option Addr} {c most pos L : Nat} {l d : Value} {out : List Int} {w : World} (h : PAt T S Q bs g c most l d pos out w) {t : TypeId} {cs : Array Value} (hL : Row w L t cs) (ht : t ≠ 5) : PAt (fun k => T k ∨ k = L) S Q bs g c most l d pos out w := by
  obtain ⟨v, hR, h2, ho, hnn, hp, hom⟩ := h
  exact ⟨v, hR, h2, ho, fun k hk hT => hT.elim (hnn k hk) (fun e => row_ne ho hL ht (e ▸ hk)), hp, hom⟩
theorem PAt.sub {T T' : Nat → Prop} {S Q : Nat} {bs : List Int} {g : Option Addr} {c most pos : Nat} {l d : Value} {out : List Int} {w : World} (h : PAt T S Q bs g c most l d pos out w) (hT : ∀ k, T' k → T k) : PAt T' S Q bs g c most l d pos out w := by
  obtain ⟨v, hR, h2, ho, hnn, hp, hom⟩ := h
  exact ⟨v, hR, h2, ho, fun k hk hk' => hnn k hk (hT k hk'), hp, hom⟩
theorem PAt.rowNe {T : Nat → Prop} {S Q : Nat} {bs : List Int} {g : Option Addr} {c most pos L : Nat} {l d : Value} {out : List Int} {w : World} (h : PAt T S Q bs g c most l d pos out w) {cs : Array Value} (hL : Row w L 3 cs) : L ≠ S ∧ L ≠ Q := by
  obtain ⟨v, hR, h2, ho, hnn, hp, hom⟩ := h
  constructor
  · intro e
    have h9 : w.heap[S]? = _ := hR
    rw [← e, show w.heap[L]? = _ from hL] at h9
    simp at h9
  · intro e
    have h9 : w.heap[Q]? = _ := h2
    rw [← e, show w.heap[L]? = _ from hL] at h9
    simp at h9
/-- A store into a block that is none of the stream's. -/
theorem PAt.setOther {T : Nat → Prop} {S Q : Nat} {bs : List Int} {g : Option Addr} {c most pos L : Nat} {l d : Value} {out : List Int} {w : World} (h : PAt T S Q bs g c most l d pos out w) {cs : Array Value} (hL : Row w L 3 cs) (i : Nat) (u : Value) : PAt T S Q bs g c most l d pos out (w.setCell ⟨L, i, none⟩ u) := by
  obtain ⟨nS, nQ⟩ := h.rowNe hL
  obtain ⟨v, hR, h2, ho, hnn, hp, hom⟩ := h
  have kL : Kept (fun x => x ≠ L) w (w.setCell ⟨L, i, none⟩ u) := (Kept.refl _ w).setCell (p := ⟨L, i, none⟩) (by simp) _
  exact ⟨v, hR.kept kL (fun e => nS e.symm), h2.kept kL (fun e => nQ e.symm), owns_kept ho kL (fun k hk e => row_ne ho hL (by decide) (e ▸ hk)), hnn, hp, hom⟩
theorem clS_err {bs : List Int} {k i pos : Nat} {l : List Int} {e : Int} (h : takeS bs pos 3 = .error e) : clS bs (k + 1) i pos l = .error e := by rw [clS, h]
theorem clS_more {bs : List Int} {k i pos x p : Nat} {l : List Int} (h : takeS bs pos 3 = .ok (x, p)) : clS bs (k + 1) i pos l = clS bs k (i + 1) p (l.set (orderL[i]?.getD 0) (x : Int)) := by rw [clS, h]

/-- What lengthCodes answers: a decoder, or giving up. -/
def LcPost (T : Nat → Prop) (S Q : Nat) (bs : List Int) (g : Option Addr) (c most : Nat) (l d : Value) (out : List Int) (w : World) (R : Except Int (Nat × List Int)) (e : Ending) (w' : World) : Prop :=
  (∃ p cl DZ T', R = .ok (p, cl) ∧ fullB cl = true ∧ cl.length = 19 ∧ e = .returned (.pointer (some ⟨DZ, 0, none⟩)) ∧ (∀ k, T k → T' k) ∧ PEnv T' S Q bs g c most w' ∧ PAt T' S Q bs g c most l d p out w' ∧ DecIn T' w' DZ cl ∧ Kept T w w') ∨
  (∃ er, (R = .error er ∨ (er = 11 ∧ ∃ p cl, R = .ok (p, cl) ∧ fullB cl = false)) ∧ er ≠ 0 ∧ e = gaveUp er ∧ Kept T w w')

set_option maxRecDepth 100000 in
set_option maxHeartbeats 4000000 in
theorem lengthCodes_r {T : Nat → Prop} {S Q : Nat} {bs : List Int} {g : Option Addr} {c most pos : Nat} {l d : Value} {out : List Int} (many : Nat) (hm : many ≤ 19) (R : Except Int (Nat × List Int)) (HR : Hid (clS bs many 0 pos (List.replicate 19 0) = R)) (w : World) (hE : PEnv T S Q bs g c most w) (hs : PAt T S Q bs g c most l d pos out w) (hO : OrdIn T w) :
    Calls Tryd.prog 57 #[.pointer (some ⟨S, 0, none⟩), .int .i64 (many : Int)] w (LcPost T S Q bs g c most l d out w R) := by
  have hmk := run_make_row' (P := Tryd.prog) 32 3 (.int .i64 0) 8 Tryd.underlying32 Tryd.info3' rfl .i64 .i64 19 (by omega) (by omega)
  have hmk' : ∀ w : World, (Instr.makeSlice 32 (.int .i64 19) (.int .i64 19)).run Tryd.prog w = .ok (.slice (some ⟨w.heap.size, 0, none⟩) 19 19) (w.alloc (.cells (i64s (List.replicate 19 0)) 3)) := by
    intro w
    have := hmk w
    rw [show madeCells #[Value.int .i64 0] 19 = i64s (List.replicate 19 0) by
      apply Array.toList_inj.1
      rw [toList_madeCells_one]
      simp [i64s]] at this
    exact this
  clear hmk
  have hZl : (List.replicate 19 (0 : Int)).length = 19 := rfl
  generalize List.replicate 19 (0 : Int) = Z at hmk' HR hZl
  obtain ⟨L, hL⟩ : ∃ L, w.heap.size = L := ⟨_, rfl⟩
  have hR0 : Row (w.alloc (.cells (i64s (Z)) 3)) L 3 (i64s (Z)) := hL ▸ Row.new w 3 _
  have hs0 := hs.alloc (.cells (i64s (Z)) 3)
  have hk0 : Kept T w (w.alloc (.cells (i64s (Z)) 3)) := (Kept.refl T w).alloc hE.lt _
  have hLT : ¬ T L := fun h => by have := hE.lt L h; omega
  go_enter Tryd.func57, Tryd.ntmps57
  go_wp2_with fail
  generalize w.alloc (.cells (i64s (Z)) 3) = w1 at hR0 hs0 hk0 ⊢
  clear hmk' hL
  go_loopw [9] (fun v9 wr => ∃ (i pos : Nat) (cl : List Int), i ≤ many ∧ v9 = .int .i64 (i : Int) ∧ Hid (clS bs (many - i) i pos cl = R) ∧ cl.length = 19 ∧ Row wr L 3 (i64s cl) ∧ PAt T S Q bs g c most l d pos out wr ∧ Kept T w wr) (fun v9 _ => many - (intOf v9).toNat)
  case atStart => exact ⟨0, pos, Z, by omega, rfl, HR, hZl, hR0, hs0, hk0⟩
  case round =>
    clear hR0 hs0 hk0 HR hs
    obtain ⟨i, pos, cl, hi, rfl, HR, hcl, hRr, hsr, hkr⟩ := hrel
    have hEr := hE.kept hkr
    have hOr := hO.kept hkr
    by_cases hlt : i < many
    · obtain ⟨nS, nQ⟩ := hsr.rowNe hRr
      have hc0 := hOr.cell i (by omega)
      have hol := order_lt i (by omega)
      have HS : Hid (wr.drew.cell? ⟨0, i, none⟩ = some (.int .i64 ((orderL[i]?.getD 0 : Nat) : Int))) := hc0
      have HN : Hid _ := number_s 3 (by omega) wr.drew ((hEr.add hRr.lt nS nQ).kept (Kept.refl _ _).drew) ((hsr.add hRr (by decide)).drewN 1)
      have HX : Hid (clS bs (many - (i + 1) + 1) i pos cl = R) := by rw [show many - (i + 1) + 1 = many - i by omega]; exact HR
      have hLr := hRr.lt
      generalize hod : orderL[i]?.getD 0 = od at HS hol
      have HOD : Hid (orderL[i]?.getD 0 = od) := hod
      have hbx : (i : Int) < 19 := by omega
      clear hc0 hod
      go_wp2_with fail
      refine wp_region_K (fun wx => wx.cell? ⟨0, i, none⟩ = some (.int .i64 (od : Int))) (fun j => decide (2 ≤ j) && decide (j ≤ 5)) (by kernel_rfl) ?_
      refine wpK_free (k := 0) (v := ?_) rfl (by kernel_rfl) (by kernel_rfl) (fun _ _ _ h => h) rfl (by intro wx; go_simp <;> rfl) ?_
      refine wpK_free (k := 1) (v := ?_) rfl (by kernel_rfl) (by kernel_rfl) (fun _ _ _ h => h) rfl (by intro wx; go_simp <;> rfl) ?_
      refine wpK_held (k := 2) (v := ?_) rfl (by kernel_rfl) (by kernel_rfl) (fun _ _ _ h => h) rfl (by intro wx hx1; go_simp <;> rfl) HS.out ?_
      refine wpK_held (k := 3) (v := ?_) rfl (by kernel_rfl) (by kernel_rfl) (fun _ _ _ h => h) rfl (by intro wx hx1; go_simp <;> rfl) HS.out ?_
      refine wpK_held (k := 4) (v := ?_) rfl (by kernel_rfl) (by kernel_rfl) (fun _ _ _ h => h) rfl (by intro wx hx1; go_simp <;> rfl) HS.out ?_
      refine wpK_one (k := 5) rfl (by kernel_rfl) ?_
      go_wp2_with fail
      refine Calls.mono HN.out ?_
      clear HN
      rintro e w2 (⟨x, p2, h2, hx, rfl, hs2, hk2⟩ | ⟨h2, rfl, hk2⟩)
      · have HS2 : Hid (w2.cell? ⟨0, i, none⟩ = some (.int .i64 (od : Int))) := (hk2.cell (p := ⟨0, i, none⟩) (.inl hO.inT)).trans HS.out
        have hR2 := hRr.kept ((Kept.refl (fun k => T k ∨ k = L) wr).drew.trans hk2) (.inr rfl)
        have hc2 : w2.cell? ⟨L, od, none⟩ = some (.int .i64 (cl[od]?.getD 0)) := hR2.cell (i64s_get cl od (by omega))
        have hf2 := hR2.frozen od
        have HY : Hid (clS bs (many - (i + 1)) (i + 1) p2 (cl.set od (x : Int)) = R) := by
          show _ = _
          rw [← HX.out, clS_more h2, HOD.out]
        have HZ : Hid (Row (w2.setCell ⟨L, od, none⟩ (.int .i64 (x : Int))) L 3 (i64s (cl.set od (x : Int))) ∧ PAt T S Q bs g c most l d p2 out (w2.setCell ⟨L, od, none⟩ (.int .i64 (x : Int))) ∧ Kept T w (w2.setCell ⟨L, od, none⟩ (.int .i64 (x : Int)))) := by
          refine ⟨?_, (hs2.sub (fun k hk => .inl hk)).setOther hR2 od _, (hkr.drew.trans (hk2.mono (fun k hk => .inl hk))).setCell (p := ⟨L, od, none⟩) hLT _⟩
          have := hR2.set od (.int .i64 (x : Int))
          rwa [i64s_set] at this
        clear hs2 hk2 hR2 hRr hsr hkr hEr hOr h2 HX HR hE hO
        go_wp2_with fail
        refine ⟨fun _ => HS2.out, ?_⟩
        refine wpK_rest 6 (by kernel_rfl) 2 6 (by decide) (by decide) _ _ ?_
        simp only [List.drop_succ_cons, List.drop_zero]
        go_wp2
        exact ⟨⟨i + 1, p2, cl.set od (x : Int), by omega, by go_num, HY.out, by simpa using hcl, HZ.out.1, HZ.out.2.1, HZ.out.2.2⟩, by simp [intOf]; omega⟩
      · have HF : Hid (LcPost T S Q bs g c most l d out w R (gaveUp 10) w2) := .inr ⟨10, .inl (HX.out.symm.trans (clS_err h2)), by omega, rfl, hkr.drew.trans (hk2.mono (fun k hk => .inl hk))⟩
        clear hk2 hRr hsr hkr hEr hOr h2 HX HR hE hO
        go_wp2
        exact ⟨rfl, HF.out⟩
    · obtain rfl : i = many := by omega
      have HX : Hid (R = .ok (pos, cl)) := by
        show _ = _
        rw [← HR.out, Nat.sub_self]
        rfl
      have hIn : IntsIn (· < wr.heap.size) wr (.slice (some ⟨L, 0, none⟩) cl.length 19) cl := hRr.i64s_in _ hRr.lt 19
      have HFu : Hid (Calls Tryd.prog 74 #[.slice (some ⟨L, 0, none⟩) 19 19] wr fun e w' => e = .returned (.bool (fullB cl)) ∧ Below wr.heap.size wr w') := by
        have := full10_any (· < wr.heap.size) (some ⟨L, 0, none⟩) 19 cl wr (fun _ h => h) hIn
        rw [hcl] at this
        exact this
      clear HR
      go_wp2_with fail
      refine Calls.mono HFu.out ?_
      clear HFu
      rintro e w2 ⟨rfl, hb2⟩
      obtain ⟨hS, hQ⟩ := hsr.lts
      cases hfu : fullB cl with
      | false =>
        have HF : Hid (LcPost T S Q bs g c most l d out w R (gaveUp 11) w2) := .inr ⟨11, .inr ⟨rfl, pos, cl, HX.out, hfu⟩, by omega, rfl, hkr.trans (Kept.of_below hb2 hEr.lt)⟩
        clear HX hE hO hRr hsr hkr hEr hOr hIn hb2 hfu
        go_wp2
        exact ⟨rfl, HF.out⟩
      | true =>
        have hok : errOf cl = 0 := by
          unfold fullB at hfu
          simp only [Bool.and_eq_true, decide_eq_true_eq] at hfu
          exact hfu.1
        have hIn2 : IntsIn (· < w2.heap.size) w2 (.slice (some ⟨L, 0, none⟩) cl.length 19) cl := (hIn.kept (Kept.of_below hb2 (fun _ h => h))).mono (fun k (h : k < _) => Nat.lt_of_lt_of_le h hb2.size)
        have HN : Hid (Calls Tryd.prog 55 #[.slice (some ⟨L, 0, none⟩) 19 19] w2 fun e w' => ∃ D, e = .returned (.tuple #[.pointer (some ⟨D, 0, none⟩), .int .i64 0]) ∧ w2.heap.size ≤ D ∧ DecAt w2.heap.size cl 15 D w' ∧ Below w2.heap.size w2 w') := by
          have := new_ok (· < w2.heap.size) (some ⟨L, 0, none⟩) 19 cl w2 (fun _ h => h) hIn2 hok (by omega)
          rw [hcl] at this
          exact this
        go_wp2_with fail
        refine Calls.mono HN.out ?_
        clear HN
        rintro e w3 ⟨DZ, rfl, hDZ, hD3, hb3⟩
        have hb13 : Below wr.heap.size wr w3 := hb2.trans (hb3.mono hb2.size)
        have HF : Hid (LcPost T S Q bs g c most l d out w R (.returned (.pointer (some ⟨DZ, 0, none⟩))) w3) :=
          .inl ⟨pos, cl, DZ, upTo T wr w3, HX.out, hfu, hcl, rfl, fun k hk => .inl hk, hEr.below hS hQ hb13, hsr.below hb13, hD3.decIn hok hb2.size hDZ, hkr.trans (Kept.of_below hb13 hEr.lt)⟩
        clear HX hE hO hRr hsr hkr hEr hOr hIn hb2 hfu hIn2 hD3 hb3 hb13
        go_wp2_with fail
        refine (needD_ok _ _).mono ?_
        rintro e w4 ⟨rfl, rfl⟩
        go_wp2
        go_ret
        exact HF.out
end Go.Proofs.YtiheajlgaehfmaaDoor
