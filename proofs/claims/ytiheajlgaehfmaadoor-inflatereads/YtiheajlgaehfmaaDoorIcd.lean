import Derived.Test.YtiheajlgaehfmaaDoorIrw
/- The document's stream: lengths and their codes. -/
namespace Go.Proofs.YtiheajlgaehfmaaDoor
open Go.RowKit

theorem two_set {W : World} {B : Nat} {a b : Value} (h : Row W B 70 #[a, b]) (x y : Value) : Row ((W.setCell ⟨B, 0, none⟩ x).setCell ⟨B, 1, none⟩ y) B 70 #[x, y] := by
  have := (h.set 0 x).set 1 y
  simpa using this
theorem below_set2 {N : Nat} {A W : World} (h : Below N A W) (B : Nat) (hB : N ≤ B) (x y : Value) : Below N A ((W.setCell ⟨B, 0, none⟩ x).setCell ⟨B, 1, none⟩ y) := (h.setCell (p := ⟨B, 0, none⟩) hB x).setCell (p := ⟨B, 1, none⟩) hB y

set_option maxRecDepth 100000 in
set_option maxHeartbeats 1000000 in
/-- Lengths that make a code: they and their codes; else the error. -/
theorem coded_in (D : Nat → Prop) (a : Option Addr) (ca : Nat) (zs : List Int) (w : World) (hD : ∀ k, D k → k < w.heap.size) (hI : IntsIn D w (.slice a zs.length ca) zs) :
    Calls Tryd.prog 40 #[.slice a zs.length ca] w fun e w' => Below w.heap.size w w' ∧ ∃ vc, e = .returned (.tuple #[.agg #[.slice a zs.length ca, vc], .int .i64 (errOf zs)]) ∧ (∃ g c, vc = .slice g c c) ∧ (errOf zs = 0 → ∃ GC, w.heap.size ≤ GC ∧ GC < w'.heap.size ∧ vc = .slice (some ⟨GC, 0, none⟩) zs.length zs.length ∧ Row w' GC 51 (u32s (codesOf zs))) := by
  have hB1 : Below w.heap.size w (w.alloc (.cells #[.slice none 0 0, .slice none 0 0] 70)) := (Below.refl _ w).alloc (Nat.le_refl _) _
  have hI1 := hI.kept (Kept.of_below hB1 hD)
  have r2 := Row.new w 70 #[.slice none 0 0, .slice none 0 0]
  have hs1 : (w.alloc (.cells #[.slice none 0 0, .slice none 0 0] 70)).heap.size = w.heap.size + 1 := by simp
  by_cases h0 : errOf zs = 0
  · have HC : Hid _ := refCodes_ok D a ca zs _ (fun k h => by have := hD k h; rw [hs1]; omega) hI1 h0
    rw [h0]
    go_enter Tryd.func40, Tryd.ntmps40
    go_wp2_with fail
    refine Calls.mono HC.out ?_
    clear HC
    rw [hs1]
    rintro e w2 ⟨rfl, hRC, hb2⟩
    have hr := r2.below hb2 (by omega)
    have hB2 : Below w.heap.size w w2 := hB1.trans (hb2.mono (by omega))
    have hz2 := hb2.size
    have hlt := hRC.lt
    have f0 := hr.frozen 0
    have f1 := hr.frozen 1
    have c0 := hr.cell (i := 0) rfl
    have c1 := hr.cell (i := 1) rfl
    have hR2 := two_set hr (.slice a zs.length ca) (.slice (some ⟨w.heap.size + 1, 0, none⟩) zs.length zs.length)
    have hBB : Below w.heap.size w ((w2.setCell ⟨w.heap.size, 0, none⟩ (.slice a zs.length ca)).setCell ⟨w.heap.size, 1, none⟩ (.slice (some ⟨w.heap.size + 1, 0, none⟩) zs.length zs.length)) := below_set2 hB2 _ (Nat.le_refl _) _ _
    have HL : Hid ((loadVar 70 ⟨w.heap.size, 0, none⟩).run Tryd.prog ((w2.setCell ⟨w.heap.size, 0, none⟩ (.slice a zs.length ca)).setCell ⟨w.heap.size, 1, none⟩ (.slice (some ⟨w.heap.size + 1, 0, none⟩) zs.length zs.length)) = .ok (.agg #[.slice a zs.length ca, .slice (some ⟨w.heap.size + 1, 0, none⟩) zs.length zs.length]) ((w2.setCell ⟨w.heap.size, 0, none⟩ (.slice a zs.length ca)).setCell ⟨w.heap.size, 1, none⟩ (.slice (some ⟨w.heap.size + 1, 0, none⟩) zs.length zs.length))) := run_loadVar_row _ _ 70 70 _ (0, 0) _ hR2 Tryd.underlying70 rfl (by kernel_rfl)
    have hRC2 : Row ((w2.setCell ⟨w.heap.size, 0, none⟩ (.slice a zs.length ca)).setCell ⟨w.heap.size, 1, none⟩ (.slice (some ⟨w.heap.size + 1, 0, none⟩) zs.length zs.length)) (w.heap.size + 1) 51 (u32s (codesOf zs)) := hRC.kept (((Kept.refl (fun k => k ≠ w.heap.size) w2).setCell (p := ⟨w.heap.size, 0, none⟩) (fun h => h rfl) _).setCell (p := ⟨w.heap.size, 1, none⟩) (fun h => h rfl) _) (by show w.heap.size + 1 ≠ _; omega)
    clear hB1 hI1 r2 hs1 hr hR2 hRC hb2 hB2 hI
    go_wp2
    refine bodyPost_ret (v := .tuple #[.agg #[.slice a zs.length ca, .slice (some ⟨w.heap.size + 1, 0, none⟩) zs.length zs.length], .int .i64 0]) ?_ rfl ⟨hBB, _, rfl, ⟨_, _, rfl⟩, fun _ => ⟨w.heap.size + 1, by omega, by simp [World.setCell]; omega, rfl, hRC2⟩⟩
    rw [results_cell_tmp rfl]
    have hl := HL.out
    simp [asAddr, Result.andThen, hl]
  · have HC : Hid _ := refCodes_err D a ca zs _ hI1 h0
    obtain ⟨er, her⟩ : ∃ er, errOf zs = er := ⟨_, rfl⟩
    rw [her] at h0 HC ⊢
    clear her
    go_enter Tryd.func40, Tryd.ntmps40
    go_wp2_with fail
    refine Calls.mono HC.out ?_
    clear HC
    rintro e w2 ⟨rfl, hw2⟩
    have hr : Row w2 w.heap.size 70 #[.slice none 0 0, .slice none 0 0] := hw2 ▸ r2
    have hB2 : Below w.heap.size w w2 := hw2 ▸ hB1
    clear hw2
    have f0 := hr.frozen 0
    have f1 := hr.frozen 1
    have c0 := hr.cell (i := 0) rfl
    have c1 := hr.cell (i := 1) rfl
    have hR2 := two_set hr (.slice a zs.length ca) (.slice none 0 0)
    have hBB : Below w.heap.size w ((w2.setCell ⟨w.heap.size, 0, none⟩ (.slice a zs.length ca)).setCell ⟨w.heap.size, 1, none⟩ (.slice none 0 0)) := below_set2 hB2 _ (Nat.le_refl _) _ _
    have HL : Hid ((loadVar 70 ⟨w.heap.size, 0, none⟩).run Tryd.prog ((w2.setCell ⟨w.heap.size, 0, none⟩ (.slice a zs.length ca)).setCell ⟨w.heap.size, 1, none⟩ (.slice none 0 0)) = .ok (.agg #[.slice a zs.length ca, .slice none 0 0]) ((w2.setCell ⟨w.heap.size, 0, none⟩ (.slice a zs.length ca)).setCell ⟨w.heap.size, 1, none⟩ (.slice none 0 0))) := run_loadVar_row _ _ 70 70 _ (0, 0) _ hR2 Tryd.underlying70 rfl (by kernel_rfl)
    clear hB1 hI1 r2 hs1 hr hR2 hB2 hI
    go_wp2
    refine bodyPost_ret (v := .tuple #[.agg #[.slice a zs.length ca, .slice none 0 0], .int .i64 er]) ?_ rfl ⟨hBB, _, rfl, ⟨_, _, rfl⟩, fun h => absurd h h0⟩
    rw [results_cell_tmp rfl]
    have hl := HL.out
    simp [asAddr, Result.andThen, hl]
end Go.Proofs.YtiheajlgaehfmaaDoor
