import Derived.Test.YtnblbakjfpfipaaGreatDoorWrpM
import Derived.Test.YtnblbakjfpfipaaGreatDoorWcoM
/- Parse. -/
namespace Go.Proofs.YtnblbakjfpfipaaGreatDoor
open Go.RowKit

/-- The reference that a text is; else why it is none. -/
def parseR (l : List UInt8) : Rf × Int :=
  if readOk l then (match foundR (bs (sheetC l).1) (placeP (sheetC l).2.1) with
    | some r => (r, 0)
    | none => (Rf.zero, 41)) else (Rf.zero, 40)
set_option maxRecDepth 100000 in
set_option maxHeartbeats 2000000 in
theorem parse_syntax (l : List UInt8) (hl : l.length ≤ 140737488351232) (h : readOk l = false) (w : World) :
    Calls Tryz.prog 21 #[.string (bs l)] w fun e w' => e = .returned (.tuple #[Rf.zero.v, .int .i64 40]) ∧ Below w.heap.size w w' := by
  have HR : ∀ W, Hid _ := fun W => read_any l hl W
  rw [h] at HR
  generalize placeP (sheetC l).2.1 = p at HR
  generalize (sheetC l).1 = A at HR
  obtain ⟨L, D, R, ac, ar⟩ := p
  unfold wrV at HR
  unfold Rf.zero Rf.v
  simp only at HR ⊢
  clear hl h
  go_enter Tryz.func21, Tryz.ntmps21
  go_wp2_with fail
  refine Calls.mono (HR _).out ?_
  rintro _ w1 ⟨rfl, b1⟩
  obtain ⟨hZ, hB⟩ := one_row w w1 _ _ b1
  clear b1 HR
  have hlt := hZ.lt
  obtain ⟨e0, e1, e2, e3, e4⟩ := hZ.five
  have z2 := hZ.frozen
  go_wp2
  refine bodyPost_ret (ret_two rfl (g := w.heap.size) rfl rfl (load23 ((Row.set5 hZ _ _ _ _ _).alloc _) rfl)) rfl ⟨rfl, ?_⟩
  exact below_allocS (below_set5 hB (Nat.le_refl _) _ _ _ _ _) _
set_option maxRecDepth 100000 in
set_option maxHeartbeats 2000000 in
theorem parse_read (l : List UInt8) (hl : l.length ≤ 140737488351232) (h : readOk l = true) (x : Rf) (f : Bool) (hx : ((foundR (bs (sheetC l).1) (placeP (sheetC l).2.1)).getD Rf.zero) = x) (hf : (foundR (bs (sheetC l).1) (placeP (sheetC l).2.1)).isSome = f) (w : World) :
    Calls Tryz.prog 21 #[.string (bs l)] w fun e w' => e = .returned (.tuple #[if f then x.v else Rf.zero.v, .int .i64 (if f then 0 else 41)]) ∧ Below w.heap.size w w' := by
  have HR : ∀ W, Hid _ := fun W => read_any l hl W
  have hok : (placeP (sheetC l).2.1).ok = true := by
    unfold readOk at h
    rw [Bool.and_eq_true] at h
    exact h.2
  have HF : ∀ W, Hid _ := fun W => found_any (bs (sheetC l).1) (sheetC l).2.1 hok W
  rw [hx, hf] at HF
  rw [h] at HR
  clear hx hf hok h hl
  generalize placeP (sheetC l).2.1 = p at HR HF
  generalize (sheetC l).1 = A at HR HF
  obtain ⟨L, D, R, ac, ar⟩ := p
  obtain ⟨s, c, r, bc, br⟩ := x
  unfold wrV at HR HF
  unfold Rf.zero Rf.v at *
  simp only at HR HF ⊢
  go_enter Tryz.func21, Tryz.ntmps21
  go_wp2_with fail
  refine Calls.mono (HR _).out ?_
  rintro _ w1 ⟨rfl, b1⟩
  obtain ⟨hZ0, hB0⟩ := one_row w w1 _ _ b1
  have hlt := hZ0.lt
  clear b1 HR
  go_wp2_with fail
  refine Calls.mono (HF _).out ?_
  rintro _ w2 ⟨rfl, b2⟩
  have hZ := (hZ0.alloc (.cells #[.string (bs A), .string (bs L), .string (bs D), .bool ac, .bool ar] 54)).below b2 (by simp; omega)
  have hB := (below_allocS hB0 (.cells #[.string (bs A), .string (bs L), .string (bs D), .bool ac, .bool ar] 54)).trans (b2.mono (below_allocS hB0 _).size)
  clear b2 HF hZ0 hB0
  have hlt := hZ.lt
  obtain ⟨e0, e1, e2, e3, e4⟩ := hZ.five
  have z2 := hZ.frozen
  cases f
  · go_wp2
    refine bodyPost_ret (ret_two rfl (g := w.heap.size) rfl rfl (load23 ((Row.set5 hZ _ _ _ _ _).alloc _) rfl)) rfl ⟨rfl, ?_⟩
    exact below_allocS (below_set5 hB (Nat.le_refl _) _ _ _ _ _) _
  · go_wp2
    refine bodyPost_ret (ret_two rfl (g := w.heap.size) rfl rfl (load23 ((Row.set5 hZ _ _ _ _ _).alloc _) rfl)) rfl ⟨rfl, ?_⟩
    exact below_allocS (below_set5 hB (Nat.le_refl _) _ _ _ _ _) _
theorem parse_any (l : List UInt8) (hl : l.length ≤ 140737488351232) (w : World) :
    Calls Tryz.prog 21 #[.string (bs l)] w fun e w' => e = .returned (.tuple #[(parseR l).1.v, .int .i64 (parseR l).2]) ∧ Below w.heap.size w w' := by
  cases h : readOk l
  · have e : parseR l = (Rf.zero, 40) := by unfold parseR; rw [h]; rfl
    rw [e]
    exact parse_syntax l hl h w
  · cases hf : foundR (bs (sheetC l).1) (placeP (sheetC l).2.1) with
    | none =>
      have e : parseR l = (Rf.zero, 41) := by unfold parseR; rw [h, hf]; rfl
      rw [e]
      exact parse_read l hl h Rf.zero false (by rw [hf]; rfl) (by rw [hf]; rfl) w
    | some r =>
      have e : parseR l = (r, 0) := by unfold parseR; rw [h, hf]; rfl
      rw [e]
      exact parse_read l hl h r true (by rw [hf]; rfl) (by rw [hf]; rfl) w
end Go.Proofs.YtnblbakjfpfipaaGreatDoor
