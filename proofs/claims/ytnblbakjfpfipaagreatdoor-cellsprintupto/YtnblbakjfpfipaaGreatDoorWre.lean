/- read: a reference's text, taken apart. -/
import Derived.Test.YtnblbakjfpfipaaGreatDoorWcs
import Derived.Test.YtnblbakjfpfipaaGreatDoorWrp
namespace Go.Proofs.YtnblbakjfpfipaaGreatDoor
open Go.RowKit

theorem below_allocS {a w : World} (h : Below a.heap.size a w) (o : Obj) : Below a.heap.size a (w.alloc o) := h.alloc h.size o
theorem sheetC_len (l : List UInt8) : (sheetC l).1.length ≤ l.length ∧ (sheetC l).2.1.length ≤ l.length := by
  unfold sheetC
  have h1 := cutQ_len _ (l.drop 1) (Nat.le_refl _)
  have h2 := trimPrefix_le (cutQ (l.drop 1)).2 [39, 33]
  have h3 := cutB_len l 33
  simp only [List.length_drop] at h1
  split
  · simp only; omega
  · split
    · exact h3
    · simp
/-- Is it written as a reference is? -/
def readOk (l : List UInt8) : Bool := (sheetC l).2.2 && (placeP (sheetC l).2.1).ok
set_option maxRecDepth 100000 in
set_option maxHeartbeats 2000000 in
theorem read_any (l : List UInt8) (hl : l.length ≤ 140737488351232) (w : World) :
    Calls Tryz.prog 41 #[.string (bs l)] w fun e w' => e = .returned (.tuple #[wrV (bs (sheetC l).1) (placeP (sheetC l).2.1), .bool (readOk l)]) ∧ Below w.heap.size w w' := by
  have HC : ∀ W, Hid _ := fun W => cutSheet_any l hl W
  have hlen := sheetC_len l
  unfold readOk
  generalize sheetC l = q at HC hlen ⊢
  obtain ⟨A, B, f⟩ := q
  simp only at HC hlen ⊢
  have HR : ∀ W, Hid _ := fun W => readPlace_any B (by omega) W
  generalize placeP B = p at HR ⊢
  generalize p.ok = k at HR ⊢
  obtain ⟨L, D, R, ac, ar⟩ := p
  unfold wrV at HR ⊢
  simp only at HR ⊢
  clear hlen hl
  go_enter Tryz.func41, Tryz.ntmps41
  go_wp2_with fail
  refine Calls.mono (HC _).out ?_
  rintro _ w1 ⟨rfl, b1⟩
  go_wp2_with fail
  refine Calls.mono (HR _).out ?_
  rintro _ w2 ⟨rfl, b2⟩
  obtain ⟨hZ, hB⟩ := one_row w w2 _ _ (b1.trans (b2.mono b1.size))
  clear b1 b2 HC HR
  have hlt := hZ.lt
  obtain ⟨d0, d1, d2, d3, d4⟩ := (hZ.alloc (.cells #[.string (bs A), .string (bs L), .string (bs D), .bool ac, .bool ar] 54)).five
  have z1 := (hZ.alloc (.cells #[.string (bs A), .string (bs L), .string (bs D), .bool ac, .bool ar] 54)).frozen
  obtain ⟨e0, e1, e2, e3, e4⟩ := hZ.five
  have z2 := hZ.frozen
  cases f
  all_goals
    go_wp2
    refine bodyPost_ret (ret_two rfl (g := w.heap.size) rfl rfl (load40 ((Row.set5 hZ _ _ _ _ _).alloc _) rfl)) rfl ⟨rfl, ?_⟩
    exact below_allocS (below_set5 hB (Nat.le_refl _) _ _ _ _ _) _
end Go.Proofs.YtnblbakjfpfipaaGreatDoor
