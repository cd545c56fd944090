/- How a slice of ints that came in is read by the walks. -/
import Derived.Test.YtiakploggmmklaaRowk
import Derived.Test.YtiakploggmmklaaTab
namespace Go.Proofs.Ytiakploggmmklaa
open Go.ChangeShapes Go.WideShapes Go.ChangeAt Go.RowKit

theorem bytes3 : Try.prog.bytesOf 3 = 8 := by kernel_rfl

/-- A []int that came in: nil, or elements and spare places; its ints. -/
theorem open_i64s {H : Type} {enc : TypeId × Value → H} {W : World} {a : Option Addr} {len cap : Nat} {d : DataW H} {p : List MemPlace}
    (h : DataW.Trod enc Try.prog W 0 (fun _ => true) true 22 (.slice a len cap) d p) :
    ∃ ys : List Int, ys.length = len ∧ IntsIn (· < W.heap.size) W (.slice a len cap) ys ∧ AreInts ys ∧ (d = .nil ∧ len = 0 ∨ ∃ e s, d = .slice e s ∧ e.length = len) := by
  obtain ⟨fuel, hf⟩ := h
  rcases open_ints Try.underlying22 Try.underlying3 (by kernel_rfl) hf with ⟨hcs, hx⟩ | ⟨x, l, c, zs, hcs, _, hl, hm, hz, hx, hcell, hwz⟩
  · simp [Value.cells] at hcs
    obtain ⟨rfl, rfl, rfl⟩ := hcs
    simp only [Prod.mk.injEq] at hx
    exact ⟨[], rfl, .inl ⟨rfl, _, _, rfl⟩, fun j => by simp, .inl ⟨hx.1, rfl⟩⟩
  · simp [Value.cells] at hcs
    obtain ⟨rfl, rfl, rfl⟩ := hcs
    simp only [Prod.mk.injEq] at hx
    have hlen : (zs.take len).length = len := by
      have : zs.length = cap := by simpa using hz
      simp [this, hl]
    refine ⟨zs.take len, hlen, ?_, ?_, .inr ⟨_, _, hx.1, ?_⟩⟩
    · by_cases h0 : len = 0
      · subst h0
        exact .inl ⟨by simp, _, _, rfl⟩
      · have hz' : zs.length = cap := by simpa using hz
        obtain ⟨b, off, rfl, hc⟩ := ints_at hcell (by omega)
        refine .inr ⟨b, off, cap, by rw [hlen], ?_, fun j hj => ?_⟩
        · have h1 := hc 0 (by omega)
          exact World.block_lt_of_cell? _ _ h1
        · have hj' : j < len := by rw [hlen] at hj; exact hj
          have h1 := hc j (by omega)
          rw [h1]
          simp [hj', show j < zs.length by omega]
    · intro j
      by_cases hj : j < (zs.take len).length
      · have := i64_bd (hwz (zs.take len)[j] (List.mem_of_mem_take (List.getElem_mem hj)))
        rw [List.getElem?_eq_getElem hj]
        exact this
      · simp [List.getElem?_eq_none (Nat.le_of_not_lt hj)]
    · rw [← hlen]; simp [lits]
end Go.Proofs.Ytiakploggmmklaa
