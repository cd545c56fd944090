/- How a slice of bytes that came in is read by the walks: its bytes, and that it is within the form's reach. -/
import Derived.Test.YtckopbcpjecjhaaMem
import Derived.ProofKit
import Derived.OpenShut
import Derived.SizedLaws
namespace Go.Proofs.Ytckopbcpjecjhaa
open Go.ChangeShapes Go.WideShapes Go.ChangeAt Go.RowKit

theorem own : ownKnob Try.prog.godebug = none := by kernel_rfl
theorem laidOut : laidOutB Try.prog = true := by kernel_rfl
theorem bytes5 : Try.prog.bytesOf 5 = 1 := by kernel_rfl

theorem u8_bd {n : Int} (h : (Lit.int .u8 n).wf = true) : 0 ≤ n ∧ n ≤ 255 := by
  have h1 : IntKind.u8.min = 0 := rfl
  have h2 : IntKind.u8.max = 255 := rfl
  simp only [Lit.wf, Bool.and_eq_true, decide_eq_true_eq] at h
  omega
theorem u32_bd {n : Int} (h : (Lit.int .u32 n).wf = true) : 0 ≤ n ∧ n < 4294967296 := by
  have h1 : IntKind.u32.min = 0 := rfl
  have h2 : IntKind.u32.max = 4294967295 := rfl
  simp only [Lit.wf, Bool.and_eq_true, decide_eq_true_eq] at h
  omega
theorem i64_bd {n : Int} (h : (Lit.int .i64 n).wf = true) : -9223372036854775808 ≤ n ∧ n ≤ 9223372036854775807 := by
  have h1 : IntKind.i64.min = -9223372036854775808 := rfl
  have h2 : IntKind.i64.max = 9223372036854775807 := rfl
  simp only [Lit.wf, Bool.and_eq_true, decide_eq_true_eq] at h
  omega

/-- A []byte that came in: nil, or elements and spare places; its bytes. -/
theorem open_bytes {H : Type} {enc : TypeId × Value → H} {W : World} {a : Option Addr} {len cap : Nat} {d : DataW H} {p : List MemPlace}
    (h : DataW.Trod enc Try.prog W 0 (fun _ => true) true 41 (.slice a len cap) d p) :
    ∃ ys : List Int, ys.length = len ∧ BytesIn (· < W.heap.size) W (.slice a len cap) ys ∧ AreBytes ys ∧ (d = .nil ∧ len = 0 ∨ ∃ e s, d = .slice e s ∧ e.length = len) := by
  obtain ⟨fuel, hf⟩ := h
  rcases open_ints Try.underlying41 Try.underlying5 (by kernel_rfl) hf with ⟨hcs, hx⟩ | ⟨x, l, c, zs, hcs, _, hl, hm, hz, hx, hcell, hwz⟩
  · simp [Value.cells] at hcs
    obtain ⟨rfl, rfl, rfl⟩ := hcs
    simp only [Prod.mk.injEq] at hx
    exact ⟨[], rfl, .inl ⟨rfl, _, _, rfl⟩, fun j => by simp, .inl ⟨hx.1, rfl⟩⟩
  · simp [Value.cells] at hcs
    obtain ⟨rfl, rfl, rfl⟩ := hcs
    simp only [Prod.mk.injEq] at hx
    have hlen : (zs.take len).length = len := by
      have : zs.length = cap := by simpa using hz
      simp [this, hl]
    refine ⟨zs.take len, hlen, ?_, ?_, .inr ⟨_, _, hx.1, ?_⟩⟩
    · by_cases h0 : len = 0
      · subst h0
        exact .inl ⟨by simp, _, _, rfl⟩
      · have hz' : zs.length = cap := by simpa using hz
        obtain ⟨b, off, rfl, hc⟩ := ints_at hcell (by omega)
        refine .inr ⟨b, off, cap, by rw [hlen], ?_, fun j hj => ?_⟩
        · have h1 := hc 0 (by omega)
          exact World.block_lt_of_cell? _ _ h1
        · have hj' : j < len := by rw [hlen] at hj; exact hj
          have h1 := hc j (by omega)
          rw [h1]
          simp [hj', show j < zs.length by omega]
    · intro j
      by_cases hj : j < (zs.take len).length
      · have := u8_bd (hwz (zs.take len)[j] (List.mem_of_mem_take (List.getElem_mem hj)))
        rw [List.getElem?_eq_getElem hj]
        exact this
      · simp [List.getElem?_eq_none (Nat.le_of_not_lt hj)]
    · rw [← hlen]; simp [lits]

end Go.Proofs.Ytckopbcpjecjhaa
