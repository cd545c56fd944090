import Derived.Test.YtinbilbgipfemaaDoorMemM
import Derived.ProofKit
import Derived.OpenShut
import Derived.SizedLaws
import Derived.Laws.BytesArg
/- How a slice of bytes that came in is read by the walks: its bytes, and that it is within the form's reach. -/
namespace Go.Proofs.YtinbilbgipfemaaDoor
open Go.ChangeShapes Go.WideShapes Go.ChangeAt Go.RowKit

theorem own : ownKnob Tryd.prog.godebug = none := by kernel_rfl
theorem laidOut : laidOutB Tryd.prog = true := by kernel_rfl
theorem u8_bd {n : Int} (h : (Lit.int .u8 n).wf = true) : 0 ≤ n ∧ n ≤ 255 := by
  have h1 : IntKind.u8.min = 0 := rfl
  have h2 : IntKind.u8.max = 255 := rfl
  simp only [Lit.wf, Bool.and_eq_true, decide_eq_true_eq] at h
  omega
/-- A []byte that came in: nil, or elements and spare places; its bytes. -/
theorem open_bytes {H : Type} {enc : TypeId × Value → H} {W : World} {a : Option Addr} {len cap : Nat} {d : DataW H} {p : List MemPlace}
    (h : DataW.Trod enc Tryd.prog W 0 (fun _ => true) true 22 (.slice a len cap) d p) :
    ∃ ys : List Int, ys.length = len ∧ BytesIn (· < W.heap.size) W (.slice a len cap) ys ∧ AreBytes ys ∧ (d = .nil ∧ len = 0 ∨ ∃ e s, d = .slice e s ∧ e.length = len) := by
  obtain ⟨fuel, hf⟩ := h
  rcases open_ints Tryd.underlying22 Tryd.underlying5 (by kernel_rfl) hf with ⟨hcs, hx⟩ | ⟨x, l, c, zs, hcs, _, hl, hm, hz, hx, hcell, hwz⟩
  · simp [Value.cells] at hcs
    obtain ⟨rfl, rfl, rfl⟩ := hcs
    simp only [Prod.mk.injEq] at hx
    exact ⟨[], rfl, .inl ⟨rfl, _, _, rfl⟩, fun j => by simp, .inl ⟨hx.1, rfl⟩⟩
  · simp [Value.cells] at hcs
    obtain ⟨rfl, rfl, rfl⟩ := hcs
    simp only [Prod.mk.injEq] at hx
    have hlen : (zs.take len).length = len := by
      have : zs.length = cap := by simpa using hz
      simp [this, hl]
    refine ⟨zs.take len, hlen, ?_, ?_, .inr ⟨_, _, hx.1, ?_⟩⟩
    · by_cases h0 : len = 0
      · subst h0
        exact .inl ⟨by simp, _, _, rfl⟩
      · have hz' : zs.length = cap := by simpa using hz
        obtain ⟨b, off, rfl, hc⟩ := ints_at hcell (by omega)
        refine .inr ⟨b, off, cap, by rw [hlen], ?_, fun j hj => ?_⟩
        · have h1 := hc 0 (by omega)
          exact World.block_lt_of_cell? _ _ h1
        · have hj' : j < len := by rw [hlen] at hj; exact hj
          have h1 := hc j (by omega)
          rw [h1]
          simp [hj', show j < zs.length by omega]
    · intro j
      by_cases hj : j < (zs.take len).length
      · have := u8_bd (hwz (zs.take len)[j] (List.mem_of_mem_take (List.getElem_mem hj)))
        rw [List.getElem?_eq_getElem hj]
        exact this
      · simp [List.getElem?_eq_none (Nat.le_of_not_lt hj)]
    · rw [← hlen]; simp [lits]

end Go.Proofs.YtinbilbgipfemaaDoor
/- Two rows of the same bytes are the same. -/
namespace Go.Proofs.YtinbilbgipfemaaDoor
open Go.RowKit

theorem conv_bytes (S : Nat → Prop) (w : World) (sv : Value) (zs : List Int) (h : BytesIn S w sv zs) : (convert 22 9 sv).run Tryd.prog w = .ok (.string (strOfNums zs)) w := by
  rcases h with ⟨rfl, a, cap, rfl⟩ | ⟨b, off, cap, rfl, _, hc⟩
  · cases a with
    | none =>
      rw [run_convert_bytes_nil w 22 5 Tryd.underlying22 Tryd.underlying5 _ _ 9 Tryd.underlying9]
      rfl
    | some A =>
      rw [run_convert_bytes_string w 22 9 5 _ _ _ Tryd.underlying22 Tryd.underlying5 Tryd.underlying9, run_bytesToString w A 0 cap [] (by simpa using run_loadCells_list (P := Tryd.prog) w A [] (fun j v hj => by simp at hj))]
      rfl
  · exact run_convert_bytes_arg w 22 5 Tryd.underlying22 Tryd.underlying5 b off zs.length cap zs rfl (fun i hi => by rw [hc i hi]; simp [List.getD]) 9 Tryd.underlying9

set_option maxRecDepth 100000 in
set_option maxHeartbeats 400000 in
theorem same_any (S : Nat → Prop) (a1 a2 : Option Addr) (n1 n2 c1 c2 : Nat) (zs : List Int) (w : World) (h1 : BytesIn S w (.slice a1 n1 c1) zs) (h2 : BytesIn S w (.slice a2 n2 c2) zs) :
    Calls Tryd.prog 13 #[.slice a1 n1 c1, .slice a2 n2 c2] w fun e w' => e = .returned (.bool true) ∧ w' = w := by
  have k1 := conv_bytes S w _ zs h1
  have k2 := conv_bytes S w _ zs h2
  clear h1 h2
  go_enter Tryd.func13, Tryd.ntmps13
  go_wp2
  go_ret
  exact ⟨rfl, rfl⟩
end Go.Proofs.YtinbilbgipfemaaDoor
