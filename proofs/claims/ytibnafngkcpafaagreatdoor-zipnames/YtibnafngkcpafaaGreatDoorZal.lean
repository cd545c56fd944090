/- alive: an archive of one file is written, read, turned, and refused. -/
import Derived.Test.YtibnafngkcpafaaGreatDoorZcf
import Derived.Lib.SmallJoins
namespace Go.Proofs.YtibnafngkcpafaaGreatDoor
open Go.RowKit Go.Shelf

attribute [local go_sem] Oper.semAt_some

theorem al_block {w : World} {b i : Nat} {cs : Array Value} {t : TypeId} {fr : Nat × Nat} (h : w.heap[b]? = some (.cells cs t fr)) : w.cell? ⟨b, i, none⟩ = cs[i]? := by simp [World.cell?, h]

theorem turned {w : World} {b c : Nat} {cur : Array Value} (hb : w.heap[b]? = some (.cells cur 5 (0, 0))) (hI : BytesIn (fun k => k = b) w (.slice (some ⟨b, 0, none⟩) alZ.length c) alZ) : BytesIn (fun k => k = b) (w.setCell ⟨b, 31, none⟩ (.int .u8 121)) (.slice (some ⟨b, 0, none⟩) alY.length c) alY := by
  refine .inr ⟨b, 0, c, rfl, rfl, fun j hj => ?_⟩
  have hj' : j < alZ.length := by rw [alY, List.length_set] at hj; exact hj
  obtain ⟨b', off', e, _, hc⟩ := hI.at j hj'
  simp at e
  obtain ⟨rfl, rfl⟩ := e
  have h1 : (w.setCell ⟨b, 31, none⟩ (.int .u8 121)).heap[b]? = some (.cells (cur.setIfInBounds 31 (.int .u8 121)) 5 (0, 0)) := Go.Joins.block_setCell hb _
  rw [al_block h1]
  rw [al_block hb] at hc
  by_cases h31 : j = 31
  · subst h31
    have h2 : 31 < cur.size := by
      rcases Nat.lt_or_ge 31 cur.size with h | h
      · exact h
      · simp [h] at hc
    rw [show alY[31]?.getD 0 = 121 from by kernel_rfl]
    simp [h2]
  · rw [Array.getElem?_setIfInBounds_ne (by omega), hc, alY, List.getElem?_set_ne (by omega)]

theorem al_own {w : World} {base : Nat} {g : Option Addr} {c : Nat} {zs : List Int} (h : w.ownsRow base 5 1 (.slice g zs.length c) zs.length (zs.map (Value.int .u8))) (hn : 0 < zs.length) : ∃ b cur, g = some ⟨b, 0, none⟩ ∧ base ≤ b ∧ b < w.heap.size ∧ zs.length ≤ c ∧ w.heap[b]? = some (.cells cur 5 (0, 0)) ∧ BytesIn (fun k => k = b) w (.slice (some ⟨b, 0, none⟩) zs.length c) zs := by
  have hI := bytesIn_of_owns (zs := zs) (fun k => g.map (·.block) = some k) h (by intro k hk; cases g with
    | none => simp [Value.ownBlock] at hk
    | some a => simpa [Value.ownBlock] using hk)
  rcases h.2 with ⟨_, h0⟩ | ⟨b, cap, cur, e, hb, hgb, h3, h4, h5, h6⟩
  · omega
  · simp at e
    obtain ⟨rfl, rfl⟩ := e
    exact ⟨b, cur, rfl, hb, (Array.getElem?_eq_some_iff.1 hgb).1, h3, hgb, hI.mono (by intro k hk; simpa using hk.symm)⟩

theorem al_conv {w : World} {g : Option Addr} {cg : Nat} (h : BytesIn (fun _ => True) w (.slice g 1 cg) [120]) : (convert 28 9 (.slice g 1 cg)).run Tryz.prog w = .ok (.string ⟨#[120]⟩) w := by
  have h2 := h
  rcases h2 with ⟨e, _⟩ | ⟨b, off, cap, e, _, hc⟩
  · cases e
  · simp at e
    obtain ⟨rfl, rfl⟩ := e
    have h3 := conv_at h 0 1 cg (by simp)
    rw [show strAt [120] 0 1 = ⟨#[120]⟩ from by kernel_rfl] at h3
    exact h3
theorem al_files (w : World) : FilesIn (fun k => k = w.heap.size ∨ k = w.heap.size + 1) ((w.alloc (.cells #[.int .u8 120] 5 (1, 2))).alloc (.cells #[.string ⟨#[97]⟩, .slice (some ⟨w.heap.size, 0, none⟩) 1 1] 33)) (.slice (some ⟨w.heap.size + 1, 0, none⟩) 1 1) [⟨alN, some ⟨w.heap.size, 0, none⟩, 1, [120]⟩] := by
  have hA : (w.alloc (.cells #[.int .u8 120] 5 (1, 2))).cell? ⟨w.heap.size, 0, none⟩ = some (.int .u8 120) := by rw [World.cell?_alloc_mark]; rfl
  have hX := Row.new (w.alloc (.cells #[.int .u8 120] 5 (1, 2))) 33 #[.string ⟨#[97]⟩, .slice (some ⟨w.heap.size, 0, none⟩) 1 1]
  have hb := (Below.refl (w.heap.size + 1) (w.alloc (.cells #[.int .u8 120] 5 (1, 2)))).alloc (by simp) (.cells #[.string ⟨#[97]⟩, .slice (some ⟨w.heap.size, 0, none⟩) 1 1] 33)
  have hA2 := (hb.cell (p := ⟨w.heap.size, 0, none⟩) (by show w.heap.size < w.heap.size + 1; omega)).trans hA
  rw [World.size_alloc] at hX
  generalize ((w.alloc (.cells #[.int .u8 120] 5 (1, 2))).alloc (.cells #[.string ⟨#[97]⟩, .slice (some ⟨w.heap.size, 0, none⟩) 1 1] 33)) = W at *
  refine ⟨?_, .inr ⟨w.heap.size + 1, 0, 1, rfl, .inr rfl, ?_⟩⟩
  · intro f hf
    have hf' : f = ⟨alN, some ⟨w.heap.size, 0, none⟩, 1, [120]⟩ := by simpa using hf
    subst hf'
    refine ⟨.inr ⟨w.heap.size, 0, 1, rfl, .inl rfl, ?_⟩, (by intro h; cases h), areBytes_all _ (by kernel_rfl), ?_, ?_⟩
    · intro j hj
      have hj0 : j = 0 := by simpa using hj
      subst hj0
      exact hA2
    · show (1 : Nat) ≤ 1048576
      omega
    · show (1 : Nat) ≤ 65535
      omega
  · intro j f hj
    cases j with
    | zero =>
      have hf' : ⟨alN, some ⟨w.heap.size, 0, none⟩, 1, [120]⟩ = f := by simpa using hj
      subst hf'
      exact ⟨hX.cell (i := 0) rfl, hX.cell (i := 1) rfl⟩
    | succ j => simp at hj
end Go.Proofs.YtibnafngkcpafaaGreatDoor
