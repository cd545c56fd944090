/- Items that came in ([]Item), read item by item: three numbers each. -/
import Derived.Test.YtijfjbpmlcmnmaaDoorRowk
import Derived.Deep.Slices
import Derived.Lib.SmallJoins
namespace Go.Proofs.YtijfjbpmlcmnmaaDoor
open Go.ChangeShapes Go.WideShapes Go.ChangeAt Go.RowKit Go.Deep

/-- An item: a byte, or a copy. -/
structure It where
  b : Int
  l : Int
  d : Int

/-- The item r lies in three cells of block b, from o on. -/
structure ItAt (W : World) (b o : Nat) (r : It) : Prop where
  cb : W.cell? ⟨b, o, .none⟩ = some (.int .i64 r.b)
  cl : W.cell? ⟨b, o + 1, .none⟩ = some (.int .i64 r.l)
  cd : W.cell? ⟨b, o + 2, .none⟩ = some (.int .i64 r.d)

def It.wf (r : It) : Prop := (-9223372036854775808 ≤ r.b ∧ r.b ≤ 9223372036854775807) ∧ (-9223372036854775808 ≤ r.l ∧ r.l ≤ 9223372036854775807) ∧ (-9223372036854775808 ≤ r.d ∧ r.d ≤ 9223372036854775807)

theorem ItAt.kept {S : Nat → Prop} {A B : World} (h : Kept S A B) {b o : Nat} (hb : S b) {r : It} (x : ItAt A b o r) : ItAt B b o r :=
  ⟨(h.cell (p := ⟨b, o, .none⟩) hb).trans x.cb, (h.cell (p := ⟨b, o + 1, .none⟩) hb).trans x.cl, (h.cell (p := ⟨b, o + 2, .none⟩) hb).trans x.cd⟩

/-- Items, one behind the other, in a block of S. -/
def ItsIn (S : Nat → Prop) (W : World) (a : Option Addr) (its : List It) : Prop :=
  its = [] ∨ ∃ b off, a = some ⟨b, off, .none⟩ ∧ S b ∧ ∀ (j : Nat) (r : It), its[j]? = some r → ItAt W b (off + j * 3) r
theorem ItsIn.kept {S : Nat → Prop} {A B : World} (h : Kept S A B) {a : Option Addr} {its : List It} : ItsIn S A a its → ItsIn S B a its
  | .inl e => .inl e
  | .inr ⟨b, off, e, hb, hc⟩ => .inr ⟨b, off, e, hb, fun j r hj => (hc j r hj).kept h hb⟩

theorem cells33 : Tryd.prog.cellsOf 33 = 3 := by kernel_rfl
theorem bytes33 : Tryd.prog.bytesOf 33 = 24 := by kernel_rfl

theorem cell_lt {W : World} {p : Addr} {v : Value} (h : W.cell? p = some v) : p.block < W.heap.size := World.block_lt_of_cell? _ _ h

set_option maxRecDepth 100000 in
/-- One item out of its three cells' reading. -/
theorem open_it {H : Type} {enc : TypeId × Value → H} {W : World} {n : Nat} {a : Addr} {cs : List Value} {d : DataW H} {p : List MemPlace}
    (h1 : W.cells? 0 a 3 = some cs) (h2 : DataW.trod enc Tryd.prog W 0 (fun _ => true) true n 33 cs = some (d, p)) :
    ∃ b o r, a = ⟨b, o, .none⟩ ∧ ItAt W b o r ∧ r.wf := by
  obtain ⟨_, hlen, hcell⟩ := World.cells?_some h1
  obtain ⟨xs, k, hk, hxy, _, hxl, hf⟩ := DataW.trod_struct Tryd.underlying33 h2
  match xs, hxl, cs, hlen with
  | [y0, y1, y2], _, [v0, v1, v2], _ =>
    have g0 := hf 0 _ rfl
    have g1 := hf 1 _ rfl
    have g2 := hf 2 _ rfl
    have c3 : Tryd.prog.cellsOf 3 = 1 := by kernel_rfl
    simp [c3] at g0 g1 g2
    obtain ⟨k0, e0, _, w0⟩ := DataW.trod_int Tryd.underlying3 g0
    obtain ⟨k1, e1, _, w1⟩ := DataW.trod_int Tryd.underlying3 g1
    obtain ⟨k2, e2, _, w2⟩ := DataW.trod_int Tryd.underlying3 g2
    simp at e0 e1 e2
    subst e0 e1 e2
    have m0 := hcell 0 (by omega)
    have m1 := hcell 1 (by omega)
    have m2 := hcell 2 (by omega)
    obtain ⟨b, o, spot⟩ := a
    have hspot : spot = .none := by simpa [Addr.add] using World.cell?_spot m0
    subst hspot
    rw [Go.WideShapes.add_plain] at m0 m1 m2
    exact ⟨b, o, ⟨k0, k1, k2⟩, rfl, ⟨by simpa using m0, by simpa using m1, by simpa using m2⟩, i64_bd w0, i64_bd w1, i64_bd w2⟩

/-- Items that came in: nil, or the items. -/
theorem open_its {H : Type} {enc : TypeId × Value → H} {W : World} {a : Option Addr} {len cap : Nat} {d : DataW H} {p : List MemPlace}
    (h : DataW.Trod enc Tryd.prog W 0 (fun _ => true) true 30 (.slice a len cap) d p) :
    ∃ its : List It, its.length = len ∧ ItsIn (· < W.heap.size) W a its ∧ (∀ r ∈ its, r.wf) ∧ (d = .nil ∧ len = 0 ∨ ∃ e s, d = .slice e s ∧ e.length = len) := by
  obtain ⟨fuel, hf⟩ := h
  rcases open_slice Tryd.underlying30 hf with ⟨hcs, hx⟩ | ⟨x, l, c, m, n, D, Pl, hcs, hbx, hl, hm, hmm, hx, hel⟩
  · simp [Value.cells] at hcs
    obtain ⟨rfl, rfl, rfl⟩ := hcs
    simp only [Prod.mk.injEq] at hx
    exact ⟨[], rfl, .inl rfl, (fun r hr => by cases hr), .inl ⟨hx.1, rfl⟩⟩
  · simp [Value.cells] at hcs
    obtain ⟨rfl, rfl, rfl⟩ := hcs
    simp only [Prod.mk.injEq] at hx
    simp only [if_true] at hmm
    have each : ∀ i, i < len → ∃ r : It, (∃ b o, x.add (i * 3) = ⟨b, o, .none⟩ ∧ ItAt W b o r) ∧ r.wf := by
      intro i hi
      obtain ⟨cs', h1, h2⟩ := hel i (by omega)
      rw [cells33] at h1
      obtain ⟨b, o, r, e, hr, hd⟩ := open_it h1 h2
      exact ⟨r, ⟨b, o, e, hr⟩, hd⟩
    obtain ⟨q, hq⟩ := @choose_lt It ⟨⟨0, 0, 0⟩⟩ _ _ each
    refine ⟨(List.range len).map q, by simp, ?_, ?_, .inr ⟨_, _, hx.1, by simp⟩⟩
    · by_cases h0 : len = 0
      · subst h0; exact .inl rfl
      · obtain ⟨⟨b, o, e0, hr0⟩, _⟩ := hq 0 (by omega)
        have hx0 : x = ⟨b, o, .none⟩ := by simpa [Addr.add] using e0
        subst hx0
        refine .inr ⟨b, o, rfl, cell_lt hr0.cb, fun j r hj => ?_⟩
        have hj2 : j < len ∧ q j = r := by
          rw [List.getElem?_map] at hj
          by_cases hlt : j < len
          · simp [hlt] at hj
            exact ⟨hlt, hj⟩
          · simp [hlt] at hj
        obtain ⟨⟨b', o', e', hr'⟩, _⟩ := hq j hj2.1
        rw [Go.WideShapes.add_plain] at e'
        simp only [Addr.mk.injEq, and_true] at e'
        obtain ⟨rfl, rfl⟩ := e'
        rw [← hj2.2]
        exact hr'
    · intro r hr
      simp only [List.mem_map, List.mem_range] at hr
      obtain ⟨j, hj, rfl⟩ := hr
      exact (hq j hj).2
end Go.Proofs.YtijfjbpmlcmnmaaDoor
