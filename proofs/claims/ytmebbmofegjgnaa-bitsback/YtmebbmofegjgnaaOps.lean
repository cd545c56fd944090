/- A script of steps that came in ([]Op), read step by step: its cells, its numbers, its bytes. -/
import Derived.Test.YtmebbmofegjgnaaRowk
import Derived.Deep.Slices
import Derived.Lib.SmallJoins
namespace Go.Proofs.Ytmebbmofegjgnaa
open Go.ChangeShapes Go.WideShapes Go.ChangeAt Go.RowKit Go.Deep

/-- One step as it was read. -/
structure OpR where
  kind : Int
  n : Int
  v : Int
  sv : Value
  bs : List Int

def OpR.none : OpR := ⟨0, 0, 0, .slice .none 0 0, []⟩

/-- The step r lies in four cells of block b, from o on. -/
structure OpAt (S : Nat → Prop) (W : World) (b o : Nat) (r : OpR) : Prop where
  kind : W.cell? ⟨b, o, .none⟩ = some (.int .i64 r.kind)
  n : W.cell? ⟨b, o + 1, .none⟩ = some (.int .i64 r.n)
  v : W.cell? ⟨b, o + 2, .none⟩ = some (.int .u32 r.v)
  sv : W.cell? ⟨b, o + 3, .none⟩ = some r.sv
  bytes : BytesIn S W r.sv r.bs
  are : AreBytes r.bs
  nlo : -9223372036854775808 ≤ r.n
  nhi : r.n ≤ 9223372036854775807
  klo : -9223372036854775808 ≤ r.kind
  khi : r.kind ≤ 9223372036854775807
  vlo : 0 ≤ r.v
  vhi : r.v < 4294967296
  cap : ∃ a c, r.sv = .slice a r.bs.length c ∧ (a = .none → c = 0)

theorem OpAt.kept {S : Nat → Prop} {A B : World} (h : Kept S A B) {b o : Nat} (hb : S b) {r : OpR} (x : OpAt S A b o r) : OpAt S B b o r :=
  ⟨(h.cell (p := ⟨b, o, .none⟩) hb).trans x.kind, (h.cell (p := ⟨b, o + 1, .none⟩) hb).trans x.n, (h.cell (p := ⟨b, o + 2, .none⟩) hb).trans x.v, (h.cell (p := ⟨b, o + 3, .none⟩) hb).trans x.sv,
   x.bytes.kept h, x.are, x.nlo, x.nhi, x.klo, x.khi, x.vlo, x.vhi, x.cap⟩

/-- The script: its steps, one behind the other, in a block of S. -/
def OpsIn (S : Nat → Prop) (W : World) (a : Option Addr) (ops : List OpR) : Prop :=
  ops = [] ∨ ∃ b off, a = some ⟨b, off, .none⟩ ∧ S b ∧ ∀ (j : Nat) (r : OpR), ops[j]? = some r → OpAt S W b (off + j * 4) r
theorem OpsIn.kept {S : Nat → Prop} {A B : World} (h : Kept S A B) {a : Option Addr} {ops : List OpR} : OpsIn S A a ops → OpsIn S B a ops
  | .inl e => .inl e
  | .inr ⟨b, off, e, hb, hc⟩ => .inr ⟨b, off, e, hb, fun j r hj => (hc j r hj).kept h hb⟩

theorem cells32 : Try.prog.cellsOf 32 = 4 := by kernel_rfl
theorem bytes32 : Try.prog.bytesOf 32 = 48 := by kernel_rfl

theorem cell_lt {W : World} {p : Addr} {v : Value} (h : W.cell? p = some v) : p.block < W.heap.size := World.block_lt_of_cell? _ _ h

theorem open_caps2 {H : Type} {enc : TypeId × Value → H} {W : World} {a : Option Addr} {len cap : Nat} {d : DataW H} {p : List MemPlace}
    (h : DataW.Trod enc Try.prog W 0 (fun _ => true) true 22 (.slice a len cap) d p) : a = .none → cap = 0 := by
  obtain ⟨fuel, hf⟩ := h
  rcases open_ints Try.underlying22 Try.underlying5 (by kernel_rfl) hf with ⟨hcs, hx⟩ | ⟨x, l, c, zs, hcs, _, hl, hm, hz, hx, hcell, hwz⟩
  · simp [Value.cells] at hcs
    obtain ⟨rfl, rfl, rfl⟩ := hcs
    exact fun _ => rfl
  · simp [Value.cells] at hcs
    obtain ⟨rfl, rfl, rfl⟩ := hcs
    exact fun h => by cases h

/-- One step out of its four cells' reading. -/
theorem open_op {H : Type} {enc : TypeId × Value → H} {W : World} {n : Nat} {a : Addr} {cs : List Value} {d : DataW H} {p : List MemPlace}
    (h1 : W.cells? 0 a 4 = some cs) (h2 : DataW.trod enc Try.prog W 0 (fun _ => true) true n 32 cs = some (d, p)) :
    ∃ b o r, a = ⟨b, o, .none⟩ ∧ OpAt (· < W.heap.size) W b o r ∧ ∃ d0 d1 d2 d3, d = .agg [d0, d1, d2, d3] ∧ (d3 = .nil ∧ r.bs = [] ∨ ∃ e s, d3 = .slice e s ∧ e.length = r.bs.length) := by
  obtain ⟨_, hlen, hcell⟩ := World.cells?_some h1
  obtain ⟨xs, k, hk, hxy, _, hxl, hf⟩ := DataW.trod_struct Try.underlying32 h2
  match xs, hxl, cs, hlen with
  | [y0, y1, y2, y3], _, [v0, v1, v2, v3], _ =>
    have g0 := hf 0 _ rfl
    have g1 := hf 1 _ rfl
    have g2 := hf 2 _ rfl
    have g3 := hf 3 _ rfl
    have c3 : Try.prog.cellsOf 3 = 1 := by kernel_rfl
    have c30 : Try.prog.cellsOf 30 = 1 := by kernel_rfl
    have c22 : Try.prog.cellsOf 22 = 1 := by kernel_rfl
    simp [c3, c30, c22] at g0 g1 g2 g3
    obtain ⟨k0, e0, _, w0⟩ := DataW.trod_int Try.underlying3 g0
    obtain ⟨k1, e1, _, w1⟩ := DataW.trod_int Try.underlying3 g1
    obtain ⟨k2, e2, _, w2⟩ := DataW.trod_int Try.underlying30 g2
    obtain ⟨a3, l3, c3', e3⟩ := Go.Joins.slice_form Try.underlying22 g3
    simp at e0 e1 e2 e3
    subst e0 e1 e2 e3
    have hb3 : DataW.Trod enc Try.prog W 0 (fun _ => true) true 22 (.slice a3 l3 c3') y3.1 y3.2 := ⟨k, by simpa [Value.cells] using g3⟩
    obtain ⟨ys, hyl, hyI, hya, hyd⟩ := open_bytes hb3
    have m0 := hcell 0 (by omega)
    have m1 := hcell 1 (by omega)
    have m2 := hcell 2 (by omega)
    have m3 := hcell 3 (by omega)
    obtain ⟨b, o, spot⟩ := a
    have hspot : spot = .none := by simpa [Addr.add] using World.cell?_spot m0
    subst hspot
    rw [Go.WideShapes.add_plain] at m0 m1 m2 m3
    have i0 := i64_bd w0
    have i1 := i64_bd w1
    have i2 := u32_bd w2
    refine ⟨b, o, ⟨k0, k1, k2, .slice a3 l3 c3', ys⟩, rfl, ⟨by simpa using m0, by simpa using m1, by simpa using m2, by simpa using m3, hyI, hya, i1.1, i1.2, i0.1, i0.2, i2.1, i2.2, ⟨a3, c3', by rw [hyl], open_caps2 hb3⟩⟩, y0.1, y1.1, y2.1, y3.1, ?_, ?_⟩
    · simp only [Prod.mk.injEq] at hxy
      simpa using hxy.1
    · rcases hyd with ⟨h, h0⟩ | ⟨e, s, h, h0⟩
      · exact .inl ⟨h, List.eq_nil_of_length_eq_zero (by show ys.length = 0; omega)⟩
      · exact .inr ⟨e, s, h, by show e.length = ys.length; omega⟩

/-- A script that came in: nil, or its steps. -/
theorem open_ops {H : Type} {enc : TypeId × Value → H} {W : World} {a : Option Addr} {len cap : Nat} {d : DataW H} {p : List MemPlace}
    (h : DataW.Trod enc Try.prog W 0 (fun _ => true) true 23 (.slice a len cap) d p) :
    ∃ ops : List OpR, ops.length = len ∧ OpsIn (· < W.heap.size) W a ops ∧ (d = .nil ∧ len = 0 ∨ ∃ D s, d = .slice ((List.range len).map D) s ∧
      ∀ (j : Nat) (r : OpR), ops[j]? = some r → ∃ d0 d1 d2 d3, D j = .agg [d0, d1, d2, d3] ∧ (d3 = .nil ∧ r.bs = [] ∨ ∃ e s, d3 = .slice e s ∧ e.length = r.bs.length)) := by
  obtain ⟨fuel, hf⟩ := h
  rcases open_slice Try.underlying23 hf with ⟨hcs, hx⟩ | ⟨x, l, c, m, n, D, Pl, hcs, hbx, hl, hm, hmm, hx, hel⟩
  · simp [Value.cells] at hcs
    obtain ⟨rfl, rfl, rfl⟩ := hcs
    simp only [Prod.mk.injEq] at hx
    exact ⟨[], rfl, .inl rfl, .inl ⟨hx.1, rfl⟩⟩
  · simp [Value.cells] at hcs
    obtain ⟨rfl, rfl, rfl⟩ := hcs
    simp only [Prod.mk.injEq] at hx
    simp only [if_true] at hmm
    have each : ∀ i, i < len → ∃ r : OpR, (∃ b o, x.add (i * 4) = ⟨b, o, .none⟩ ∧ OpAt (· < W.heap.size) W b o r) ∧ ∃ d0 d1 d2 d3, D i = .agg [d0, d1, d2, d3] ∧ (d3 = .nil ∧ r.bs = [] ∨ ∃ e s, d3 = .slice e s ∧ e.length = r.bs.length) := by
      intro i hi
      obtain ⟨cs', h1, h2⟩ := hel i (by omega)
      rw [cells32] at h1
      obtain ⟨b, o, r, e, hr, hd⟩ := open_op h1 h2
      exact ⟨r, ⟨b, o, e, hr⟩, hd⟩
    obtain ⟨q, hq⟩ := @choose_lt OpR ⟨OpR.none⟩ _ _ each
    refine ⟨(List.range len).map q, by simp, ?_, .inr ⟨D, _, hx.1, ?_⟩⟩
    · by_cases h0 : len = 0
      · subst h0; exact .inl rfl
      · obtain ⟨⟨b, o, e0, hr0⟩, _⟩ := hq 0 (by omega)
        have hx0 : x = ⟨b, o, .none⟩ := by simpa [Addr.add] using e0
        subst hx0
        refine .inr ⟨b, o, rfl, cell_lt hr0.kind, fun j r hj => ?_⟩
        have hj2 : j < len ∧ q j = r := by
          rw [List.getElem?_map] at hj
          by_cases hlt : j < len
          · simp [hlt] at hj
            exact ⟨hlt, hj⟩
          · simp [hlt] at hj
        obtain ⟨⟨b', o', e', hr'⟩, _⟩ := hq j hj2.1
        rw [Go.WideShapes.add_plain] at e'
        simp only [Addr.mk.injEq, and_true] at e'
        obtain ⟨rfl, rfl⟩ := e'
        rw [← hj2.2]
        exact hr'
    · intro j r hj
      rw [List.getElem?_map] at hj
      by_cases hlt : j < len
      · simp [hlt] at hj
        subst hj
        exact (hq j hlt).2
      · simp [hlt] at hj

end Go.Proofs.Ytmebbmofegjgnaa
