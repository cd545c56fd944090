/- An archive of stored files is written. -/
import Derived.Test.YtibnafngkcpafaaGreatDoorZps
namespace Go.Proofs.YtibnafngkcpafaaGreatDoor
open Go.RowKit Go.Shelf

attribute [local go_sem] Oper.semAt_some

/-- The bytes of the first k files with their headers. -/
def outB (fs : List Fil) : Nat → List Int
  | 0 => []
  | k + 1 => (outB fs k ++ localB (fs[k]?.getD default).nm 0 (crcN (fs[k]?.getD default).zs) (fs[k]?.getD default).zs.length (fs[k]?.getD default).zs.length) ++ (fs[k]?.getD default).zs
/-- The directory's first k entries. -/
def dirB (fs : List Fil) : Nat → List Int
  | 0 => []
  | k + 1 => dirB fs k ++ listedB (fs[k]?.getD default).nm 0 (crcN (fs[k]?.getD default).zs) (fs[k]?.getD default).zs.length (fs[k]?.getD default).zs.length (offN fs k)
theorem outB_length (fs : List Fil) (k : Nat) : (outB fs k).length = offN fs k := by
  induction k with
  | zero => rfl
  | succ k ih => simp only [outB, offN, List.length_append, localB_length, ih]; omega
theorem dirB_le {S : Nat → Prop} {W : World} {fs : List Fil} (h : ∀ f ∈ fs, f.Ok S W) : ∀ k, k ≤ fs.length → (dirB fs k).length ≤ k * 1200000
  | 0, _ => by simp [dirB]
  | k + 1, hk => by
    have ih := dirB_le h k (by omega)
    have hf := h fs[k] (List.getElem_mem (by omega))
    have h2 := hf.name
    rw [dirB, List.getElem?_eq_getElem (by omega), List.length_append, listedB_length]
    simp only [Option.getD_some]
    omega
/-- The archive. -/
def archB (fs : List Fil) : List Int := (outB fs fs.length ++ dirB fs fs.length) ++ endB fs.length (dirB fs fs.length).length (outB fs fs.length).length

theorem WrO.mild {B : Nat} {Z : Nat → Prop} {V V' : World} {R : Nat} {ys : List Int} {g : Option Addr} {c : Nat} (h : WrO V R ys g c) (hm : Mild B Z V V') (hZ : ∀ k, WrB R g k → ¬ Z k) : WrO V' R ys g c := by
  refine ⟨hm.block R _ h.1 (hZ R (.inl rfl)) (.inl rfl), h.2.1, ?_⟩
  rcases h.2.2 with h0 | ⟨g', cap, cur, e, hb, hgg, rest⟩
  · exact .inl h0
  · refine .inr ⟨g', cap, cur, e, hb, hm.block g' _ hgg (hZ g' (.inr ?_)) (.inl rfl), rest⟩
    rw [ownBlock_any g 0 0 ys.length c, e]
    rfl
theorem WrO.cells {V : World} {R : Nat} {ys : List Int} {g : Option Addr} {c : Nat} (h : WrO V R ys g c) (k : Nat) (hk : WrB R g k) (o : Obj) (ho : V.heap[k]? = some o) : o.isCells = true := by
  rcases hk with rfl | hk
  · rw [show V.heap[k]? = _ from h.1] at ho
    cases ho
    rfl
  · rw [ownBlock_any g 0 0 ys.length c] at hk
    rcases h.2.2 with ⟨e, _⟩ | ⟨g', cap, cur, e, hb, hgg, rest⟩
    · rw [e] at hk
      simp [Value.ownBlock] at hk
    · rw [e] at hk
      simp only [Value.ownBlock, Option.some.injEq] at hk
      subst hk
      rw [hgg] at ho
      cases ho
      rfl
theorem keepsFrom_of {B : Nat} {V V' : World} {own : Nat → Prop} (h : Kept (fun k => k < V.heap.size ∧ ¬ own k) V V') (hc : ∀ k o, own k → V.heap[k]? = some o → o.isCells = true) : KeepsFrom B V V' :=
  ⟨h.size, fun k o _ hk ho => (h.block k ⟨(Array.getElem?_eq_some_iff.1 hk).1, fun hw => by rw [hc k o hw hk] at ho; cases ho⟩).trans hk⟩

theorem WrO.ne {V : World} {R : Nat} {ys : List Int} {g : Option Addr} {c : Nat} (h : WrO V R ys g c) {X : Nat} {t : TypeId} {cs : Array Value} (hR : Row V X t cs) (h1 : t ≠ 71) (h2 : t ≠ 5) : ¬ WrB R g X := by
  rintro (rfl | hk)
  · have := (show V.heap[X]? = _ from hR).symm.trans h.1
    simp at this
    exact h1 this.2
  · rw [ownBlock_any g 0 0 ys.length c] at hk
    rcases h.2.2 with ⟨e, _⟩ | ⟨g', cap, cur, e, hb, hgg, rest⟩
    · rw [e] at hk
      simp [Value.ownBlock] at hk
    · rw [e] at hk
      simp only [Value.ownBlock, Option.some.injEq] at hk
      subst hk
      have := (show V.heap[g']? = _ from hR).symm.trans hgg
      simp at this
      exact h2 this.2

/-- Within a round of Write: both writers, their structs, the entry; what the round keeps. -/
structure WS (w : World) (N R1 R2 K1 K2 X : Nat) (ent : Array Value) (V0 : World) (own0 : Nat → Prop) (V : World) (ys1 ys2 : List Int) (g1 g2 : Option Addr) (c1 c2 : Nat) : Prop where
  a : WrO V R1 ys1 g1 c1
  b : WrO V R2 ys2 g2 c2
  ap : ∀ k, WrB R1 g1 k → ¬ WrB R2 g2 k
  n1 : ∀ k, WrB R1 g1 k → k = R1 ∨ N ≤ k
  n2 : ∀ k, WrB R2 g2 k → k = R2 ∨ N ≤ k
  k1 : Row V K1 42 #[.pointer (some ⟨R1, 0, none⟩)]
  k2 : Row V K2 42 #[.pointer (some ⟨R2, 0, none⟩)]
  x : Row V X 48 ent
  nw : N ≤ V.heap.size
  kw : Kept (fun k => k < w.heap.size) w V
  kv : Kept (fun k => k < V0.heap.size ∧ ¬ own0 k) V0 V
  on : ∀ k, WrB R1 g1 k ∨ WrB R2 g2 k → own0 k ∨ V0.heap.size ≤ k
theorem WS.below {w : World} {N R1 R2 K1 K2 X : Nat} {ent : Array Value} {V0 : World} {own0 : Nat → Prop} {V V' : World} {ys1 ys2 : List Int} {g1 g2 : Option Addr} {c1 c2 : Nat} (h : WS w N R1 R2 K1 K2 X ent V0 own0 V ys1 ys2 g1 g2 c1 c2) (hb : Below V.heap.size V V') : WS w N R1 R2 K1 K2 X ent V0 own0 V' ys1 ys2 g1 g2 c1 c2 :=
  have hk : Kept (fun k => k < V.heap.size) V V' := Kept.of_below hb (fun _ h => h)
  ⟨h.a.kept hk h.a.lt, h.b.kept hk h.b.lt, h.ap, h.n1, h.n2, h.k1.kept hk h.k1.lt, h.k2.kept hk h.k2.lt, h.x.kept hk h.x.lt, Nat.le_trans h.nw hb.size, h.kw.trans (hk.mono (fun k (hk : k < w.heap.size) => Nat.lt_of_lt_of_le hk h.kw.size)), h.kv.trans (hk.mono (fun _ hk => Nat.lt_of_lt_of_le hk.1 h.kv.size)), h.on⟩
theorem WS.put1 {w : World} {N R1 R2 K1 K2 X : Nat} {ent : Array Value} {V0 : World} {own0 : Nat → Prop} {V V' : World} {ys1 ys2 ys1' : List Int} {g1 g2 g1' : Option Addr} {c1 c2 c1' : Nat} (h : WS w N R1 R2 K1 K2 X ent V0 own0 V ys1 ys2 g1 g2 c1 c2) (hR : w.heap.size < R1) (hN : w.heap.size ≤ N)
    (ha : WrO V' R1 ys1' g1' c1') (hk : Kept (fun k => k < V.heap.size ∧ ¬ WrB R1 g1 k) V V') (hg : ∀ k, WrB R1 g1' k → WrB R1 g1 k ∨ V.heap.size ≤ k) : WS w N R1 R2 K1 K2 X ent V0 own0 V' ys1' ys2 g1' g2 c1' c2 := by
  refine ⟨ha, h.b.kept hk (fun k hb => ⟨h.b.lt k hb, fun hc => h.ap k hc hb⟩), ?_, ?_, h.n2, h.k1.kept hk ⟨h.k1.lt, h.a.ne h.k1 (by decide) (by decide)⟩, h.k2.kept hk ⟨h.k2.lt, h.a.ne h.k2 (by decide) (by decide)⟩, h.x.kept hk ⟨h.x.lt, h.a.ne h.x (by decide) (by decide)⟩, Nat.le_trans h.nw hk.size, h.kw.trans (hk.mono ?_), h.kv.trans (hk.mono ?_), ?_⟩
  · intro k h1 h2
    rcases hg k h1 with h3 | h3
    · exact h.ap k h3 h2
    · have := h.b.lt k h2; omega
  · intro k h1
    rcases hg k h1 with h3 | h3
    · exact h.n1 k h3
    · exact .inr (Nat.le_trans h.nw h3)
  · intro k (hlt : k < w.heap.size)
    refine ⟨Nat.lt_of_lt_of_le hlt h.kw.size, fun hc => ?_⟩
    rcases h.n1 k hc with h3 | h3 <;> omega
  · rintro k ⟨h1, h2⟩
    refine ⟨Nat.lt_of_lt_of_le h1 h.kv.size, fun hc => ?_⟩
    rcases h.on k (.inl hc) with h3 | h3
    · exact h2 h3
    · omega
  · rintro k (h1 | h1)
    · rcases hg k h1 with h3 | h3
      · exact h.on k (.inl h3)
      · exact .inr (Nat.le_trans h.kv.size h3)
    · exact h.on k (.inr h1)
theorem WS.put2 {w : World} {N R1 R2 K1 K2 X : Nat} {ent : Array Value} {V0 : World} {own0 : Nat → Prop} {V V' : World} {ys1 ys2 ys2' : List Int} {g1 g2 g2' : Option Addr} {c1 c2 c2' : Nat} (h : WS w N R1 R2 K1 K2 X ent V0 own0 V ys1 ys2 g1 g2 c1 c2) (hR : w.heap.size < R2) (hN : w.heap.size ≤ N)
    (ha : WrO V' R2 ys2' g2' c2') (hk : Kept (fun k => k < V.heap.size ∧ ¬ WrB R2 g2 k) V V') (hg : ∀ k, WrB R2 g2' k → WrB R2 g2 k ∨ V.heap.size ≤ k) : WS w N R1 R2 K1 K2 X ent V0 own0 V' ys1 ys2' g1 g2' c1 c2' := by
  refine ⟨h.a.kept hk (fun k hb => ⟨h.a.lt k hb, fun hc => h.ap k hb hc⟩), ha, ?_, h.n1, ?_, h.k1.kept hk ⟨h.k1.lt, h.b.ne h.k1 (by decide) (by decide)⟩, h.k2.kept hk ⟨h.k2.lt, h.b.ne h.k2 (by decide) (by decide)⟩, h.x.kept hk ⟨h.x.lt, h.b.ne h.x (by decide) (by decide)⟩, Nat.le_trans h.nw hk.size, h.kw.trans (hk.mono ?_), h.kv.trans (hk.mono ?_), ?_⟩
  · intro k h1 h2
    rcases hg k h2 with h3 | h3
    · exact h.ap k h1 h3
    · have := h.a.lt k h1; omega
  · intro k h1
    rcases hg k h1 with h3 | h3
    · exact h.n2 k h3
    · exact .inr (Nat.le_trans h.nw h3)
  · intro k (hlt : k < w.heap.size)
    refine ⟨Nat.lt_of_lt_of_le hlt h.kw.size, fun hc => ?_⟩
    rcases h.n2 k hc with h3 | h3 <;> omega
  · rintro k ⟨h1, h2⟩
    refine ⟨Nat.lt_of_lt_of_le h1 h.kv.size, fun hc => ?_⟩
    rcases h.on k (.inr hc) with h3 | h3
    · exact h2 h3
    · omega
  · rintro k (h1 | h1)
    · exact h.on k (.inl h1)
    · rcases hg k h1 with h3 | h3
      · exact h.on k (.inr h3)
      · exact .inr (Nat.le_trans h.kv.size h3)

theorem wpIn_normal {F : Fence} {n : Nat} {P : Program} {c : Code} {Q : Exit → Act → World → Prop} {a : Act} {w : World} (h : c.wpIn F n P (fun e a w => e = .normal ∧ Q e a w) a w) : c.wpIn F n P Q a w := wpIn_mono h (fun _ _ _ h => h.2)

/-- Behind the rounds of Write. -/
structure WT (w : World) (R1 R2 K1 K2 D : Nat) (V : World) (ys1 ys2 : List Int) (g1 g2 : Option Addr) (c1 c2 : Nat) : Prop where
  a : WrO V R1 ys1 g1 c1
  b : WrO V R2 ys2 g2 c2
  ap : ∀ k, WrB R1 g1 k → ¬ WrB R2 g2 k
  n1 : ∀ k, WrB R1 g1 k → w.heap.size ≤ k
  k1 : Row V K1 42 #[.pointer (some ⟨R1, 0, none⟩)]
  k2 : Row V K2 42 #[.pointer (some ⟨R2, 0, none⟩)]
  d : V.heap[D]? = some (.deferred (some []))
  kw : Kept (fun k => k < w.heap.size) w V
theorem WT.below {w : World} {R1 R2 K1 K2 D : Nat} {V V' : World} {ys1 ys2 : List Int} {g1 g2 : Option Addr} {c1 c2 : Nat} (h : WT w R1 R2 K1 K2 D V ys1 ys2 g1 g2 c1 c2) (hb : Below V.heap.size V V') : WT w R1 R2 K1 K2 D V' ys1 ys2 g1 g2 c1 c2 :=
  have hk : Kept (fun k => k < V.heap.size) V V' := Kept.of_below hb (fun _ h => h)
  ⟨h.a.kept hk h.a.lt, h.b.kept hk h.b.lt, h.ap, h.n1, h.k1.kept hk h.k1.lt, h.k2.kept hk h.k2.lt, (hk.block D (Array.getElem?_eq_some_iff.1 h.d).1).trans h.d, h.kw.trans (hk.mono (fun k (hk : k < w.heap.size) => Nat.lt_of_lt_of_le hk h.kw.size))⟩
theorem WT.put1 {w : World} {R1 R2 K1 K2 D : Nat} {V V' : World} {ys1 ys2 ys1' : List Int} {g1 g2 g1' : Option Addr} {c1 c2 c1' : Nat} (h : WT w R1 R2 K1 K2 D V ys1 ys2 g1 g2 c1 c2)
    (ha : WrO V' R1 ys1' g1' c1') (hk : Kept (fun k => k < V.heap.size ∧ ¬ WrB R1 g1 k) V V') (hg : ∀ k, WrB R1 g1' k → WrB R1 g1 k ∨ V.heap.size ≤ k) : WT w R1 R2 K1 K2 D V' ys1' ys2 g1' g2 c1' c2 := by
  refine ⟨ha, h.b.kept hk (fun k hb => ⟨h.b.lt k hb, fun hc => h.ap k hc hb⟩), ?_, ?_, h.k1.kept hk ⟨h.k1.lt, h.a.ne h.k1 (by decide) (by decide)⟩, h.k2.kept hk ⟨h.k2.lt, h.a.ne h.k2 (by decide) (by decide)⟩, (hk.block D ⟨(Array.getElem?_eq_some_iff.1 h.d).1, fun hw => by have := h.a.cells D hw _ h.d; cases this⟩).trans h.d, h.kw.trans (hk.mono ?_)⟩
  · intro k h1 h2
    rcases hg k h1 with h3 | h3
    · exact h.ap k h3 h2
    · have := h.b.lt k h2; omega
  · intro k h1
    rcases hg k h1 with h3 | h3
    · exact h.n1 k h3
    · exact Nat.le_trans h.kw.size h3
  · intro k (hlt : k < w.heap.size)
    refine ⟨Nat.lt_of_lt_of_le hlt h.kw.size, fun hc => ?_⟩
    have := h.n1 k hc
    omega

/-- Between two rounds of Write. -/
def WrI (fs : List Fil) (w : World) (N R1 R2 K1 K2 : Nat) (pre : List Nat) (own : Nat → Prop) (V : World) : Prop :=
  ∃ g1 c1 g2 c2, WrO V R1 (outB fs pre.length) g1 c1 ∧ WrO V R2 (dirB fs pre.length) g2 c2 ∧ (∀ k, WrB R1 g1 k → ¬ WrB R2 g2 k) ∧ (∀ k, WrB R1 g1 k → k = R1 ∨ N ≤ k) ∧ (∀ k, WrB R2 g2 k → k = R2 ∨ N ≤ k) ∧
    Row V K1 42 #[.pointer (some ⟨R1, 0, none⟩)] ∧ Row V K2 42 #[.pointer (some ⟨R2, 0, none⟩)] ∧ Kept (fun k => k < w.heap.size) w V ∧ own = fun k => WrB R1 g1 k ∨ WrB R2 g2 k

set_option maxRecDepth 100000 in
set_option maxHeartbeats 4000000 in
theorem write_in (S : Nat → Prop) (a : Option Addr) (cap : Nat) (fs : List Fil) (w : World) (hS : ∀ k, S k → k < w.heap.size) (hF : FilesIn S w (.slice a fs.length cap) fs) (hl : fs.length ≤ 64)
    (href : Calls Tryz.prog 15 #[.slice a fs.length cap, .int .i64 0] w fun e w' => e = .returned (.int .i64 0) ∧ Below w.heap.size w w') :
    CallsIn Fence.wide 8 Tryz.prog 11 #[.slice a fs.length cap, .int .i64 0] w fun e w' => ∃ g c, e = .returned (.tuple #[.slice g (archB fs).length c, .int .i64 0]) ∧ w'.ownsRow w.heap.size 5 1 (.slice g (archB fs).length c) (archB fs).length ((archB fs).map (Value.int .u8)) ∧ Below w.heap.size w w' := by
  refine callsIn_of_wp_marks Tryz.func11 rfl trivial ?_ rfl
  simp only [Tryz.ntmps11, List.size_toArray, List.length_cons, List.length_nil, Nat.reduceAdd, Nat.reduceSub, Array.replicate_succ, Array.replicate_zero, List.push_toArray, List.append_toArray, List.nil_append, List.cons_append]
  gi_wp2_with fail
  refine ⟨trivial, (callsIn_wide.2 href).mono ?_⟩
  clear href
  rintro e w1 ⟨rfl, hb1⟩
  have HB1 : Hid _ := hb1
  clear hb1
  gi_wp2_with fail
  refine ⟨trivial, (callsIn_wide.2 (newNumbers_two w1)).mono ?_⟩
  rintro e w2 ⟨rfl, hW2, hb2⟩
  have HW2 : Hid (Two w2 (w1.heap.size + 1) 71 (.slice none 0 0) (.int .i64 0)) := hW2
  have HB2 : Hid _ := hb2
  clear hW2 hb2
  gi_wp2_with fail
  refine ⟨trivial, (callsIn_wide.2 (newNumbers_two w2)).mono ?_⟩
  rintro e w3 ⟨rfl, hW3, hb3⟩
  have HW3 : Hid (Two w3 (w2.heap.size + 1) 71 (.slice none 0 0) (.int .i64 0)) := hW3
  have HB3 : Hid _ := hb3
  clear hW3 hb3
  gi_wp2_with fail
  obtain ⟨R1, hR1⟩ : ∃ R1, w1.heap.size + 1 = R1 := ⟨_, rfl⟩
  obtain ⟨R2, hR2⟩ : ∃ R2, w2.heap.size + 1 = R2 := ⟨_, rfl⟩
  rw [hR1, hR2]
  have hT1 : Two w3 R1 71 (.slice none 0 0) (.int .i64 0) := by rw [← hR1]; exact (HB3.out.block _ HW2.out.lt).trans HW2.out
  have hT2 : Two w3 R2 71 (.slice none 0 0) (.int .i64 0) := by rw [← hR2]; exact HW3.out
  have hK1 := (Row.new w3 42 #[.pointer (some ⟨R1, 0, none⟩)]).alloc (.cells #[.pointer (some ⟨R2, 0, none⟩)] 42)
  have hK2 := Row.new (w3.alloc (.cells #[.pointer (some ⟨R1, 0, none⟩)] 42)) 42 #[.pointer (some ⟨R2, 0, none⟩)]
  rw [World.size_alloc] at hK2
  have hT1' := (hT1.alloc (.cells #[.pointer (some ⟨R1, 0, none⟩)] 42)).alloc (.cells #[.pointer (some ⟨R2, 0, none⟩)] 42)
  have hT2' := (hT2.alloc (.cells #[.pointer (some ⟨R1, 0, none⟩)] 42)).alloc (.cells #[.pointer (some ⟨R2, 0, none⟩)] 42)
  have hbw3 : Below w.heap.size w w3 := HB1.out.trans ((HB2.out.mono HB1.out.size).trans (HB3.out.mono (Nat.le_trans HB1.out.size HB2.out.size)))
  have hbw4 : Below w.heap.size w ((w3.alloc (.cells #[.pointer (some ⟨R1, 0, none⟩)] 42)).alloc (.cells #[.pointer (some ⟨R2, 0, none⟩)] 42)) := (hbw3.alloc hbw3.size _).alloc (Nat.le_trans hbw3.size (by simp)) _
  have hRl : w.heap.size < R1 ∧ R1 < R2 ∧ R2 < w3.heap.size := ⟨by have := HB1.out.size; omega, by have := HW2.out.lt; omega, hT2.lt⟩
  clear HW2 HW3 HB1 HB2 HB3 hT1 hT2 hbw3 hR1 hR2
  generalize hw4 : ((w3.alloc (.cells #[.pointer (some ⟨R1, 0, none⟩)] 42)).alloc (.cells #[.pointer (some ⟨R2, 0, none⟩)] 42)) = w4 at hK1 hK2 hT1' hT2' hbw4 ⊢
  have hs4 : w4.heap.size = w3.heap.size + 2 := by subst hw4; simp
  clear hw4
  refine ⟨trivial, (callsIn_wide.2 (packed_any _ ⟨_, _, _, rfl⟩ 0 w4)).mono ?_⟩
  rintro e w5 ⟨rfl, hw5⟩
  have hbl : Below w4.heap.size w4 w5 := by subst hw5; exact ((Below.refl _ w4).alloc (Nat.le_refl _) _).alloc (by simp) _
  have d0 : w5.cell? ⟨w4.heap.size, 0, none⟩ = some (.slice a fs.length cap) := by subst hw5; exact ((Row.new w4 34 #[.slice a fs.length cap]).alloc _).cell rfl
  have d1 : w5.cell? ⟨w4.heap.size + 1, 0, none⟩ = some (.int .i64 0) := by
    subst hw5
    have h := (Row.new (w4.alloc (.cells #[.slice a fs.length cap] 34)) 3 #[.int .i64 0]).cell (i := 0) rfl
    rw [World.size_alloc] at h
    exact h
  have hs5 : w5.heap.size = w4.heap.size + 2 := by subst hw5; simp
  clear hw5
  have hF5 : FilesIn S w5 (.slice a fs.length cap) fs := FilesIn.kept (Kept.of_below (hbw4.trans (hbl.mono hbw4.size)) hS) hF
  have hseq := packed_seq 7 S w4.heap.size (w4.heap.size + 1) a cap fs w5 (fun k h => by have := hS k h; have := hbw4.size; omega) (by omega) hF5 d0 d1 hl
  have hK1 := hK1.below hbl hK1.lt
  have hK2 := hK2.below hbl hK2.lt
  have hO1 : WrO w5 R1 [] none 0 := ⟨(hbl.block _ hT1'.lt).trans hT1', rfl, .inl ⟨rfl, rfl⟩⟩
  have hO2 : WrO w5 R2 [] none 0 := ⟨(hbl.block _ hT2'.lt).trans hT2', rfl, .inl ⟨rfl, rfl⟩⟩
  have hKw : Kept (fun k => k < w.heap.size) w w5 := Kept.of_below (hbw4.trans (hbl.mono hbw4.size)) (fun _ h => h)
  have HSZ : Hid (w5.heap.size = w3.heap.size + 4) := by show _ = _; omega
  have HSZ4 : Hid (w4.heap.size = w3.heap.size + 2) := hs4
  have HOK : Hid (∀ f ∈ fs, f.Ok S w) := hF.1
  clear hbw4 hbl d0 d1 hF5 hT1' hT2' hs4 hs5
  gi_wp2
  refine wpIn_range_own rfl (by omega) (gf := 36) (lb := #[.pointer (some ⟨w4.heap.size, 0, none⟩), .pointer (some ⟨w4.heap.size + 1, 0, none⟩)]) rfl trivial (enters_of Tryz.func36 (by kernel_rfl) rfl) hseq (fun _ h => h.elim) (fun _ => rfl)
    (WrI fs w w5.heap.size R1 R2 w3.heap.size (w3.heap.size + 1)) ?mild ?apart ?init (fun k W => { tmps := #[.slice a fs.length cap, .int .i64 0, undef, undef, .slice none 0 0, .int .i64 0, .int .i64 0, .pointer (some ⟨w3.heap.size, 0, none⟩), .pointer (some ⟨w3.heap.size + 1, 0, none⟩), .pointer (some ⟨W.heap.size, 0, none⟩), (fs[k]?.getD default).dat, undef, .slice a fs.length cap, .int .i64 0, .int .i64 0, .int .i64 0, .bool false, undef, .agg #[.pointer (some ⟨R1, 0, none⟩)], .agg #[.pointer (some ⟨R2, 0, none⟩)], .slice a fs.length cap, .int .i64 0, .func (.func 36) #[] #[.pointer (some ⟨w4.heap.size, 0, none⟩), .pointer (some ⟨w4.heap.size + 1, 0, none⟩)], .agg (pkE fs k), (fs[k]?.getD default).dat, undef, undef, undef, undef, undef, undef, undef, undef, undef, undef, undef, undef, undef, undef, undef, undef, undef, undef, undef, undef, undef, undef, undef, undef, undef, undef, undef, undef, undef, undef, undef, undef, undef, undef, undef, undef, undef, undef], defers := [] }) (fun k W => W.alloc (.cells (pkE fs k) 48)) (fun k W => (Kept.refl _ W).alloc (fun k h => h) _) ?assign ?body ?done
  case mild =>
    rintro pre own V V' ⟨g1, c1, g2, c2, h1, h2, h3, h4, h5, h6, h7, h8, h9⟩ hm
    exact ⟨g1, c1, g2, c2, h1.mild hm (fun _ _ h => h), h2.mild hm (fun _ _ h => h), h3, h4, h5, hm.row h6 (fun h => h), hm.row h7 (fun h => h), h8.trans (hm.kept (fun k (hk : k < w.heap.size) => ⟨by have := hKw.size; omega, fun h => h, Nat.lt_of_lt_of_le hk h8.size⟩)), h9⟩
  case apart =>
    rintro pre own V k ⟨g1, c1, g2, c2, h1, h2, h3, h4, h5, h6, h7, h8, rfl⟩ hk
    have e5 := HSZ.out
    have e4 := HSZ4.out
    rcases hk with hk | hk
    · refine ⟨h1.lt k hk, ?_⟩
      rcases h4 k hk with rfl | hN
      · rintro (h | h | h)
        · have := hS _ h; omega
        · omega
        · omega
      · rintro (h | h | h)
        · have := hS _ h; have := hKw.size; omega
        · omega
        · omega
    · refine ⟨h2.lt k hk, ?_⟩
      rcases h5 k hk with rfl | hN
      · rintro (h | h | h)
        · have := hS _ h; omega
        · omega
        · omega
      · rintro (h | h | h)
        · have := hS _ h; have := hKw.size; omega
        · omega
        · omega
  case init =>
    refine ⟨_, none, 0, none, 0, hO1, hO2, ?_, ?_, ?_, hK1, hK2, hKw, rfl⟩
    · rintro k (rfl | h) (h' | h')
      · omega
      · simp [Value.ownBlock] at h'
      · simp [Value.ownBlock] at h
      · simp [Value.ownBlock] at h
    · rintro k (rfl | h)
      · exact .inl rfl
      · simp [Value.ownBlock] at h
    · rintro k (rfl | h)
      · exact .inl rfl
      · simp [Value.ownBlock] at h
  case assign =>
    intro l x W K hK
    simp only [pkE, entA] at hK ⊢
    gi_wp2
    exact hK
  case body =>
    rintro l pre k own W V hWs hIW hIV hMV ⟨rfl, hk⟩
    clear hIW hseq hO1 hO2 hK1 hK2
    obtain ⟨g1, c1, g2, c2, hA, hB, hap, hn1, hn2, hRK1, hRK2, hKv, rfl⟩ := hIV
    have hX : Row V W.heap.size 48 (pkE fs pre.length) := hMV.row (Row.new W 48 _) (fun h => h)
    have hok : (fs[pre.length]?.getD default).Ok S w := by
      rw [List.getElem?_eq_getElem hk]
      exact HOK.out _ (List.getElem_mem hk)
    have HOF : Hid (offN fs pre.length ≤ 100000000) := offN_le' HOK.out hl _ (by omega)
    have HDL : Hid ((dirB fs pre.length).length ≤ 100000000) := by have := dirB_le HOK.out pre.length (by omega); show _ ≤ _; omega
    have HO1 : Hid (outB fs (pre.length + 1) = (outB fs pre.length ++ localB (fs[pre.length]?.getD default).nm 0 (crcN (fs[pre.length]?.getD default).zs) (fs[pre.length]?.getD default).zs.length (fs[pre.length]?.getD default).zs.length) ++ (fs[pre.length]?.getD default).zs) := rfl
    have HO2 : Hid (dirB fs (pre.length + 1) = dirB fs pre.length ++ listedB (fs[pre.length]?.getD default).nm 0 (crcN (fs[pre.length]?.getD default).zs) (fs[pre.length]?.getD default).zs.length (fs[pre.length]?.getD default).zs.length (offN fs pre.length)) := rfl
    have HOL : Hid ((outB fs pre.length).length ≤ 100000000) := by rw [outB_length]; exact HOF
    simp only [pkE, entA] at hX ⊢
    generalize fs[pre.length]?.getD default = f at hX hok HO1 HO2 ⊢
    obtain ⟨nm, fa, fcap, zs⟩ := f
    simp only [Fil.dat] at hX HO1 HO2 ⊢
    have HNM : Hid (nm.size ≤ 65535) := hok.name
    have HZL : Hid (zs.length ≤ 1048576) := hok.small
    have hws : WS w w5.heap.size R1 R2 w3.heap.size (w3.heap.size + 1) W.heap.size #[.string nm, .int .i64 ((0 : Nat) : Int), .int .i64 (crcN zs : Int), .int .i64 (zs.length : Int), .int .i64 (zs.length : Int), .int .i64 (offN fs pre.length : Int)] V (fun k => WrB R1 g1 k ∨ WrB R2 g2 k) V (outB fs pre.length) (dirB fs pre.length) g1 g2 c1 c2 := ⟨hA, hB, hap, hn1, hn2, hRK1, hRK2, hX, by have := hMV.size; simp only [World.size_alloc] at this; omega, hKv, Kept.refl _ _, fun _ h => .inl h⟩
    have hAc : ∀ k o, WrB R1 g1 k → V.heap[k]? = some o → o.isCells = true := fun k o h ho => hA.cells k h o ho
    have hBc : ∀ k o, WrB R2 g2 k → V.heap[k]? = some o → o.isCells = true := fun k o h ho => hB.cells k h o ho
    clear hA hB hap hn1 hn2 hRK1 hRK2 hX
    gi_wp2
    have hpD : WS w w5.heap.size R1 R2 w3.heap.size (w3.heap.size + 1) W.heap.size #[.string nm, .int .i64 ((0 : Nat) : Int), .int .i64 (crcN zs : Int), .int .i64 (zs.length : Int), .int .i64 (zs.length : Int), .int .i64 (offN fs pre.length : Int)] V (fun k => WrB R1 g1 k ∨ WrB R2 g2 k) V.drew _ _ _ _ _ _ := hws.below ((Below.refl _ _).drew)
    have hpS : Hid ((fun wx : World => wx.cell? ⟨w3.heap.size, 0, none⟩ = some (.pointer (some ⟨R1, 0, none⟩)) ∧ wx.cell? ⟨W.heap.size, 0, none⟩ = some (.string nm) ∧ wx.cell? ⟨W.heap.size, 1, none⟩ = some (.int .i64 ((0 : Nat) : Int)) ∧ wx.cell? ⟨W.heap.size, 2, none⟩ = some (.int .i64 (crcN zs : Int)) ∧ wx.cell? ⟨W.heap.size, 3, none⟩ = some (.int .i64 (zs.length : Int)) ∧ wx.cell? ⟨W.heap.size, 4, none⟩ = some (.int .i64 (zs.length : Int)) ∧ wx.cell? ⟨W.heap.size, 5, none⟩ = some (.int .i64 (offN fs pre.length : Int))) V.drew) := ⟨hpD.k1.cell rfl, hpD.x.cell rfl, hpD.x.cell rfl, hpD.x.cell rfl, hpD.x.cell rfl, hpD.x.cell rfl, hpD.x.cell rfl⟩
    have hpL : Hid (Calls Tryz.prog 19 #[.agg #[.string nm, .int .i64 ((0 : Nat) : Int), .int .i64 (crcN zs : Int), .int .i64 (zs.length : Int), .int .i64 (zs.length : Int), .int .i64 (offN fs pre.length : Int)]] V.drew _) := local_any nm 0 (crcN zs) zs.length zs.length (offN fs pre.length) V.drew (by omega) (crcN_lt zs) (by have := HZL.out; omega) (by have := HZL.out; omega) (by have := HNM.out; omega)
    refine wpIn_region_Kr (fun wx : World => wx.cell? ⟨w3.heap.size, 0, none⟩ = some (.pointer (some ⟨R1, 0, none⟩)) ∧ wx.cell? ⟨W.heap.size, 0, none⟩ = some (.string nm) ∧ wx.cell? ⟨W.heap.size, 1, none⟩ = some (.int .i64 ((0 : Nat) : Int)) ∧ wx.cell? ⟨W.heap.size, 2, none⟩ = some (.int .i64 (crcN zs : Int)) ∧ wx.cell? ⟨W.heap.size, 3, none⟩ = some (.int .i64 (zs.length : Int)) ∧ wx.cell? ⟨W.heap.size, 4, none⟩ = some (.int .i64 (zs.length : Int)) ∧ wx.cell? ⟨W.heap.size, 5, none⟩ = some (.int .i64 (offN fs pre.length : Int))) (fun j => decide (j ≤ 3)) (by kernel_rfl) (by kernel_rfl) (fun _ _ h => h) ?_
    refine wpK_held (k := 0) (v := ?_) rfl (by kernel_rfl) (by kernel_rfl) (fun _ _ _ h => h) rfl (by rintro wx ⟨hx0, hx1, hx2, hx3, hx4, hx5, hx6⟩; go_simp <;> rfl) hpS.out ?_
    refine wpK_held (k := 1) (v := ?_) rfl (by kernel_rfl) (by kernel_rfl) (fun _ _ _ h => h) rfl (by rintro wx ⟨hx0, hx1, hx2, hx3, hx4, hx5, hx6⟩; go_simp <;> rfl) hpS.out ?_
    refine wpK_held (k := 2) (v := ?_) rfl (by kernel_rfl) (by kernel_rfl) (fun _ _ _ h => h) rfl (by rintro wx ⟨hx0, hx1, hx2, hx3, hx4, hx5, hx6⟩; go_simp <;> rfl) hpS.out ?_
    refine wpK_one (k := 3) rfl (by kernel_rfl) ?_
    go_wp2_with fail
    refine Calls.mono hpL.out ?_
    clear hpL hpS
    rintro e Va1 hfr
    obtain ⟨gl, cl, rfl, hnil, hbi, hbl⟩ := hfr.bytes
    have hp1 := hpD.below hbl
    clear hfr
    have hpB := bytes_own hp1.a gl cl _ hnil (by rw [localB_length]; have := HOL.out; have := HNM.out; omega) (hbi.mono (fun k hk => ⟨hk.2, fun hc => by have := hpD.a.lt k hc; omega⟩))
    go_wp2_with fail
    refine ⟨fun _ => ⟨hp1.k1.cell rfl, hp1.x.cell rfl, hp1.x.cell rfl, hp1.x.cell rfl, hp1.x.cell rfl, hp1.x.cell rfl, hp1.x.cell rfl⟩, ?_⟩
    refine wpK_one (k := 4) rfl (by kernel_rfl) ?_
    go_wp2_with fail
    refine Calls.mono hpB ?_
    rintro e Vb ⟨rfl, g1', c1', hO, hKO, hgO⟩
    have hws2 := hp1.put1 hRl.1 hKw.size hO hKO hgO
    clear hp1 hpD hpB hws hbi hbl hO hKO hgO hnil
    go_wp2_with fail
    refine ⟨fun h => (by cases h), ?_⟩
    refine wpK_done 5 rfl (by kernel_rfl) ?_
    have hcK := hws2.k1.cell (i := 0) rfl
    have hpB := bytes_own hws2.a fa fcap zs hok.nil (by rw [List.length_append, localB_length]; have := HOL.out; have := HNM.out; have := HZL.out; omega) ((hok.kept (hws2.kw.mono hS)).bytes.mono (fun k hk => by
      have h1 := hS k hk
      have h2 := hws2.kw.size
      have h3 := hKw.size
      refine ⟨by omega, fun hc => ?_⟩
      rcases hws2.n1 k hc with h4 | h4 <;> omega))
    gi_wp2_with fail
    refine ⟨trivial, (CallsIn.inRound l (callsIn_wide.2 hpB)).mono ?_⟩
    rintro e Vc ⟨rfl, g3, c3, hO, hKO, hgO⟩
    have hws3 := hws2.put1 hRl.1 hKw.size hO hKO hgO
    clear hws2 hpB hO hKO hgO hcK
    gi_wp2
    have hpD : WS w w5.heap.size R1 R2 w3.heap.size (w3.heap.size + 1) W.heap.size #[.string nm, .int .i64 ((0 : Nat) : Int), .int .i64 (crcN zs : Int), .int .i64 (zs.length : Int), .int .i64 (zs.length : Int), .int .i64 (offN fs pre.length : Int)] V (fun k => WrB R1 g1 k ∨ WrB R2 g2 k) Vc.drew _ _ _ _ _ _ := hws3.below ((Below.refl _ _).drew)
    have hpS : Hid ((fun wx : World => wx.cell? ⟨(w3.heap.size + 1), 0, none⟩ = some (.pointer (some ⟨R2, 0, none⟩)) ∧ wx.cell? ⟨W.heap.size, 0, none⟩ = some (.string nm) ∧ wx.cell? ⟨W.heap.size, 1, none⟩ = some (.int .i64 ((0 : Nat) : Int)) ∧ wx.cell? ⟨W.heap.size, 2, none⟩ = some (.int .i64 (crcN zs : Int)) ∧ wx.cell? ⟨W.heap.size, 3, none⟩ = some (.int .i64 (zs.length : Int)) ∧ wx.cell? ⟨W.heap.size, 4, none⟩ = some (.int .i64 (zs.length : Int)) ∧ wx.cell? ⟨W.heap.size, 5, none⟩ = some (.int .i64 (offN fs pre.length : Int))) Vc.drew) := ⟨hpD.k2.cell rfl, hpD.x.cell rfl, hpD.x.cell rfl, hpD.x.cell rfl, hpD.x.cell rfl, hpD.x.cell rfl, hpD.x.cell rfl⟩
    have hpL : Hid (Calls Tryz.prog 20 #[.agg #[.string nm, .int .i64 ((0 : Nat) : Int), .int .i64 (crcN zs : Int), .int .i64 (zs.length : Int), .int .i64 (zs.length : Int), .int .i64 (offN fs pre.length : Int)]] Vc.drew _) := listed_any nm 0 (crcN zs) zs.length zs.length (offN fs pre.length) Vc.drew (by omega) (crcN_lt zs) (by have := HZL.out; omega) (by have := HZL.out; omega) (by have := HOF.out; omega) (by have := HNM.out; omega)
    refine wpIn_region_Kr (fun wx : World => wx.cell? ⟨(w3.heap.size + 1), 0, none⟩ = some (.pointer (some ⟨R2, 0, none⟩)) ∧ wx.cell? ⟨W.heap.size, 0, none⟩ = some (.string nm) ∧ wx.cell? ⟨W.heap.size, 1, none⟩ = some (.int .i64 ((0 : Nat) : Int)) ∧ wx.cell? ⟨W.heap.size, 2, none⟩ = some (.int .i64 (crcN zs : Int)) ∧ wx.cell? ⟨W.heap.size, 3, none⟩ = some (.int .i64 (zs.length : Int)) ∧ wx.cell? ⟨W.heap.size, 4, none⟩ = some (.int .i64 (zs.length : Int)) ∧ wx.cell? ⟨W.heap.size, 5, none⟩ = some (.int .i64 (offN fs pre.length : Int))) (fun j => decide (j ≤ 3)) (by kernel_rfl) (by kernel_rfl) (fun _ _ h => h) ?_
    refine wpK_held (k := 0) (v := ?_) rfl (by kernel_rfl) (by kernel_rfl) (fun _ _ _ h => h) rfl (by rintro wx ⟨hx0, hx1, hx2, hx3, hx4, hx5, hx6⟩; go_simp <;> rfl) hpS.out ?_
    refine wpK_held (k := 1) (v := ?_) rfl (by kernel_rfl) (by kernel_rfl) (fun _ _ _ h => h) rfl (by rintro wx ⟨hx0, hx1, hx2, hx3, hx4, hx5, hx6⟩; go_simp <;> rfl) hpS.out ?_
    refine wpK_held (k := 2) (v := ?_) rfl (by kernel_rfl) (by kernel_rfl) (fun _ _ _ h => h) rfl (by rintro wx ⟨hx0, hx1, hx2, hx3, hx4, hx5, hx6⟩; go_simp <;> rfl) hpS.out ?_
    refine wpK_one (k := 3) rfl (by kernel_rfl) ?_
    go_wp2_with fail
    refine Calls.mono hpL.out ?_
    clear hpL hpS
    rintro e Vd1 hfr
    obtain ⟨gl, cl, rfl, hnil, hbi, hbl⟩ := hfr.bytes
    have hp1 := hpD.below hbl
    clear hfr
    have hpB := bytes_own hp1.b gl cl _ hnil (by rw [listedB_length]; have := HDL.out; have := HNM.out; omega) (hbi.mono (fun k hk => ⟨hk.2, fun hc => by have := hpD.b.lt k hc; omega⟩))
    go_wp2_with fail
    refine ⟨fun _ => ⟨hp1.k2.cell rfl, hp1.x.cell rfl, hp1.x.cell rfl, hp1.x.cell rfl, hp1.x.cell rfl, hp1.x.cell rfl, hp1.x.cell rfl⟩, ?_⟩
    refine wpK_one (k := 4) rfl (by kernel_rfl) ?_
    go_wp2_with fail
    refine Calls.mono hpB ?_
    rintro e Ve ⟨rfl, g4, c4, hO, hKO, hgO⟩
    have hws4 := hp1.put2 (by omega) hKw.size hO hKO hgO
    clear hp1 hpD hpB hws3 hbi hbl hO hKO hgO hnil
    go_wp2_with fail
    refine ⟨fun h => (by cases h), ?_⟩
    refine wpK_done 5 rfl (by kernel_rfl) ?_
    refine ⟨keepsFrom_of hws4.kv ?_, hws4.kv, _, g3, c3, g4, c4, ?_, ?_, hws4.ap, hws4.n1, hws4.n2, hws4.k1, hws4.k2, hws4.kw, rfl⟩
    · rintro k o (h | h) ho
      · exact hAc k o h ho
      · exact hBc k o h ho
    · rw [List.length_append, List.length_singleton, HO1.out]; exact hws4.a
    · rw [List.length_append, List.length_singleton, HO2.out]; exact hws4.b
  case done =>
    rintro D xs own W hD hE ⟨g1, c1, g2, c2, hA, hB, hap, hn1, hn2, hRK1, hRK2, hKv, rfl⟩ hKD
    clear hseq hO1 hO2 hK1 hK2
    rw [hE] at hA hB
    have HOL : Hid ((outB fs fs.length).length ≤ 100000000) := by rw [outB_length]; exact offN_le' HOK.out hl _ (Nat.le_refl _)
    have HDL : Hid ((dirB fs fs.length).length ≤ 100000000) := by have := dirB_le HOK.out fs.length (Nat.le_refl _); show _ ≤ _; omega
    have HAR : Hid (archB fs = (outB fs fs.length ++ dirB fs fs.length) ++ endB fs.length (dirB fs fs.length).length (outB fs fs.length).length) := rfl
    have h0 : WT w R1 R2 w3.heap.size (w3.heap.size + 1) D W (outB fs fs.length) (dirB fs fs.length) g1 g2 c1 c2 := ⟨hA, hB, hap, fun k hk => by
      have := hKw.size
      rcases hn1 k hk with h | h <;> omega, hRK1, hRK2, hKD, hKv⟩
    clear hA hB hap hn1 hn2 hRK1 hRK2 hKD hKv
    generalize outB fs fs.length = ob at HOL HAR h0
    generalize dirB fs fs.length = db at HDL HAR h0
    have hcK := h0.k1.cell (i := 0) rfl
    gi_wp2_with fail
    refine ⟨trivial, (callsIn_wide.2 h0.a.len).mono ?_⟩
    rintro e W' ⟨rfl, rfl⟩
    clear hcK
    have HWD : Hid (IntKind.i64.wrap (db.length : Int) = (db.length : Int)) := by have := HDL.out; show _ = _; simp [IntKind.wrap, IntKind.bits, IntKind.signed]; omega
    have hol := HOL.out
    have hdl := HDL.out
    gi_wp2
    have h1 : WT w R1 R2 w3.heap.size (w3.heap.size + 1) D W'.drew ob db g1 g2 c1 c2 := h0.below ((Below.refl _ _).drew)
    have HS : Hid ((fun wx : World => wx.cell? ⟨w3.heap.size, 0, none⟩ = some (.pointer (some ⟨R1, 0, none⟩)) ∧ wx.cell? ⟨w3.heap.size + 1, 0, none⟩ = some (.pointer (some ⟨R2, 0, none⟩))) W'.drew) := ⟨h1.k1.cell rfl, h1.k2.cell rfl⟩
    refine wpIn_normal (wpIn_region_Kw (fun wx : World => wx.cell? ⟨w3.heap.size, 0, none⟩ = some (.pointer (some ⟨R1, 0, none⟩)) ∧ wx.cell? ⟨w3.heap.size + 1, 0, none⟩ = some (.pointer (some ⟨R2, 0, none⟩))) (fun j => decide (j ≤ 4)) (by kernel_rfl) ?_)
    refine wpK_held (k := 0) (v := ?_) rfl (by kernel_rfl) (by kernel_rfl) (fun _ _ _ h => by cases h.1) rfl (by rintro wx ⟨hx0, hx1⟩; go_simp <;> rfl) HS.out ?_
    refine wpK_held (k := 1) (v := ?_) rfl (by kernel_rfl) (by kernel_rfl) (fun _ _ _ h => by cases h.1) rfl (by rintro wx ⟨hx0, hx1⟩; go_simp <;> rfl) HS.out ?_
    refine wpK_held (k := 2) (v := ?_) rfl (by kernel_rfl) (by kernel_rfl) (fun _ _ _ h => by cases h.1) rfl (by rintro wx ⟨hx0, hx1⟩; go_simp <;> rfl) HS.out ?_
    refine wpK_held (k := 3) (v := ?_) rfl (by kernel_rfl) (by kernel_rfl) (fun _ _ _ h => by cases h.1) rfl (by rintro wx ⟨hx0, hx1⟩; go_simp <;> rfl) HS.out ?_
    clear HS
    refine wpK_one (k := 4) rfl (by kernel_rfl) ?_
    go_wp2_with fail
    refine Calls.mono (h1.b.done (by omega)) ?_
    rintro e V1 hfr
    obtain ⟨gl, cl, rfl, hnil, hbi, hbl⟩ := hfr.bytes
    have h2 := h1.below hbl
    clear hfr
    go_wp2_with fail
    refine ⟨fun _ => ⟨h2.k1.cell rfl, h2.k2.cell rfl⟩, ?_⟩
    refine wpK_one (k := 5) rfl (by kernel_rfl) ?_
    go_wp2_with fail
    refine Calls.mono (bytes_own h2.a gl cl _ hnil (by omega) (hbi.mono (fun k hk => ⟨hk.2, fun hc => by have := h1.a.lt k hc; omega⟩))) ?_
    rintro e V2 ⟨rfl, g3, c3, hO, hKO, hgO⟩
    have h3 := h2.put1 hO hKO hgO
    clear h0 h1 h2 hO hKO hgO hbi hbl hnil
    go_wp2_with fail
    refine ⟨fun h => (by cases h), ?_⟩
    refine wpK_done 6 rfl (by kernel_rfl) ⟨rfl, ?_⟩
    gi_wp2
    have h4 : WT w R1 R2 w3.heap.size (w3.heap.size + 1) D V2.drew (ob ++ db) db g3 g2 c3 c2 := h3.below ((Below.refl _ _).drew)
    have HS : Hid ((fun wx : World => wx.cell? ⟨w3.heap.size, 0, none⟩ = some (.pointer (some ⟨R1, 0, none⟩)) ∧ wx.cell? ⟨w3.heap.size + 1, 0, none⟩ = some (.pointer (some ⟨R2, 0, none⟩))) V2.drew) := ⟨h4.k1.cell rfl, h4.k2.cell rfl⟩
    refine wpIn_normal (wpIn_wide.2 (wp_region_M (fun wx : World => wx.cell? ⟨w3.heap.size, 0, none⟩ = some (.pointer (some ⟨R1, 0, none⟩)) ∧ wx.cell? ⟨w3.heap.size + 1, 0, none⟩ = some (.pointer (some ⟨R2, 0, none⟩))) (fun j => decide (j ≤ 9)) 11 rfl (by kernel_rfl) ?_))
    refine wpM_held 0 (v := ?_) rfl (by kernel_rfl) (by kernel_rfl) rfl (fun _ _ _ h => by cases h.1) rfl (by rintro wx ⟨hx0, hx1⟩; go_simp <;> rfl) HS.out ?_
    refine wpM_held 1 (v := ?_) rfl (by kernel_rfl) (by kernel_rfl) rfl (fun _ _ _ h => by cases h.1) rfl (by rintro wx ⟨hx0, hx1⟩; go_simp <;> rfl) HS.out ?_
    refine wpM_held 2 (v := ?_) rfl (by kernel_rfl) (by kernel_rfl) rfl (fun _ _ _ h => by cases h.1) rfl (by rintro wx ⟨hx0, hx1⟩; go_simp <;> rfl) HS.out ?_
    refine wpM_held 3 (v := ?_) rfl (by kernel_rfl) (by kernel_rfl) rfl (fun _ _ _ h => by cases h.1) rfl (by rintro wx ⟨hx0, hx1⟩; go_simp <;> rfl) HS.out ?_
    refine wpM_held 4 (v := ?_) rfl (by kernel_rfl) (by kernel_rfl) rfl (fun _ _ _ h => by cases h.1) rfl (by rintro wx ⟨hx0, hx1⟩; go_simp <;> rfl) HS.out ?_
    refine wpM_held 5 (v := ?_) rfl (by kernel_rfl) (by kernel_rfl) rfl (fun _ _ _ h => by cases h.1) rfl (by rintro wx ⟨hx0, hx1⟩; go_simp <;> rfl) HS.out ?_
    refine wpM_held 8 (v := ?_) rfl (by kernel_rfl) (by kernel_rfl) rfl (fun _ _ _ h => by cases h.1) rfl (by rintro wx ⟨hx0, hx1⟩; go_simp <;> rfl) HS.out ?_
    refine wpM_one 6 rfl (by kernel_rfl) rfl ?_
    go_wp2_with fail
    refine Calls.mono h4.b.len ?_
    rintro e V3 ⟨rfl, rfl⟩
    go_wp2_with fail
    refine ⟨fun _ => HS.out, ?_⟩
    refine wpM_held 7 (v := .int .i64 (db.length : Int)) rfl (by kernel_rfl) (by kernel_rfl) rfl (fun _ _ _ h => by cases h.1) rfl (by rintro wx ⟨hx0, hx1⟩; go_simp; rw [HWD.out]) HS.out ?_
    clear HS
    have HE : Hid (Calls Tryz.prog 23 #[.int .i64 (fs.length : Int), .int .i64 (db.length : Int), .int .i64 (ob.length : Int)] V2.drew _) := endOf_any fs.length db.length ob.length V2.drew (by omega) (by omega) (by omega)
    refine wpM_one 9 rfl (by kernel_rfl) rfl ?_
    go_wp2_with fail
    refine Calls.mono HE.out ?_
    clear HE
    rintro e V4 hfr
    obtain ⟨gl2, cl2, rfl, hnil, hbi, hbl⟩ := hfr.bytes
    have h5 := h4.below hbl
    clear hfr
    go_wp2_with fail
    refine ⟨fun _ => ⟨h5.k1.cell rfl, h5.k2.cell rfl⟩, ?_⟩
    have HBO : Hid _ := bytes_own h5.a gl2 cl2 _ hnil (by rw [endB_length, List.length_append]; omega) (hbi.mono (fun k hk => ⟨hk.2, fun hc => by have := h4.a.lt k hc; omega⟩))
    refine wpM_one 10 rfl (by kernel_rfl) rfl ?_
    go_wp2_with fail
    refine Calls.mono HBO.out ?_
    clear HBO
    rintro e V5 ⟨rfl, g4, c4, hO, hKO, hgO⟩
    have h6 := h5.put1 hO hKO hgO
    clear h3 h4 h5 hO hKO hgO hbi hbl hnil
    go_wp2_with fail
    refine ⟨fun h => (by cases h), ?_⟩
    refine wpM_done (by kernel_rfl) ⟨rfl, ?_⟩
    rw [← HAR.out] at h6
    have hcK := h6.k1.cell (i := 0) rfl
    have HAL : Hid ((archB fs).length ≤ 1000000000) := by rw [HAR.out]; show _ ≤ _; simp only [List.length_append, endB_length]; omega
    gi_wp2_with fail
    refine ⟨trivial, (callsIn_wide.2 (h6.a.done (by have := HAL.out; omega))).mono ?_⟩
    rintro e V6 ⟨g7, c7, rfl, ho7, hb7⟩
    have h7 := h6.below hb7
    clear hcK
    gi_wp2
    refine ⟨by simp, .inl ⟨_, _, rfl, run_takeDeferred h7.d, ?_⟩⟩
    have hD6 : D < V5.heap.size := (Array.getElem?_eq_some_iff.1 h6.d).1
    have hDw : w.heap.size ≤ D := Nat.le_trans hKw.size hD
    refine ⟨_, by simp [results, Tryz.f11, go_sem], g7, c7, rfl, owns_kept (owns_mono ho7 h6.kw.size) (Kept.putObj (S := fun k => k ≠ D) V6 D _ (by simp)) (fun k hk e => by have := (ho7.lt k hk).1; omega), (h7.kw.trans (Kept.putObj (S := fun k => k < w.heap.size) V6 D _ (fun h => by omega))).below (fun _ h => h)⟩
end Go.Proofs.YtibnafngkcpafaaGreatDoor
