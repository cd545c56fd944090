import Derived.Test.YtinbilbgipfemaaDoorDynM
import Derived.Test.YtinbilbgipfemaaDoorDynM
/- The cheapest way. -/
namespace Go.Proofs.YtinbilbgipfemaaDoor
open Go.RowKit

/-- A way by codes in memory, from block lo on. -/
def CodedW (S : Nat → Prop) (lo hi K kind : Nat) (last : Bool) (head : List Fd) (zl zd : List Int) (its : List It) (x : Wy) (w' : World) : Prop :=
  ∃ Bk Bn Bh Bl Bd, x.fn = 70 ∧ x.caps = #[.pointer (some ⟨Bk, 0, none⟩), .pointer (some ⟨Bn, 0, none⟩), .pointer (some ⟨Bh, 0, none⟩), .pointer (some ⟨Bl, 0, none⟩), .pointer (some ⟨Bd, 0, none⟩)] ∧
    CodedAt (fun k => S k ∨ (lo ≤ k ∧ k < hi)) w' K Bk Bn Bh Bl Bd kind last head zl zd its
theorem CodedW.kept {S : Nat → Prop} {lo hi K kind : Nat} {last : Bool} {head : List Fd} {zl zd : List Int} {its : List It} {x : Wy} {w1 w2 : World} (h : CodedW S lo hi K kind last head zl zd its x w1) (hk : Kept (fun k => S k ∨ (lo ≤ k ∧ k < hi)) w1 w2) : CodedW S lo hi K kind last head zl zd its x w2 := by
  obtain ⟨Bk, Bn, Bh, Bl, Bd, h1, h2, h3⟩ := h
  exact ⟨Bk, Bn, Bh, Bl, Bd, h1, h2, h3.kept hk⟩
theorem CodedW.lo {S : Nat → Prop} {lo lo' hi hi' K kind : Nat} {last : Bool} {head : List Fd} {zl zd : List Int} {its : List It} {x : Wy} {w1 : World} (h : CodedW S lo hi K kind last head zl zd its x w1) (hl : lo' ≤ lo) (hh : hi ≤ hi') : CodedW S lo' hi' K kind last head zl zd its x w1 := by
  obtain ⟨Bk, Bn, Bh, Bl, Bd, h1, h2, h3⟩ := h
  refine ⟨Bk, Bn, Bh, Bl, Bd, h1, h2, h3.mono ?_⟩
  rintro k (h | h)
  · exact .inl h
  · exact .inr ⟨by omega, by omega⟩
theorem codedW_of {S : Nat → Prop} {K kind : Nat} {last : Bool} {head : List Fd} {zl zd : List Int} {its : List It} {size : Int} {v : Value} {w w' : World} (h : CodedWay S K kind last head zl zd its size w v w') : ∃ x : Wy, v = .agg #[.int .i64 x.size, .func (.func x.fn) #[] x.caps] ∧ x.size = size ∧ CodedW S w.heap.size w'.heap.size K kind last head zl zd its x w' ∧ Below w.heap.size w w' := by
  obtain ⟨Bk, Bn, Bh, Bl, Bd, rfl, h3, h4⟩ := h
  exact ⟨⟨size, 70, #[.pointer (some ⟨Bk, 0, none⟩), .pointer (some ⟨Bn, 0, none⟩), .pointer (some ⟨Bh, 0, none⟩), .pointer (some ⟨Bl, 0, none⟩), .pointer (some ⟨Bd, 0, none⟩)]⟩, rfl, rfl, ⟨Bk, Bn, Bh, Bl, Bd, rfl, rfl, h3⟩, h4⟩
/-- The stored way in memory. -/
def StoredW (lo K : Nat) (x : Wy) (w' : World) : Prop := ∃ B, x.fn = 51 ∧ x.caps = #[.pointer (some ⟨B, 0, none⟩)] ∧ lo ≤ B ∧ B < w'.heap.size ∧ w'.cell? ⟨B, 0, none⟩ = some (.pointer (some ⟨K, 0, none⟩))
theorem wy_cells {w : World} {base : Nat} {ws : List Wy} {G n c : Nat} (h : w.ownsRow base 58 2 (.slice (some ⟨G, 0, none⟩) n c) n (wcells ws)) : ∀ j x, ws[j]? = some x → w.cell? ⟨G, j * 2, none⟩ = some (.int .i64 x.size) ∧ w.cell? ⟨G, j * 2 + 1, none⟩ = some (.func (.func x.fn) #[] x.caps) := by
  intro j x hj
  have h2 := wcells_at ws j x hj
  have c0 := h.cells (g := G) rfl (j * 2) _ h2.1
  have c1 := h.cells (g := G) rfl (j * 2 + 1) _ h2.2
  rw [Go.WideShapes.add_plain] at c0 c1
  rw [Nat.zero_add] at c0 c1
  exact ⟨c0, c1⟩
/-- What the cheapest way is. -/
def Cheap (S : Nat → Prop) (K : Nat) (last : Bool) (its : List It) (fl fd : List Int) (ext level sn : Nat) (lo : Nat) (x : Wy) (w' : World) : Prop :=
  x.size ≤ (sn : Int) ∧ ((x.size = (sn : Int) ∧ StoredW lo K x w') ∨ (1 ≤ level ∧ x.size = 3 + costR fl fixLit + costR fd fixDist + ext ∧ CodedW S lo w'.heap.size K 1 last [] fixLit fixDist its x w') ∨ ∃ (zl zd : List Int) (head : List Fd), 2 ≤ level ∧ DynOf fl fd zl zd head ∧ x.size = 3 + costR fl zl + costR fd zd + ext + widF head ∧ CodedW S lo w'.heap.size K 2 last head zl zd its x w')
/-- The rest of a walk, put by. -/
@[irreducible] def wpLater (P : Program) (ops : Array Oper) (Q : Exit → Act → World → Prop) (l : List Oper) (a : Act) (w : World) : Prop := wpList P ops Q l a w
theorem wpList_later {P : Program} {ops : Array Oper} {Q : Exit → Act → World → Prop} {l : List Oper} {a : Act} {w : World} (h : wpLater P ops Q l a w) : wpList P ops Q l a w := by unfold wpLater at h; exact h
theorem wpLater_now {P : Program} {ops : Array Oper} {Q : Exit → Act → World → Prop} {l : List Oper} {a : Act} {w : World} (h : wpList P ops Q l a w) : wpLater P ops Q l a w := by unfold wpLater; exact h
/-- The result's own cell is set: the way stays. -/
theorem cheap_set {S : Nat → Prop} {K : Nat} {last : Bool} {its : List It} {fl fd : List Int} {ext level sn n : Nat} {x : Wy} {w6 : World} {v0 v1 : Value} (hS : ∀ k, S k → k < n) (h : Cheap S K last its fl fd ext level sn (n + 1) x w6) : Cheap S K last its fl fd ext level sn n x ((w6.setCell ⟨n, 0, none⟩ v0).setCell ⟨n, 1, none⟩ v1) := by
  have hk : Kept (fun k => k ≠ n) w6 ((w6.setCell ⟨n, 0, none⟩ v0).setCell ⟨n, 1, none⟩ v1) := ((Kept.refl _ w6).setCell (p := ⟨n, 0, none⟩) (by simp) v0).setCell (p := ⟨n, 1, none⟩) (by simp) v1
  have hk2 : Kept (fun k => S k ∨ (n + 1 ≤ k ∧ k < w6.heap.size)) w6 ((w6.setCell ⟨n, 0, none⟩ v0).setCell ⟨n, 1, none⟩ v1) := hk.mono (by
    rintro k (h | h)
    · have := hS k h; show k ≠ n; omega
    · show k ≠ n; omega)
  refine ⟨h.1, h.2.imp ?_ (Or.imp ?_ ?_)⟩
  · rintro ⟨e, B, h1, h2, h3, h4, h5⟩
    exact ⟨e, B, h1, h2, by omega, Nat.lt_of_lt_of_le h4 hk.size, (hk.cell (p := ⟨B, 0, none⟩) (by show B ≠ n; omega)).trans h5⟩
  · rintro ⟨h1, h2, h3⟩
    exact ⟨h1, h2, (h3.kept hk2).lo (by omega) hk.size⟩
  · rintro ⟨zl, zd, head, h1, h2, h3, h4⟩
    exact ⟨zl, zd, head, h1, h2, h3, (h4.kept hk2).lo (by omega) hk.size⟩

set_option maxRecDepth 100000 in
set_option maxHeartbeats 4000000 in
theorem cheapest1_any (S : Nat → Prop) (K at' : Nat) (a : Option Addr) (len cap : Nat) (last : Bool) (its : List It) (fl fd : List Int) (ext : Nat) (w : World) (hS : ∀ k, S k → k < w.heap.size) (hB : BlkAt S w K (.slice a len cap) last its fl fd ext) (hO : OrdAt w) (hat : at' < 140737488355328) (hl : len < 140737488355328) :
    Calls Tryd.prog 20 #[.pointer (some ⟨K, 0, none⟩), .int .i64 1, .int .i64 (at' : Int)] w fun e w' => ∃ x : Wy, e = .returned (.agg #[.int .i64 x.size, .func (.func x.fn) #[] x.caps]) ∧ Cheap S K last its fl fd ext 1 (storedN at' len) w.heap.size x w' ∧ Below w.heap.size w w' := by
  obtain ⟨i58, hi58, hz0, hz1, hz2⟩ := info_parts Tryd.info58
  have HBK : Hid (BlkAt S w K (.slice a len cap) last its fl fd ext) := hB
  have HOW : Hid (OrdAt w) := hO
  clear hB hO
  generalize hw0 : w.alloc (.cells #[.int .i64 0, .nilFunc] 58) = w0
  have hb0 : Below w.heap.size w w0 := by subst hw0; exact (Below.refl _ w).alloc (Nat.le_refl _) _
  have r0 : Row w0 w.heap.size 58 #[.int .i64 0, .nilFunc] := by subst hw0; exact Row.new w 58 _
  have z0 := r0.lt
  have hk0 : w0.cell? ⟨K, 0, none⟩ = some (.slice a len cap) := by
    obtain ⟨⟨ia, ic, LB, DB, g1, _⟩, _⟩ := HBK.out.kept (Kept.of_below hb0 hS)
    exact g1.cell rfl
  have H1 : Hid (Calls Tryd.prog 35 #[.pointer (some ⟨K, 0, none⟩), .int .i64 (at' : Int)] w0 _) := stored_any K at' a len cap w0 hk0 hat hl
  obtain ⟨sn, HSN⟩ : ∃ sn, Hid (storedN at' len = sn) := ⟨_, rfl⟩
  rw [HSN.out] at H1 ⊢
  clear hk0
  go_enter Tryd.func20, Tryd.ntmps20
  go_wp2_with fail
  clear hw0
  refine H1.out.mono ?_
  clear H1
  rintro e w1 ⟨B, rfl, hB1, hB2, hB3, hb1⟩
  have s1 := hb1.size
  generalize hw2 : w1.alloc (.cells #[.int .i64 (sn : Int), .func (.func 51) #[] #[.pointer (some ⟨B, 0, none⟩)]] 58) = w2
  have hb12 : Below w1.heap.size w1 w2 := by subst hw2; exact (Below.refl _ w1).alloc (Nat.le_refl _) _
  have o2 : w2.ownsRow w.heap.size 58 2 (.slice (some ⟨w1.heap.size, 0, none⟩) 1 1) 1 (wcells [⟨sn, 51, #[.pointer (some ⟨B, 0, none⟩)]⟩]) := by
    subst hw2
    exact ⟨rfl, .inr ⟨w1.heap.size, 1, _, rfl, by omega, World.alloc_heap_new w1 _, Nat.le_refl _, by unfold maxLen; omega, rfl, rfl⟩⟩
  have z2 : w2.heap.size = w1.heap.size + 1 := by subst hw2; simp
  have HZ2 : Hid (w2.heap.size = w1.heap.size + 1) := z2
  clear z2
  have hs2 : w1.heap.size < w2.heap.size := by have := HZ2.out; omega
  have hb02 : Below w.heap.size w w2 := hb0.trans ((hb1.mono (by omega)).trans (hb12.mono (by omega)))
  have hSw2 : ∀ k, S k → k < w2.heap.size := fun k h => by have := hS k h; omega
  have HB2 : Hid (BlkAt S w2 K (.slice a len cap) last its fl fd ext) := HBK.out.kept (Kept.of_below hb02 hS)
  have r2 : Row w2 w.heap.size 58 #[.int .i64 0, .nilFunc] := (r0.below hb1 z0).below hb12 (by omega)
  have cB2 : w2.cell? ⟨B, 0, none⟩ = some (.pointer (some ⟨K, 0, none⟩)) := (hb12.cell (p := ⟨B, 0, none⟩) hB2).trans hB3
  obtain ⟨sf, HSF⟩ : ∃ sf : Int, Hid (sf = 3 + costR fl fixLit + costR fd fixDist + ext) := ⟨_, rfl⟩
  have H2 : Hid (Calls Tryd.prog 36 #[.pointer (some ⟨K, 0, none⟩)] w2 _) := fixed_any S K _ last its fl fd ext sf HSF.out w2 hSw2 HB2.out
  clear r0 hb1 hb12 hB3 hb0
  go_wp2_with fail
  clear hw2
  refine H2.out.mono ?_
  clear H2
  rintro e w3 ⟨vf, rfl, hvf⟩
  obtain ⟨⟨xs, xf, xc⟩, rfl, hxs, hCf, hb3⟩ := codedW_of hvf
  have HSX : Hid (xs = sf) := hxs
  clear hvf hxs
  have s3 := hb3.size
  generalize hw4 : w3.alloc (.cells #[.int .i64 xs, .func (.func xf) #[] xc] 58) = w4
  have hb34 : Below w3.heap.size w3 w4 := by subst hw4; exact (Below.refl _ w3).alloc (Nat.le_refl _) _
  have o4 : w4.ownsRow w.heap.size 58 2 (.slice (some ⟨w1.heap.size, 0, none⟩) 1 1) 1 (wcells [⟨sn, 51, #[.pointer (some ⟨B, 0, none⟩)]⟩]) := owns_kept (S := fun k => k < w2.heap.size) o2 ((Kept.of_below hb3 (fun _ h => h)).trans (Kept.of_below hb34 (fun k (h : k < _) => by omega))) (fun k hk => (o2.lt k hk).2)
  have HNW : Hid (∀ (j : Nat) (u : Value), (wcells [⟨xs, xf, xc⟩])[j]? = some u → w4.cell? ((⟨w3.heap.size, 0, none⟩ : Addr).add j) = some u) := by
    intro j u hu
    subst hw4
    have hR := Row.new w3 58 #[.int .i64 xs, .func (.func xf) #[] xc]
    have h := hR.cell (i := j) (v := u) (by simpa [wcells] using hu)
    rw [Go.WideShapes.add_plain]
    simpa using h
  have hcf4 : CodedW S w2.heap.size w3.heap.size K 1 last [] fixLit fixDist its ⟨xs, xf, xc⟩ w4 := hCf.kept (Kept.of_below hb34 (by
    rintro k (h | h)
    · have := hSw2 k h; omega
    · omega))
  have r4 : Row w4 w.heap.size 58 #[.int .i64 0, .nilFunc] := (r2.below hb3 (by omega)).below hb34 (by omega)
  have cB4 : w4.cell? ⟨B, 0, none⟩ = some (.pointer (some ⟨K, 0, none⟩)) := (hb34.cell (p := ⟨B, 0, none⟩) (by show B < _; omega)).trans ((hb3.cell (p := ⟨B, 0, none⟩) (by show B < _; omega)).trans cB2)
  have hb04 : Below w.heap.size w w4 := hb02.trans ((hb3.mono (by omega)).trans (hb34.mono (by omega)))
  have s4 := hb34.size
  clear hCf hb3 hb34 o2 r2 cB2 hb02
  go_wp2_with (at_builtin; refine wpList_later ?_)
  refine wpLater_now ?_
  refine (wpList_append_own2 _ rfl (.tmp 14) (.tmp 17) 87 rfl w.heap.size 58 i58 (.agg #[.int .i64 0, .nilFunc]) 2 16 Tryd.underlying87 hi58 hz0 hz1 hz2 rfl (by decide) _ _ _ rfl o4 ⟨w3.heap.size, 0, none⟩ 1 1 (wcells [⟨xs, xf, xc⟩]) rfl rfl HNW.out (wcells_one _) (by unfold maxLen; omega) (by omega) (by omega) ?_)
  clear hw4
  intro v5 w5 o5 hg5 hblk5
  obtain ⟨G5, c5, rfl⟩ := ownsRow_succ o5
  have s5 := hg5.size
  have hG5' : G5 = w1.heap.size ∨ w4.heap.size ≤ G5 := by
    rcases hblk5 G5 rfl with h | h
    · exact .inl (Option.some.inj (show some w1.heap.size = some G5 from h)).symm
    · exact .inr h
  have hkg : Kept (fun k => k ≠ w1.heap.size ∧ k < w4.heap.size) w4 w5 := ⟨hg5.os, hg5.tape, hg5.output, hg5.size, fun k hk => hg5.block k hk.2 (fun e => hk.1 (Option.some.inj (show some k = some w1.heap.size from e)))⟩
  have r5 : Row w5 w.heap.size 58 #[.int .i64 0, .nilFunc] := r4.kept hkg ⟨by omega, r4.lt⟩
  have cB5 : w5.cell? ⟨B, 0, none⟩ = some (.pointer (some ⟨K, 0, none⟩)) := (hkg.cell (p := ⟨B, 0, none⟩) ⟨by show B ≠ _; omega, by show B < _; omega⟩).trans cB4
  have hcf5 : CodedW S w2.heap.size w3.heap.size K 1 last [] fixLit fixDist its ⟨xs, xf, xc⟩ w5 := hcf4.kept (hkg.mono (by
    rintro k (h | h)
    · have := hS k h; exact ⟨by omega, by omega⟩
    · exact ⟨by omega, by omega⟩))
  have hb05 : Below w.heap.size w w5 := hb04.trans ((hkg.mono (fun k (h : k < w.heap.size) => ⟨by omega, by omega⟩)).below (fun _ h => h))
  have o5' : w5.ownsRow w.heap.size 58 2 (.slice (some ⟨G5, 0, none⟩) 2 c5) 2 (wcells [⟨sn, 51, #[.pointer (some ⟨B, 0, none⟩)]⟩, ⟨xs, xf, xc⟩]) := o5
  clear o4 o5 HNW hg5 hblk5 hkg r4 cB4 hcf4 hb04
  have hm : Hid (Calls Tryd.prog 38 #[.slice (some ⟨G5, 0, none⟩) 2 c5, .func (.func 39) #[] #[]] w5 _) := minF_any G5 c5 [⟨sn, 51, #[.pointer (some ⟨B, 0, none⟩)]⟩, ⟨xs, xf, xc⟩] w5 (by simp) (by simp) (wy_cells o5')
  clear o5'
  go_wp2_with fail
  refine hm.out.mono ?_
  clear hm
  rintro e w6 ⟨x, hx, rfl, hmin, hb6⟩
  have hsn := hmin ⟨sn, 51, #[.pointer (some ⟨B, 0, none⟩)]⟩ (by simp)
  simp only at hsn
  have s6 := hb6.size
  have r6 := r5.below hb6 r5.lt
  have HCH : Hid (Cheap S K last its fl fd ext 1 sn (w.heap.size + 1) x w6) := by
    refine ⟨hsn, ?_⟩
    simp only [List.mem_cons, List.not_mem_nil, or_false] at hx
    rcases hx with rfl | rfl
    · exact .inl ⟨rfl, B, rfl, rfl, by omega, by omega, (hb6.cell (p := ⟨B, 0, none⟩) (by show B < _; omega)).trans cB5⟩
    · exact .inr (.inl ⟨Nat.le_refl _, by rw [show xs = sf from HSX.out, show sf = _ from HSF.out], (hcf5.kept (Kept.of_below hb6 (by
        rintro k (h | h)
        · have := hSw2 k h; omega
        · omega))).lo (by omega) (by omega)⟩)
  have HBE : Hid (Below w.heap.size w w6) := hb05.trans (hb6.mono (by omega))
  have hW6 := w6
  clear hW6 hx hmin hsn hb6 r5 cB5 hcf5 hb05
  obtain ⟨xs', xf', xc'⟩ := x
  simp only [Wy.val]
  have d0 := r6.cell (i := 0) rfl
  have d1 := r6.cell (i := 1) rfl
  have f0 := r6.frozen 0
  have f1 := r6.frozen 1
  go_wp2
  have hRe := (r6.set 0 (.int .i64 xs')).set 1 (.func (.func xf') #[] xc')
  refine bodyPost_ret (results_cell_row rfl _ _ w.heap.size 58 _ (0, 0) _ rfl hRe Tryd.underlying58 rfl (by kernel_rfl)) rfl ⟨⟨xs', xf', xc'⟩, rfl, ?_, ?_⟩
  · exact cheap_set hS HCH.out
  · have hk : Kept (fun q => q < w.heap.size) w _ := ((Kept.of_below (S := fun q => q < w.heap.size) HBE.out (fun _ h => h)).setCell (p := ⟨w.heap.size, 0, none⟩) (by show ¬ w.heap.size < w.heap.size; omega) (.int .i64 xs')).setCell (p := ⟨w.heap.size, 1, none⟩) (by show ¬ w.heap.size < w.heap.size; omega) (.func (.func xf') #[] xc')
    exact hk.below (fun _ h => h)

set_option maxRecDepth 100000 in
set_option maxHeartbeats 4000000 in
theorem cheapest2_any (S : Nat → Prop) (K at' : Nat) (a : Option Addr) (len cap : Nat) (last : Bool) (its : List It) (fl fd : List Int) (ext : Nat) (w : World) (hS : ∀ k, S k → k < w.heap.size) (hB : BlkAt S w K (.slice a len cap) last its fl fd ext) (hO : OrdAt w) (hat : at' < 140737488355328) (hl : len < 140737488355328) :
    Calls Tryd.prog 20 #[.pointer (some ⟨K, 0, none⟩), .int .i64 2, .int .i64 (at' : Int)] w fun e w' => ∃ x : Wy, e = .returned (.agg #[.int .i64 x.size, .func (.func x.fn) #[] x.caps]) ∧ Cheap S K last its fl fd ext 2 (storedN at' len) w.heap.size x w' ∧ Below w.heap.size w w' := by
  obtain ⟨i58, hi58, hz0, hz1, hz2⟩ := info_parts Tryd.info58
  have HBK : Hid (BlkAt S w K (.slice a len cap) last its fl fd ext) := hB
  have HOW : Hid (OrdAt w) := hO
  clear hB hO
  generalize hw0 : w.alloc (.cells #[.int .i64 0, .nilFunc] 58) = w0
  have hb0 : Below w.heap.size w w0 := by subst hw0; exact (Below.refl _ w).alloc (Nat.le_refl _) _
  have r0 : Row w0 w.heap.size 58 #[.int .i64 0, .nilFunc] := by subst hw0; exact Row.new w 58 _
  have z0 := r0.lt
  have hk0 : w0.cell? ⟨K, 0, none⟩ = some (.slice a len cap) := by
    obtain ⟨⟨ia, ic, LB, DB, g1, _⟩, _⟩ := HBK.out.kept (Kept.of_below hb0 hS)
    exact g1.cell rfl
  have H1 : Hid (Calls Tryd.prog 35 #[.pointer (some ⟨K, 0, none⟩), .int .i64 (at' : Int)] w0 _) := stored_any K at' a len cap w0 hk0 hat hl
  obtain ⟨sn, HSN⟩ : ∃ sn, Hid (storedN at' len = sn) := ⟨_, rfl⟩
  rw [HSN.out] at H1 ⊢
  clear hk0
  go_enter Tryd.func20, Tryd.ntmps20
  go_wp2_with fail
  clear hw0
  refine H1.out.mono ?_
  clear H1
  rintro e w1 ⟨B, rfl, hB1, hB2, hB3, hb1⟩
  have s1 := hb1.size
  generalize hw2 : w1.alloc (.cells #[.int .i64 (sn : Int), .func (.func 51) #[] #[.pointer (some ⟨B, 0, none⟩)]] 58) = w2
  have hb12 : Below w1.heap.size w1 w2 := by subst hw2; exact (Below.refl _ w1).alloc (Nat.le_refl _) _
  have o2 : w2.ownsRow w.heap.size 58 2 (.slice (some ⟨w1.heap.size, 0, none⟩) 1 1) 1 (wcells [⟨sn, 51, #[.pointer (some ⟨B, 0, none⟩)]⟩]) := by
    subst hw2
    exact ⟨rfl, .inr ⟨w1.heap.size, 1, _, rfl, by omega, World.alloc_heap_new w1 _, Nat.le_refl _, by unfold maxLen; omega, rfl, rfl⟩⟩
  have z2 : w2.heap.size = w1.heap.size + 1 := by subst hw2; simp
  have HZ2 : Hid (w2.heap.size = w1.heap.size + 1) := z2
  clear z2
  have hs2 : w1.heap.size < w2.heap.size := by have := HZ2.out; omega
  have hb02 : Below w.heap.size w w2 := hb0.trans ((hb1.mono (by omega)).trans (hb12.mono (by omega)))
  have hSw2 : ∀ k, S k → k < w2.heap.size := fun k h => by have := hS k h; omega
  have HB2 : Hid (BlkAt S w2 K (.slice a len cap) last its fl fd ext) := HBK.out.kept (Kept.of_below hb02 hS)
  have r2 : Row w2 w.heap.size 58 #[.int .i64 0, .nilFunc] := (r0.below hb1 z0).below hb12 (by omega)
  have cB2 : w2.cell? ⟨B, 0, none⟩ = some (.pointer (some ⟨K, 0, none⟩)) := (hb12.cell (p := ⟨B, 0, none⟩) hB2).trans hB3
  obtain ⟨sf, HSF⟩ : ∃ sf : Int, Hid (sf = 3 + costR fl fixLit + costR fd fixDist + ext) := ⟨_, rfl⟩
  have H2 : Hid (Calls Tryd.prog 36 #[.pointer (some ⟨K, 0, none⟩)] w2 _) := fixed_any S K _ last its fl fd ext sf HSF.out w2 hSw2 HB2.out
  clear r0 hb1 hb12 hB3 hb0
  go_wp2_with fail
  clear hw2
  refine H2.out.mono ?_
  clear H2
  rintro e w3 ⟨vf, rfl, hvf⟩
  obtain ⟨⟨xs, xf, xc⟩, rfl, hxs, hCf, hb3⟩ := codedW_of hvf
  have HSX : Hid (xs = sf) := hxs
  clear hvf hxs
  have s3 := hb3.size
  generalize hw4 : w3.alloc (.cells #[.int .i64 xs, .func (.func xf) #[] xc] 58) = w4
  have hb34 : Below w3.heap.size w3 w4 := by subst hw4; exact (Below.refl _ w3).alloc (Nat.le_refl _) _
  have o4 : w4.ownsRow w.heap.size 58 2 (.slice (some ⟨w1.heap.size, 0, none⟩) 1 1) 1 (wcells [⟨sn, 51, #[.pointer (some ⟨B, 0, none⟩)]⟩]) := owns_kept (S := fun k => k < w2.heap.size) o2 ((Kept.of_below hb3 (fun _ h => h)).trans (Kept.of_below hb34 (fun k (h : k < _) => by omega))) (fun k hk => (o2.lt k hk).2)
  have HNW : Hid (∀ (j : Nat) (u : Value), (wcells [⟨xs, xf, xc⟩])[j]? = some u → w4.cell? ((⟨w3.heap.size, 0, none⟩ : Addr).add j) = some u) := by
    intro j u hu
    subst hw4
    have hR := Row.new w3 58 #[.int .i64 xs, .func (.func xf) #[] xc]
    have h := hR.cell (i := j) (v := u) (by simpa [wcells] using hu)
    rw [Go.WideShapes.add_plain]
    simpa using h
  have hcf4 : CodedW S w2.heap.size w3.heap.size K 1 last [] fixLit fixDist its ⟨xs, xf, xc⟩ w4 := hCf.kept (Kept.of_below hb34 (by
    rintro k (h | h)
    · have := hSw2 k h; omega
    · omega))
  have r4 : Row w4 w.heap.size 58 #[.int .i64 0, .nilFunc] := (r2.below hb3 (by omega)).below hb34 (by omega)
  have cB4 : w4.cell? ⟨B, 0, none⟩ = some (.pointer (some ⟨K, 0, none⟩)) := (hb34.cell (p := ⟨B, 0, none⟩) (by show B < _; omega)).trans ((hb3.cell (p := ⟨B, 0, none⟩) (by show B < _; omega)).trans cB2)
  have hb04 : Below w.heap.size w w4 := hb02.trans ((hb3.mono (by omega)).trans (hb34.mono (by omega)))
  have s4 := hb34.size
  clear hCf hb3 hb34 o2 r2 cB2 hb02
  go_wp2_with (at_builtin; refine wpList_later ?_)
  refine wpLater_now ?_
  refine (wpList_append_own2 _ rfl (.tmp 14) (.tmp 17) 87 rfl w.heap.size 58 i58 (.agg #[.int .i64 0, .nilFunc]) 2 16 Tryd.underlying87 hi58 hz0 hz1 hz2 rfl (by decide) _ _ _ rfl o4 ⟨w3.heap.size, 0, none⟩ 1 1 (wcells [⟨xs, xf, xc⟩]) rfl rfl HNW.out (wcells_one _) (by unfold maxLen; omega) (by omega) (by omega) ?_)
  clear hw4
  intro v5 w5 o5 hg5 hblk5
  obtain ⟨G5, c5, rfl⟩ := ownsRow_succ o5
  have s5 := hg5.size
  have hG5' : G5 = w1.heap.size ∨ w4.heap.size ≤ G5 := by
    rcases hblk5 G5 rfl with h | h
    · exact .inl (Option.some.inj (show some w1.heap.size = some G5 from h)).symm
    · exact .inr h
  have hkg : Kept (fun k => k ≠ w1.heap.size ∧ k < w4.heap.size) w4 w5 := ⟨hg5.os, hg5.tape, hg5.output, hg5.size, fun k hk => hg5.block k hk.2 (fun e => hk.1 (Option.some.inj (show some k = some w1.heap.size from e)))⟩
  have r5 : Row w5 w.heap.size 58 #[.int .i64 0, .nilFunc] := r4.kept hkg ⟨by omega, r4.lt⟩
  have cB5 : w5.cell? ⟨B, 0, none⟩ = some (.pointer (some ⟨K, 0, none⟩)) := (hkg.cell (p := ⟨B, 0, none⟩) ⟨by show B ≠ _; omega, by show B < _; omega⟩).trans cB4
  have hcf5 : CodedW S w2.heap.size w3.heap.size K 1 last [] fixLit fixDist its ⟨xs, xf, xc⟩ w5 := hcf4.kept (hkg.mono (by
    rintro k (h | h)
    · have := hS k h; exact ⟨by omega, by omega⟩
    · exact ⟨by omega, by omega⟩))
  have hb05 : Below w.heap.size w w5 := hb04.trans ((hkg.mono (fun k (h : k < w.heap.size) => ⟨by omega, by omega⟩)).below (fun _ h => h))
  have o5' : w5.ownsRow w.heap.size 58 2 (.slice (some ⟨G5, 0, none⟩) 2 c5) 2 (wcells [⟨sn, 51, #[.pointer (some ⟨B, 0, none⟩)]⟩, ⟨xs, xf, xc⟩]) := o5
  clear o4 o5 HNW hg5 hblk5 hkg r4 cB4 hcf4 hb04
  have H3 : Hid (Calls Tryd.prog 37 #[.pointer (some ⟨K, 0, none⟩)] w5 _) := dynamic_any S K _ last its fl fd ext w5 (fun k h => by have := hS k h; omega) (HBK.out.kept (Kept.of_below hb05 hS)) (HOW.out.kept (Kept.of_below (S := fun k => k < w.heap.size) hb05 (fun _ h => h)) HOW.out.1)
  go_wp2_with fail
  refine H3.out.mono ?_
  clear H3
  rintro e w7 ⟨vd, zl, zd, head, rfl, hDO, hvd⟩
  obtain ⟨⟨ys, yf, yc⟩, rfl, hys, hCd, hb7⟩ := codedW_of hvd
  obtain ⟨sd, HSD⟩ : ∃ sd : Int, Hid (3 + costR fl zl + costR fd zd + ext + widF head = sd) := ⟨_, rfl⟩
  have HSY : Hid (ys = sd) := hys.trans HSD.out
  clear hvd hys
  have s7 := hb7.size
  generalize hw8 : w7.alloc (.cells #[.int .i64 ys, .func (.func yf) #[] yc] 58) = w8
  have hb78 : Below w7.heap.size w7 w8 := by subst hw8; exact (Below.refl _ w7).alloc (Nat.le_refl _) _
  have s8 := hb78.size
  have hb58 : Below w5.heap.size w5 w8 := hb7.trans (hb78.mono s7)
  have o8 : w8.ownsRow w.heap.size 58 2 (.slice (some ⟨G5, 0, none⟩) 2 c5) 2 (wcells [⟨sn, 51, #[.pointer (some ⟨B, 0, none⟩)]⟩, ⟨xs, xf, xc⟩]) := owns_kept (S := fun k => k < w5.heap.size) o5' (Kept.of_below hb58 (fun _ h => h)) (fun k hk => (o5'.lt k hk).2)
  have hG5 : w.heap.size ≤ G5 ∧ G5 < w5.heap.size := o5'.lt G5 (by simp [Value.ownBlock])
  have HNW : Hid (∀ (j : Nat) (u : Value), (wcells [⟨ys, yf, yc⟩])[j]? = some u → w8.cell? ((⟨w7.heap.size, 0, none⟩ : Addr).add j) = some u) := by
    intro j u hu
    subst hw8
    have hR := Row.new w7 58 #[.int .i64 ys, .func (.func yf) #[] yc]
    have h := hR.cell (i := j) (v := u) (by simpa [wcells] using hu)
    rw [Go.WideShapes.add_plain]
    simpa using h
  have hSw5 : ∀ k, S k → k < w5.heap.size := fun k h => by have := hS k h; omega
  have hcd8 : CodedW S w5.heap.size w7.heap.size K 2 last head zl zd its ⟨ys, yf, yc⟩ w8 := hCd.kept (Kept.of_below hb78 (by
    rintro k (h | h)
    · have := hSw5 k h; omega
    · omega))
  have hcf8 : CodedW S w2.heap.size w3.heap.size K 1 last [] fixLit fixDist its ⟨xs, xf, xc⟩ w8 := hcf5.kept (Kept.of_below hb58 (by
    rintro k (h | h)
    · exact hSw5 k h
    · omega))
  have r8 : Row w8 w.heap.size 58 #[.int .i64 0, .nilFunc] := r5.below hb58 r5.lt
  have cB8 : w8.cell? ⟨B, 0, none⟩ = some (.pointer (some ⟨K, 0, none⟩)) := (hb58.cell (p := ⟨B, 0, none⟩) (by show B < _; omega)).trans cB5
  have hb08 : Below w.heap.size w w8 := hb05.trans (hb58.mono (by omega))
  clear hCd hb7 hb78 hb58 o5' r5 cB5 hcf5 hb05
  go_wp2_with (at_builtin; refine wpList_later ?_)
  refine wpLater_now ?_
  refine (wpList_append_own2 _ rfl (.tmp 21) (.tmp 24) 87 rfl w.heap.size 58 i58 (.agg #[.int .i64 0, .nilFunc]) 2 16 Tryd.underlying87 hi58 hz0 hz1 hz2 rfl (by decide) _ _ _ rfl o8 ⟨w7.heap.size, 0, none⟩ 1 1 (wcells [⟨ys, yf, yc⟩]) rfl rfl HNW.out (wcells_one _) (by unfold maxLen; omega) (by omega) (by omega) ?_)
  clear hw8
  intro v9 w9 o9 hg9 hblk9
  obtain ⟨G9, c9, rfl⟩ := ownsRow_succ o9
  have s9 := hg9.size
  have hkg : Kept (fun k => k ≠ G5 ∧ k < w8.heap.size) w8 w9 := ⟨hg9.os, hg9.tape, hg9.output, hg9.size, fun k hk => hg9.block k hk.2 (fun e => hk.1 (Option.some.inj (show some k = some G5 from e)))⟩
  have r9 : Row w9 w.heap.size 58 #[.int .i64 0, .nilFunc] := r8.kept hkg ⟨by omega, r8.lt⟩
  have cB9 : w9.cell? ⟨B, 0, none⟩ = some (.pointer (some ⟨K, 0, none⟩)) := (hkg.cell (p := ⟨B, 0, none⟩) ⟨by show B ≠ _; omega, by show B < _; omega⟩).trans cB8
  have hcf9 : CodedW S w2.heap.size w3.heap.size K 1 last [] fixLit fixDist its ⟨xs, xf, xc⟩ w9 := hcf8.kept (hkg.mono (by
    rintro k (h | h)
    · have := hS k h; exact ⟨by omega, by omega⟩
    · exact ⟨by omega, by omega⟩))
  have hcd9 : CodedW S w5.heap.size w7.heap.size K 2 last head zl zd its ⟨ys, yf, yc⟩ w9 := hcd8.kept (hkg.mono (by
    rintro k (h | h)
    · have := hS k h; exact ⟨by omega, by omega⟩
    · exact ⟨by omega, by omega⟩))
  have hb09 : Below w.heap.size w w9 := hb08.trans ((hkg.mono (fun k (h : k < w.heap.size) => ⟨by omega, by omega⟩)).below (fun _ h => h))
  have o9' : w9.ownsRow w.heap.size 58 2 (.slice (some ⟨G9, 0, none⟩) 3 c9) 3 (wcells [⟨sn, 51, #[.pointer (some ⟨B, 0, none⟩)]⟩, ⟨xs, xf, xc⟩, ⟨ys, yf, yc⟩]) := o9
  clear o8 o9 HNW hg9 hblk9 hkg r8 cB8 hcf8 hcd8 hb08
  have hm : Hid (Calls Tryd.prog 38 #[.slice (some ⟨G9, 0, none⟩) 3 c9, .func (.func 39) #[] #[]] w9 _) := minF_any G9 c9 [⟨sn, 51, #[.pointer (some ⟨B, 0, none⟩)]⟩, ⟨xs, xf, xc⟩, ⟨ys, yf, yc⟩] w9 (by simp) (by simp) (wy_cells o9')
  clear o9'
  go_wp2_with fail
  refine hm.out.mono ?_
  clear hm
  rintro e w6 ⟨x, hx, rfl, hmin, hb6⟩
  have hsn := hmin ⟨sn, 51, #[.pointer (some ⟨B, 0, none⟩)]⟩ (by simp)
  simp only at hsn
  have s6 := hb6.size
  have r6 := r9.below hb6 r9.lt
  have HCH : Hid (Cheap S K last its fl fd ext 2 sn (w.heap.size + 1) x w6) := by
    refine ⟨hsn, ?_⟩
    simp only [List.mem_cons, List.not_mem_nil, or_false] at hx
    rcases hx with rfl | rfl | rfl
    · exact .inl ⟨rfl, B, rfl, rfl, by omega, by omega, (hb6.cell (p := ⟨B, 0, none⟩) (by show B < _; omega)).trans cB9⟩
    · exact .inr (.inl ⟨by omega, by rw [show xs = sf from HSX.out, show sf = _ from HSF.out], (hcf9.kept (Kept.of_below hb6 (by
        rintro k (h | h)
        · have := hS k h; omega
        · omega))).lo (by omega) (by omega)⟩)
    · exact .inr (.inr ⟨zl, zd, head, Nat.le_refl _, hDO, by rw [show ys = sd from HSY.out, ← HSD.out], (hcd9.kept (Kept.of_below hb6 (by
        rintro k (h | h)
        · have := hS k h; omega
        · omega))).lo (by omega) (by omega)⟩)
  have HBE : Hid (Below w.heap.size w w6) := hb09.trans (hb6.mono (by omega))
  clear hx hmin hsn hb6 r9 cB9 hcf9 hcd9 hb09
  obtain ⟨xs', xf', xc'⟩ := x
  simp only [Wy.val]
  have d0 := r6.cell (i := 0) rfl
  have d1 := r6.cell (i := 1) rfl
  have f0 := r6.frozen 0
  have f1 := r6.frozen 1
  go_wp2
  have hRe := (r6.set 0 (.int .i64 xs')).set 1 (.func (.func xf') #[] xc')
  refine bodyPost_ret (results_cell_row rfl _ _ w.heap.size 58 _ (0, 0) _ rfl hRe Tryd.underlying58 rfl (by kernel_rfl)) rfl ⟨⟨xs', xf', xc'⟩, rfl, ?_, ?_⟩
  · exact cheap_set hS HCH.out
  · have hk : Kept (fun q => q < w.heap.size) w _ := ((Kept.of_below (S := fun q => q < w.heap.size) HBE.out (fun _ h => h)).setCell (p := ⟨w.heap.size, 0, none⟩) (by show ¬ w.heap.size < w.heap.size; omega) (.int .i64 xs')).setCell (p := ⟨w.heap.size, 1, none⟩) (by show ¬ w.heap.size < w.heap.size; omega) (.func (.func xf') #[] xc')
    exact hk.below (fun _ h => h)
end Go.Proofs.YtinbilbgipfemaaDoor
