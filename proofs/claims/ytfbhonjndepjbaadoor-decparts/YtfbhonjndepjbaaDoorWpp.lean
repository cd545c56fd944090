import Derived.Test.YtfbhonjndepjbaaDoorWpr
/- Print of 0.005. -/
namespace Go.Proofs.YtfbhonjndepjbaaDoor
open Go.RowKit Go.Shelf

attribute [local go_sem] Oper.semAt_some

theorem Tryd.info5 : (Tryd.prog.info? 5).map (fun i => (i.zero, i.size, i.bytes)) = some (some (.int .u8 0), 1, 1) := by kernel_rfl
theorem decW5 : decW 5 (-3) = ⟨false, 5, -3⟩ := by
  unfold decW shortW numW; rw [if_neg (by decide), show ((5 : Int)).natAbs = 5 from rfl, strip_fix 5 (-3) (by decide)]; rfl
def outB : List (Int × Int) → List Int
  | [] => []
  | x :: xs => (if x.1 = -1 then [46] else []) ++ [x.2] ++ outB xs
def PrI (N O DB : Nat) (w0 : World) (pre : List (Int × Int)) (own : Nat → Prop) (V : World) : Prop :=
  ∃ v, Below N w0 V ∧ Row V O 86 #[v] ∧ Row V DB 59 boxD ∧ V.ownsRow N 5 1 v (outB pre).length ((outB pre).map (Value.int .u8)) ∧ own = fun k => k = O ∨ v.ownBlock = some k
set_option maxRecDepth 100000 in
set_option maxHeartbeats 1000000 in
theorem digits_call (n : Nat) (w : World) : CallsIn Fence.wide n Tryd.prog 75 #[.agg boxD] w fun e w' => e = .returned (.func (.func 95) #[] #[.pointer (some ⟨w.heap.size, 0, none⟩)]) ∧ w' = w.alloc (.cells boxD 59) := by
  refine callsIn_wide.2 ?_
  unfold boxD
  go_enter Tryd.func75, Tryd.ntmps75
  go_wp2
  go_ret
  exact ⟨rfl, rfl⟩
set_option maxRecDepth 100000 in
set_option maxHeartbeats 1000000 in
theorem print5_in (w : World) : CallsIn Fence.wide 8 Tryd.prog 40 #[dv 5 (-3)] w fun e w' => e = .returned (.string ⟨#[48, 46, 48, 48, 53]⟩) ∧ Below w.heap.size w w' := by
  unfold dv
  refine callsIn_of_wp_marks Tryd.func40 rfl trivial ?_ rfl
  simp only [Tryd.ntmps40, List.size_toArray, List.length_cons, List.length_nil, Nat.reduceAdd, Nat.reduceSub, Array.replicate_succ, Array.replicate_zero, List.push_toArray, List.append_toArray, List.nil_append, List.cons_append]
  gi_wp2_with fail
  have hK := Row.new1 w (.cells #[.int .i64 5, .int .i64 (-3)] 23) 23 #[.int .i64 5, .int .i64 (-3)]
  refine ⟨trivial, (callsIn_wide.2 (taken1 5 (-3) _ _ ⟨by decide, by decide⟩ ⟨by decide, by decide⟩ hK)).mono ?_⟩
  rintro e w1 ⟨h1, G, hG, rfl, hR⟩
  have hB1 := (((Below.refl _ w).alloc (Nat.le_refl _) (.cells #[.int .i64 5, .int .i64 (-3)] 23)).alloc (by simp) (.cells #[.int .i64 5, .int .i64 (-3)] 23)).trans (h1.mono (by simp; omega))
  rw [decW5] at hR
  have hR : Row w1 G 59 boxD := hR
  have hGl := hR.lt
  obtain ⟨c0, c1, c2, c3⟩ := Row.four (show Row w1 G 59 #[.bool false, .int .u64 0, .int .u64 5, .int .i64 (-3)] from hR)
  clear h1 hK
  gi_wp2_with fail
  refine ⟨trivial, (digits_call _ _).mono ?_⟩
  rintro e w2 ⟨rfl, hw2⟩
  rw [hw2]
  clear hw2 w2
  gi_wp2_with fail
  obtain ⟨i0, hi, hzz⟩ := Option.map_eq_some_iff.1 Tryd.info5
  simp only [Prod.mk.injEq] at hzz
  obtain ⟨hz0, hz1, hz2⟩ := hzz
  have hwl : w.heap.size ≤ w1.heap.size := hB1.size
  have hRO : Row ((w1.alloc (.cells #[.slice none 0 0] 86)).alloc (.cells boxD 59)) w1.heap.size 86 #[.slice none 0 0] := (Row.new w1 86 _).alloc _
  have hRD : Row ((w1.alloc (.cells #[.slice none 0 0] 86)).alloc (.cells boxD 59)) (w1.heap.size + 1) 59 boxD := Row.new1 w1 _ 59 _
  have hBW : Below w.heap.size w ((w1.alloc (.cells #[.slice none 0 0] 86)).alloc (.cells boxD 59)) := (hB1.alloc hwl _).alloc (by simp; omega) _
  have hWs : ((w1.alloc (.cells #[.slice none 0 0] 86)).alloc (.cells boxD 59)).heap.size = w1.heap.size + 2 := by simp
  generalize (w1.alloc (.cells #[.slice none 0 0] 86)).alloc (.cells boxD 59) = W0 at hRO hRD hBW hWs ⊢
  refine wpIn_range_own rfl (by omega) (gf := 95) (lb := #[.pointer (some ⟨w1.heap.size + 1, 0, none⟩)]) rfl trivial (enters_of Tryd.func95 (by kernel_rfl) rfl) (digits_in 7 (by omega) (w1.heap.size + 1) W0 hRD) (fun k h => h.elim) (fun _ => rfl)
    (PrI w.heap.size w1.heap.size (w1.heap.size + 1) w)
    (fun pre own V V' h hm => by
      obtain ⟨v, h1, h2, hD, h3, h4⟩ := h
      refine ⟨v, h1.trans ((hm.kept (T := fun k => k < w.heap.size) (fun k hk => ⟨by omega, fun h => h, Nat.lt_of_lt_of_le hk h1.size⟩)).below (fun k hk => hk)), hm.row h2 (fun h => h), hm.row hD (fun h => h), owns_mild h3 hm (fun k _ h => h), h4⟩)
    (fun pre own V k h hk => by
      obtain ⟨v, h1, h2, hD, h3, rfl⟩ := h
      rcases hk with rfl | hk
      · exact ⟨h2.lt, by omega⟩
      · exact ⟨(h3.lt k hk).2, fun e => row_ne h3 hD (by decide) (e ▸ hk)⟩)
    ⟨_, _, hBW, hRO, hRD, World.ownsRow_nil _ _ _ _, rfl⟩
    (fun x _ => { tmps := #[.agg #[.int .i64 5, .int .i64 (-3)], .pointer (some ⟨w.heap.size, 0, none⟩), .string ⟨#[]⟩, .slice (some ⟨G, 0, none⟩) 1 1, .int .i64 0, .pointer (some ⟨w1.heap.size, 0, none⟩), .int .i64 x.1, .int .u8 x.2, .tuple #[.slice (some ⟨G, 0, none⟩) 1 1, .int .i64 0], .agg #[.int .i64 5, .int .i64 (-3)], .slice (some ⟨w.heap.size + 1, 0, none⟩) 1 1, .tuple #[.slice (some ⟨G, 0, none⟩) 1 1, .int .i64 0], .slice (some ⟨G, 0, none⟩) 1 1, .int .i64 0, .int .i64 0, .bool false, .slice (some ⟨G, 0, none⟩) 1 1, .pointer (some ⟨G, 0, none⟩), .pointer (some ⟨G, 0, none⟩), .bool false, undef, undef, undef, .slice (some ⟨G, 0, none⟩) 1 1, .pointer (some ⟨G, 0, none⟩), .agg #[.bool false, .int .u64 0, .int .u64 5, .int .i64 (-3)], .func (.func 95) #[] #[.pointer (some ⟨w1.heap.size + 1, 0, none⟩)], .int .i64 x.1, .int .u8 x.2, undef, undef, undef, undef, undef, undef, undef, undef, undef, undef, undef], defers := [] })
    (fun _ W => W) (fun _ W => Kept.refl _ W) ?assign ?body ?done
  case assign =>
    intro l x W K hK
    simp only [encD] at hK ⊢
    gi_wp2
    exact hK
  case body =>
    rintro l pre x own W V hWs' _ hIV _ ⟨k, hk, rfl, hx⟩
    obtain ⟨v, h1, h2, hD, h3, rfl⟩ := hIV
    have h5 : k = 0 ∨ k = 1 ∨ k = 2 ∨ k = 3 := by omega
    rcases h5 with rfl | rfl | rfl | rfl <;> (simp only [D4, List.getElem?_cons_zero, List.getElem?_cons_succ, Option.some.injEq] at hx; subst hx; simp only)
    · have hown : V.ownsRow w.heap.size 5 1 v 0 [] := h3
      obtain ⟨gu, cu, rfl⟩ := owns_form hown
      have cB := h2.cell (i := 0) (v := .slice gu 0 cu) rfl
      have hne := row_ne hown h2 (by decide)
      have hblt := h2.lt
      have hdlt := hD.lt
      have hVs := h1.size
      have HNW1 : Hid (∀ (j : Nat) (u : Value), ([.int .u8 48] : List Value)[j]? = some u → (V.alloc (.cells #[.int .u8 48] 5)).cell? ((⟨V.heap.size, 0, none⟩ : Addr).add j) = some u) := by
        intro j u hu
        have hR := Row.new V 5 #[.int .u8 48]
        have h := hR.cell (i := j) (v := u) (by simpa using hu)
        rw [Go.WideShapes.add_plain]
        simpa using h
      have hsz1 : w.heap.size ≤ V.heap.size := by omega
      gi_wp2_with (gi_at_builtin; refine wpListIn_append_own2 _ rfl (.tmp 34) (.tmp 36) 86 rfl w.heap.size 5 i0 (.int .u8 0) 1 1 Tryd.underlying86 hi hz0 hz1 hz2 rfl (by decide) _ _ _ rfl (hown.alloc _) ⟨V.heap.size, 0, none⟩ 1 1 [.int .u8 48] rfl rfl HNW1.out (by simp [Value.oneCell']) (by unfold maxLen; omega) (by omega) (by simp; omega) ?_)
      intro v1 x1 hown1 hgrow1 hblk1
      have hR1 : Row x1 w1.heap.size 86 #[.slice gu 0 cu] := (hgrow1.block _ (by simp; omega) (fun e => hne e.symm)).trans (h2.alloc _)
      have hD1 : Row x1 (w1.heap.size + 1) 59 boxD := (hgrow1.block _ (by simp; omega) (fun e => (row_ne hown hD (by decide)) e.symm)).trans (hD.alloc _)
      have hko1 : KeepsOthers V x1 := (KeepsOthers.alloc V _).trans (KeepsOthers.of_grownBy hgrow1 (fun j o hj ho => owns_cells (hown.alloc _) j o hj ho))
      have hk1 : Kept (fun k => k < V.heap.size ∧ ¬ (k = w1.heap.size ∨ (Value.slice gu 0 cu).ownBlock = some k)) V x1 := ((Kept.refl _ V).alloc (fun k hk => hk.1) _).grown hgrow1 (fun k hk => by have := hk.1; simp; omega) (fun r e hr => hr.2 (.inr e))
      obtain ⟨g1, k1, rfl⟩ := owns_form hown1
      have cB1 := hR1.cell (i := 0) (v := .slice gu 0 cu) rfl
      have fB1 := hR1.frozen 0
      have hr1 := hR1.set 0 (.slice g1 (0 + 1) k1)
      have hne1 : (Value.slice g1 (0 + 1) k1).ownBlock ≠ some w1.heap.size := row_ne hown1 hR1 (by decide)
      have hs1 := hk1.size
      clear cB HNW1
      gi_wp2
      refine ⟨(hko1.trans (KeepsOthers.setCell _ _ _)).from _, hk1.setCell (p := ⟨w1.heap.size, 0, none⟩) (fun h => h.2 (.inl rfl)) _, _, .slice g1 (0 + 1) k1, ?_, by simpa using hr1, hD1.off 0 _ (by omega), ?_, rfl⟩
      · exact (h1.trans (hk1.mono (fun k hk => ⟨by omega, by
          rintro (h | h)
          · omega
          · have := (hown.lt k h).1; omega⟩)|>.below (fun k hk => hk))).setCell (p := ⟨w1.heap.size, 0, none⟩) (by show w.heap.size ≤ w1.heap.size; omega) _
      · exact owns_kept hown1 ((Kept.refl (fun k => k ≠ w1.heap.size) x1).setCell (p := ⟨w1.heap.size, 0, none⟩) (by simp) (.slice g1 (0 + 1) k1)) (fun k hk e => hne1 (e ▸ hk))
    · have hown : V.ownsRow w.heap.size 5 1 v 1 [.int .u8 48] := h3
      obtain ⟨gu, cu, rfl⟩ := owns_form hown
      have cB := h2.cell (i := 0) (v := .slice gu 1 cu) rfl
      have hne := row_ne hown h2 (by decide)
      have hblt := h2.lt
      have hdlt := hD.lt
      have hVs := h1.size
      have HNW1 : Hid (∀ (j : Nat) (u : Value), ([.int .u8 46] : List Value)[j]? = some u → (V.alloc (.cells #[.int .u8 46] 5)).cell? ((⟨V.heap.size, 0, none⟩ : Addr).add j) = some u) := by
        intro j u hu
        have hR := Row.new V 5 #[.int .u8 46]
        have h := hR.cell (i := j) (v := u) (by simpa using hu)
        rw [Go.WideShapes.add_plain]
        simpa using h
      have hsz1 : w.heap.size ≤ V.heap.size := by omega
      gi_wp2_with (gi_at_builtin; refine wpListIn_append_own2 _ rfl (.tmp 31) (.tmp 32) 86 rfl w.heap.size 5 i0 (.int .u8 0) 1 1 Tryd.underlying86 hi hz0 hz1 hz2 rfl (by decide) _ _ _ rfl (hown.alloc _) ⟨V.heap.size, 0, none⟩ 1 1 [.int .u8 46] rfl rfl HNW1.out (by simp [Value.oneCell']) (by unfold maxLen; omega) (by omega) (by simp; omega) ?_)
      intro v1 x1 hown1 hgrow1 hblk1
      have hR1 : Row x1 w1.heap.size 86 #[.slice gu 1 cu] := (hgrow1.block _ (by simp; omega) (fun e => hne e.symm)).trans (h2.alloc _)
      have hD1 : Row x1 (w1.heap.size + 1) 59 boxD := (hgrow1.block _ (by simp; omega) (fun e => (row_ne hown hD (by decide)) e.symm)).trans (hD.alloc _)
      have hko1 : KeepsOthers V x1 := (KeepsOthers.alloc V _).trans (KeepsOthers.of_grownBy hgrow1 (fun j o hj ho => owns_cells (hown.alloc _) j o hj ho))
      have hk1 : Kept (fun k => k < V.heap.size ∧ ¬ (k = w1.heap.size ∨ (Value.slice gu 1 cu).ownBlock = some k)) V x1 := ((Kept.refl _ V).alloc (fun k hk => hk.1) _).grown hgrow1 (fun k hk => by have := hk.1; simp; omega) (fun r e hr => hr.2 (.inr e))
      obtain ⟨g1, k1, rfl⟩ := owns_form hown1
      have cB1 := hR1.cell (i := 0) (v := .slice gu 1 cu) rfl
      have fB1 := hR1.frozen 0
      have hr1 := hR1.set 0 (.slice g1 (1 + 1) k1)
      have hne1 : (Value.slice g1 (1 + 1) k1).ownBlock ≠ some w1.heap.size := row_ne hown1 hR1 (by decide)
      have hs1 := hk1.size
      have hownb : (x1.setCell ⟨w1.heap.size, 0, none⟩ (.slice g1 (1 + 1) k1)).ownsRow w.heap.size 5 1 (.slice g1 2 k1) 2 [.int .u8 48, .int .u8 46] := owns_kept hown1 ((Kept.refl (fun k => k ≠ w1.heap.size) x1).setCell (p := ⟨w1.heap.size, 0, none⟩) (by simp) (.slice g1 (1 + 1) k1)) (fun k hk e => hne1 (e ▸ hk))
      have hr1 : Row (x1.setCell ⟨w1.heap.size, 0, none⟩ (.slice g1 (1 + 1) k1)) w1.heap.size 86 #[.slice g1 2 k1] := hr1
      have hD1b : Row (x1.setCell ⟨w1.heap.size, 0, none⟩ (.slice g1 (1 + 1) k1)) (w1.heap.size + 1) 59 boxD := hD1.off 0 _ (by omega)
      have hkob := hko1.trans (KeepsOthers.setCell x1 ⟨w1.heap.size, 0, none⟩ (.slice g1 (1 + 1) k1))
      have hkb := hk1.setCell (p := ⟨w1.heap.size, 0, none⟩) (fun h => h.2 (.inl rfl)) (.slice g1 (1 + 1) k1)
      have hBb : Below w.heap.size w (x1.setCell ⟨w1.heap.size, 0, none⟩ (.slice g1 (1 + 1) k1)) := h1.trans ((hkb.mono (fun k hk => ⟨by omega, by
          rintro (h | h)
          · omega
          · have := (hown.lt k h).1; omega⟩)).below (fun k hk => hk))
      obtain ⟨Y, hY⟩ : ∃ Y, x1.setCell ⟨w1.heap.size, 0, none⟩ (.slice g1 (1 + 1) k1) = Y := ⟨_, rfl⟩
      rw [hY] at hownb hr1 hD1b hkob hkb hBb
      have hneb := row_ne hownb hr1 (by decide)
      have cBb := hr1.cell (i := 0) (v := .slice g1 2 k1) rfl
      have hYl := hr1.lt
      have hYd := hD1b.lt
      have hYs := hkb.size
      have hY : x1.setCell ⟨w1.heap.size, 0, none⟩ (.slice g1 2 k1) = Y := hY
      have HNW2 : Hid (∀ (j : Nat) (u : Value), ([.int .u8 48] : List Value)[j]? = some u → (Y.alloc (.cells #[.int .u8 48] 5)).cell? ((⟨Y.heap.size, 0, none⟩ : Addr).add j) = some u) := by
        intro j u hu
        have hR := Row.new Y 5 #[.int .u8 48]
        have h := hR.cell (i := j) (v := u) (by simpa using hu)
        rw [Go.WideShapes.add_plain]
        simpa using h
      have hsz2 : w.heap.size ≤ Y.heap.size := by omega
      gi_wp2_with (gi_at_builtin; refine wpListIn_append_own2 _ rfl (.tmp 34) (.tmp 36) 86 rfl w.heap.size 5 i0 (.int .u8 0) 1 1 Tryd.underlying86 hi hz0 hz1 hz2 rfl (by decide) _ _ _ rfl (hownb.alloc _) ⟨Y.heap.size, 0, none⟩ 1 1 [.int .u8 48] rfl rfl HNW2.out (by simp [Value.oneCell']) (by unfold maxLen; omega) (by omega) (by simp; omega) ?_)
      intro v2 x2 hown2 hgrow2 hblk2
      have hR2 : Row x2 w1.heap.size 86 #[.slice g1 2 k1] := (hgrow2.block _ (by simp; omega) (fun e => hneb e.symm)).trans (hr1.alloc _)
      have hD2 : Row x2 (w1.heap.size + 1) 59 boxD := (hgrow2.block _ (by simp; omega) (fun e => (row_ne hownb hD1b (by decide)) e.symm)).trans (hD1b.alloc _)
      have hko2 : KeepsOthers Y x2 := (KeepsOthers.alloc Y _).trans (KeepsOthers.of_grownBy hgrow2 (fun j o hj ho => owns_cells (hownb.alloc _) j o hj ho))
      have hk2 : Kept (fun k => k < Y.heap.size ∧ ¬ (k = w1.heap.size ∨ (Value.slice g1 2 k1).ownBlock = some k)) Y x2 := ((Kept.refl _ Y).alloc (fun k hk => hk.1) _).grown hgrow2 (fun k hk => by have := hk.1; simp; omega) (fun r e hr => hr.2 (.inr e))
      obtain ⟨g2, k2, rfl⟩ := owns_form hown2
      have cB2 := hR2.cell (i := 0) (v := .slice g1 2 k1) rfl
      have fB2 := hR2.frozen 0
      have hr2 := hR2.set 0 (.slice g2 (2 + 1) k2)
      have hne2 : (Value.slice g2 (2 + 1) k2).ownBlock ≠ some w1.heap.size := row_ne hown2 hR2 (by decide)
      have hs2 := hk2.size
      gi_wp2
      refine ⟨((hkob.trans hko2).trans (KeepsOthers.setCell _ _ _)).from _, ?_, _, .slice g2 (2 + 1) k2, ?_, by simpa using hr2, hD2.off 0 _ (by omega), ?_, rfl⟩
      · refine Kept.setCell (p := ⟨w1.heap.size, 0, none⟩) ?_ (fun h => h.2 (.inl rfl)) _
        exact hkb.trans (hk2.mono (fun k hk => ⟨by omega, by
          rintro (h | h)
          · exact hk.2 (.inl h)
          · rcases hblk1 k h with hb | hb
            · exact hk.2 (.inr hb)
            · omega⟩))
      · exact (hBb.trans ((hk2.mono (fun k hk => ⟨by omega, by
          rintro (h | h)
          · omega
          · have := (hownb.lt k h).1; omega⟩)).below (fun k hk => hk))).setCell (p := ⟨w1.heap.size, 0, none⟩) (by show w.heap.size ≤ w1.heap.size; omega) _
      · exact owns_kept hown2 ((Kept.refl (fun k => k ≠ w1.heap.size) x2).setCell (p := ⟨w1.heap.size, 0, none⟩) (by simp) (.slice g2 (2 + 1) k2)) (fun k hk e => hne2 (e ▸ hk))
    · have hown : V.ownsRow w.heap.size 5 1 v 3 [.int .u8 48, .int .u8 46, .int .u8 48] := h3
      obtain ⟨gu, cu, rfl⟩ := owns_form hown
      have cB := h2.cell (i := 0) (v := .slice gu 3 cu) rfl
      have hne := row_ne hown h2 (by decide)
      have hblt := h2.lt
      have hdlt := hD.lt
      have hVs := h1.size
      have HNW1 : Hid (∀ (j : Nat) (u : Value), ([.int .u8 48] : List Value)[j]? = some u → (V.alloc (.cells #[.int .u8 48] 5)).cell? ((⟨V.heap.size, 0, none⟩ : Addr).add j) = some u) := by
        intro j u hu
        have hR := Row.new V 5 #[.int .u8 48]
        have h := hR.cell (i := j) (v := u) (by simpa using hu)
        rw [Go.WideShapes.add_plain]
        simpa using h
      have hsz1 : w.heap.size ≤ V.heap.size := by omega
      gi_wp2_with (gi_at_builtin; refine wpListIn_append_own2 _ rfl (.tmp 34) (.tmp 36) 86 rfl w.heap.size 5 i0 (.int .u8 0) 1 1 Tryd.underlying86 hi hz0 hz1 hz2 rfl (by decide) _ _ _ rfl (hown.alloc _) ⟨V.heap.size, 0, none⟩ 1 1 [.int .u8 48] rfl rfl HNW1.out (by simp [Value.oneCell']) (by unfold maxLen; omega) (by omega) (by simp; omega) ?_)
      intro v1 x1 hown1 hgrow1 hblk1
      have hR1 : Row x1 w1.heap.size 86 #[.slice gu 3 cu] := (hgrow1.block _ (by simp; omega) (fun e => hne e.symm)).trans (h2.alloc _)
      have hD1 : Row x1 (w1.heap.size + 1) 59 boxD := (hgrow1.block _ (by simp; omega) (fun e => (row_ne hown hD (by decide)) e.symm)).trans (hD.alloc _)
      have hko1 : KeepsOthers V x1 := (KeepsOthers.alloc V _).trans (KeepsOthers.of_grownBy hgrow1 (fun j o hj ho => owns_cells (hown.alloc _) j o hj ho))
      have hk1 : Kept (fun k => k < V.heap.size ∧ ¬ (k = w1.heap.size ∨ (Value.slice gu 3 cu).ownBlock = some k)) V x1 := ((Kept.refl _ V).alloc (fun k hk => hk.1) _).grown hgrow1 (fun k hk => by have := hk.1; simp; omega) (fun r e hr => hr.2 (.inr e))
      obtain ⟨g1, k1, rfl⟩ := owns_form hown1
      have cB1 := hR1.cell (i := 0) (v := .slice gu 3 cu) rfl
      have fB1 := hR1.frozen 0
      have hr1 := hR1.set 0 (.slice g1 (3 + 1) k1)
      have hne1 : (Value.slice g1 (3 + 1) k1).ownBlock ≠ some w1.heap.size := row_ne hown1 hR1 (by decide)
      have hs1 := hk1.size
      clear cB HNW1
      gi_wp2
      refine ⟨(hko1.trans (KeepsOthers.setCell _ _ _)).from _, hk1.setCell (p := ⟨w1.heap.size, 0, none⟩) (fun h => h.2 (.inl rfl)) _, _, .slice g1 (3 + 1) k1, ?_, by simpa using hr1, hD1.off 0 _ (by omega), ?_, rfl⟩
      · exact (h1.trans (hk1.mono (fun k hk => ⟨by omega, by
          rintro (h | h)
          · omega
          · have := (hown.lt k h).1; omega⟩)|>.below (fun k hk => hk))).setCell (p := ⟨w1.heap.size, 0, none⟩) (by show w.heap.size ≤ w1.heap.size; omega) _
      · exact owns_kept hown1 ((Kept.refl (fun k => k ≠ w1.heap.size) x1).setCell (p := ⟨w1.heap.size, 0, none⟩) (by simp) (.slice g1 (3 + 1) k1)) (fun k hk e => hne1 (e ▸ hk))
    · have hown : V.ownsRow w.heap.size 5 1 v 4 [.int .u8 48, .int .u8 46, .int .u8 48, .int .u8 48] := h3
      obtain ⟨gu, cu, rfl⟩ := owns_form hown
      have cB := h2.cell (i := 0) (v := .slice gu 4 cu) rfl
      have hne := row_ne hown h2 (by decide)
      have hblt := h2.lt
      have hdlt := hD.lt
      have hVs := h1.size
      have HNW1 : Hid (∀ (j : Nat) (u : Value), ([.int .u8 53] : List Value)[j]? = some u → (V.alloc (.cells #[.int .u8 53] 5)).cell? ((⟨V.heap.size, 0, none⟩ : Addr).add j) = some u) := by
        intro j u hu
        have hR := Row.new V 5 #[.int .u8 53]
        have h := hR.cell (i := j) (v := u) (by simpa using hu)
        rw [Go.WideShapes.add_plain]
        simpa using h
      have hsz1 : w.heap.size ≤ V.heap.size := by omega
      gi_wp2_with (gi_at_builtin; refine wpListIn_append_own2 _ rfl (.tmp 34) (.tmp 36) 86 rfl w.heap.size 5 i0 (.int .u8 0) 1 1 Tryd.underlying86 hi hz0 hz1 hz2 rfl (by decide) _ _ _ rfl (hown.alloc _) ⟨V.heap.size, 0, none⟩ 1 1 [.int .u8 53] rfl rfl HNW1.out (by simp [Value.oneCell']) (by unfold maxLen; omega) (by omega) (by simp; omega) ?_)
      intro v1 x1 hown1 hgrow1 hblk1
      have hR1 : Row x1 w1.heap.size 86 #[.slice gu 4 cu] := (hgrow1.block _ (by simp; omega) (fun e => hne e.symm)).trans (h2.alloc _)
      have hD1 : Row x1 (w1.heap.size + 1) 59 boxD := (hgrow1.block _ (by simp; omega) (fun e => (row_ne hown hD (by decide)) e.symm)).trans (hD.alloc _)
      have hko1 : KeepsOthers V x1 := (KeepsOthers.alloc V _).trans (KeepsOthers.of_grownBy hgrow1 (fun j o hj ho => owns_cells (hown.alloc _) j o hj ho))
      have hk1 : Kept (fun k => k < V.heap.size ∧ ¬ (k = w1.heap.size ∨ (Value.slice gu 4 cu).ownBlock = some k)) V x1 := ((Kept.refl _ V).alloc (fun k hk => hk.1) _).grown hgrow1 (fun k hk => by have := hk.1; simp; omega) (fun r e hr => hr.2 (.inr e))
      obtain ⟨g1, k1, rfl⟩ := owns_form hown1
      have cB1 := hR1.cell (i := 0) (v := .slice gu 4 cu) rfl
      have fB1 := hR1.frozen 0
      have hr1 := hR1.set 0 (.slice g1 (4 + 1) k1)
      have hne1 : (Value.slice g1 (4 + 1) k1).ownBlock ≠ some w1.heap.size := row_ne hown1 hR1 (by decide)
      have hs1 := hk1.size
      clear cB HNW1
      gi_wp2
      refine ⟨(hko1.trans (KeepsOthers.setCell _ _ _)).from _, hk1.setCell (p := ⟨w1.heap.size, 0, none⟩) (fun h => h.2 (.inl rfl)) _, _, .slice g1 (4 + 1) k1, ?_, by simpa using hr1, hD1.off 0 _ (by omega), ?_, rfl⟩
      · exact (h1.trans (hk1.mono (fun k hk => ⟨by omega, by
          rintro (h | h)
          · omega
          · have := (hown.lt k h).1; omega⟩)|>.below (fun k hk => hk))).setCell (p := ⟨w1.heap.size, 0, none⟩) (by show w.heap.size ≤ w1.heap.size; omega) _
      · exact owns_kept hown1 ((Kept.refl (fun k => k ≠ w1.heap.size) x1).setCell (p := ⟨w1.heap.size, 0, none⟩) (by simp) (.slice g1 (4 + 1) k1)) (fun k hk e => hne1 (e ▸ hk))
  case done =>
    rintro D ys own W hD rfl ⟨v, h1, h2, _, h3, h5⟩ hK
    have hown : W.ownsRow w.heap.size 5 1 v 5 [.int .u8 48, .int .u8 46, .int .u8 48, .int .u8 48, .int .u8 53] := h3
    rcases hown.2 with ⟨_, hx⟩ | ⟨g, cap, cur, rfl, _⟩
    · cases hx
    · have hcv : (convert 86 9 (.slice (some ⟨g, 0, none⟩) 5 cap)).run Tryd.prog W = .ok (.string ⟨#[48, 46, 48, 48, 53]⟩) W := by
        have := run_convert_bytes_arg (P := Tryd.prog) W 86 5 Tryd.underlying86 Tryd.underlying5 g 0 5 cap [48, 46, 48, 48, 53] rfl (fun i hi => by
          rw [Nat.zero_add, hown.cellAt i (by omega)]
          have : i = 0 ∨ i = 1 ∨ i = 2 ∨ i = 3 ∨ i = 4 := by omega
          rcases this with rfl | rfl | rfl | rfl | rfl <;> rfl) 9 Tryd.underlying9
        rw [show strOfNums ([48, 46, 48, 48, 53] : List Int) = ⟨#[48, 46, 48, 48, 53]⟩ by rfl] at this
        exact this
      have cB := h2.cell (i := 0) (v := .slice (some ⟨g, 0, none⟩) 5 cap) rfl
      have hBe : Below w.heap.size w (W.putObj D (.deferred none)) := h1.trans ((Kept.putObj (S := fun k => k < w.heap.size) W D (.deferred none) (by show ¬ D < _; omega)).below (fun _ h => h))
      clear h3 hown h5
      gi_wp2
      refine ⟨by simp, .inl ⟨_, _, rfl, run_takeDeferred hK, ?_⟩⟩
      exact ⟨_, results_tmp rfl _ _ _, rfl, hBe⟩
theorem print5 (w : World) : Calls Tryd.prog 40 #[dv 5 (-3)] w fun e w' => e = .returned (.string ⟨#[48, 46, 48, 48, 53]⟩) ∧ Below w.heap.size w w' := callsIn_wide.1 (print5_in w)
end Go.Proofs.YtfbhonjndepjbaaDoor
