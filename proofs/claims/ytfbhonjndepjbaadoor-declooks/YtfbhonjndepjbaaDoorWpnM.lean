import Derived.Test.YtfbhonjndepjbaaDoorWrdM
import Derived.Test.YtfbhonjndepjbaaDoorWprM
/- Print of any number. -/
namespace Go.Proofs.YtfbhonjndepjbaaDoor
open Go.RowKit Go.Shelf

attribute [local go_sem] Oper.semAt_some

theorem outB_snoc (pre : List (Int × Int)) (x : Int × Int) : outB (pre ++ [x]) = outB pre ++ ((if x.1 = -1 then [46] else []) ++ [x.2]) := by
  induction pre with
  | nil => simp [outB]
  | cons a r ih => simp only [List.cons_append, outB, ih, List.append_assoc]
theorem outB_len (pre : List (Int × Int)) : (outB pre).length ≤ 2 * pre.length := by
  induction pre with
  | nil => simp [outB]
  | cons a r ih =>
    simp only [outB, List.length_append, List.length_cons, List.length_nil]
    split <;> simp <;> omega
theorem outB_ge (pre : List (Int × Int)) : pre.length ≤ (outB pre).length := by
  induction pre with
  | nil => simp [outB]
  | cons a r ih =>
    simp only [outB, List.length_append, List.length_cons, List.length_nil]
    split <;> simp <;> omega
def PrW (N O DB : Nat) (BX : Array Value) (s0 : List Int) (w0 : World) (pre : List (Int × Int)) (own : Nat → Prop) (V : World) : Prop :=
  ∃ v, Below N w0 V ∧ Row V O 86 #[v] ∧ Row V DB 59 BX ∧ V.ownsRow N 5 1 v (s0 ++ outB pre).length ((s0 ++ outB pre).map (Value.int .u8)) ∧ own = fun k => k = O ∨ v.ownBlock = some k
theorem digsW_len (y : Wd) (h : y.n ≤ 9223372036854775808) (he : -18 ≤ y.e ∧ y.e ≤ 18) : 1 ≤ (digsW y).length ∧ (digsW y).length ≤ 60 := by
  unfold digsW
  rw [Pl_length]
  have h1 := dec_len y.n (by omega)
  have h2 := dlist_len y.n y.e h1.1
  obtain ⟨t1, t2⟩ := topP_spec y.n y.e
  split at h2 <;> omega
theorem box_dec (y : Wd) (h : y.n ≤ 9223372036854775808) : y.cells = boxW y := by
  unfold Wd.cells boxW
  rw [show y.n / 18446744073709551616 = 0 by omega, show y.n % 18446744073709551616 = y.n by omega]
  rfl
set_option maxRecDepth 100000 in
set_option maxHeartbeats 1000000 in
theorem digitsW_call (n : Nat) (y : Wd) (w : World) : CallsIn Fence.wide n Tryd.prog 75 #[.agg #[.bool y.neg, .int .u64 0, .int .u64 (y.n : Int), .int .i64 y.e]] w fun e w' => e = .returned (.func (.func 95) #[] #[.pointer (some ⟨w.heap.size, 0, none⟩)]) ∧ w' = w.alloc (.cells (boxW y) 59) := by
  refine callsIn_wide.2 ?_
  unfold boxW
  go_enter Tryd.func75, Tryd.ntmps75
  go_wp2
  go_ret
  exact ⟨rfl, rfl⟩
set_option maxRecDepth 100000 in
set_option maxHeartbeats 4000000 in
theorem print_pos (c e : Int) (hc : I64 c) (he : within e) (hng : (decW c e).neg = false) (w : World) (htab : PTab w) (SS : ByteArray) (HSS : Hid (strOfNums (outB (digsW (decW c e))) = SS)) : CallsIn Fence.wide 8 Tryd.prog 40 #[dv c e] w fun r w' => r = .returned (.string SS) ∧ Below w.heap.size w w' := by
  unfold dv
  have hS := sh_dec c e he.1 he.2 hc.1 hc.2
  refine callsIn_of_wp_marks Tryd.func40 rfl trivial ?_ rfl
  simp only [Tryd.ntmps40, List.size_toArray, List.length_cons, List.length_nil, Nat.reduceAdd, Nat.reduceSub, Array.replicate_succ, Array.replicate_zero, List.push_toArray, List.append_toArray, List.nil_append, List.cons_append]
  gi_wp2_with fail
  have hK := Row.new1 w (.cells #[.int .i64 c, .int .i64 e] 23) 23 #[.int .i64 c, .int .i64 e]
  refine ⟨trivial, (callsIn_wide.2 (taken1 c e _ _ hc he hK)).mono ?_⟩
  rintro _ w1 ⟨h1, G, hG, rfl, hR⟩
  have hB1 := (((Below.refl _ w).alloc (Nat.le_refl _) (.cells #[.int .i64 c, .int .i64 e] 23)).alloc (by simp) (.cells #[.int .i64 c, .int .i64 e] 23)).trans (h1.mono (by simp; omega))
  generalize decW c e = y at *
  rw [box_dec y hS.big] at hR
  obtain ⟨ng, m, ex⟩ := y
  simp only at hng
  subst hng
  have hGl := hR.lt
  obtain ⟨c0, c1, c2, c3⟩ := Row.four (show Row w1 G 59 #[.bool false, .int .u64 0, .int .u64 (m : Int), .int .i64 ex] from hR)
  have HDC := fun W => digitsW_call 7 ⟨false, m, ex⟩ W
  clear h1 hK
  gi_wp2_with fail
  refine ⟨trivial, (HDC _).mono ?_⟩
  rintro _ w2 ⟨rfl, hw2⟩
  rw [hw2]
  clear hw2 w2
  gi_wp2_with fail
  obtain ⟨i0, hi, hzz⟩ := Option.map_eq_some_iff.1 Tryd.info5
  simp only [Prod.mk.injEq] at hzz
  obtain ⟨hz0, hz1, hz2⟩ := hzz
  have hwl : w.heap.size ≤ w1.heap.size := hB1.size
  have hRO : Row ((w1.alloc (.cells #[.slice none 0 0] 86)).alloc (.cells (boxW ⟨false, m, ex⟩) 59)) w1.heap.size 86 #[.slice none 0 0] := (Row.new w1 86 _).alloc _
  have hRD : Row ((w1.alloc (.cells #[.slice none 0 0] 86)).alloc (.cells (boxW ⟨false, m, ex⟩) 59)) (w1.heap.size + 1) 59 (boxW ⟨false, m, ex⟩) := Row.new1 w1 _ 59 _
  have hBW : Below w.heap.size w ((w1.alloc (.cells #[.slice none 0 0] 86)).alloc (.cells (boxW ⟨false, m, ex⟩) 59)) := (hB1.alloc hwl _).alloc (by simp; omega) _
  have hWs : ((w1.alloc (.cells #[.slice none 0 0] 86)).alloc (.cells (boxW ⟨false, m, ex⟩) 59)).heap.size = w1.heap.size + 2 := by simp
  generalize (w1.alloc (.cells #[.slice none 0 0] 86)).alloc (.cells (boxW ⟨false, m, ex⟩) 59) = W0 at hRO hRD hBW hWs ⊢
  obtain ⟨hneD, hlenD⟩ := digsW_len ⟨false, m, ex⟩ hS.big ⟨hS.lo, hS.hi⟩
  have hseq := wdigits_in 7 (by omega) (w1.heap.size + 1) ⟨false, m, ex⟩ hS.big ⟨hS.lo, hS.hi⟩ W0 hRD (htab.below hBW)
  generalize digsW ⟨false, m, ex⟩ = DD at *
  generalize hBX : boxW ⟨false, m, ex⟩ = BX at *
  clear hBX
  refine wpIn_range_own rfl (by omega) (gf := 95) (lb := #[.pointer (some ⟨w1.heap.size + 1, 0, none⟩)]) rfl trivial (enters_of Tryd.func95 (by kernel_rfl) rfl) hseq (fun k h => h.elim) (fun _ => rfl)
    (PrW w.heap.size w1.heap.size (w1.heap.size + 1) BX [] w)
    (fun pre own V V' h hm => by
      obtain ⟨v, h1, h2, hD, h3, h4⟩ := h
      refine ⟨v, h1.trans ((hm.kept (T := fun k => k < w.heap.size) (fun k hk => ⟨by omega, fun h => h, Nat.lt_of_lt_of_le hk h1.size⟩)).below (fun k hk => hk)), hm.row h2 (fun h => h), hm.row hD (fun h => h), owns_mild h3 hm (fun k _ h => h), h4⟩)
    (fun pre own V k h hk => by
      obtain ⟨v, h1, h2, hD, h3, rfl⟩ := h
      rcases hk with rfl | hk
      · exact ⟨h2.lt, by omega⟩
      · exact ⟨(h3.lt k hk).2, fun e => row_ne h3 hD (by decide) (e ▸ hk)⟩)
    ⟨_, _, hBW, hRO, hRD, World.ownsRow_nil _ _ _ _, rfl⟩
    (fun x _ => { tmps := #[.agg #[.int .i64 c, .int .i64 e], .pointer (some ⟨w.heap.size, 0, none⟩), .string ⟨#[]⟩, .slice (some ⟨G, 0, none⟩) 1 1, .int .i64 0, .pointer (some ⟨w1.heap.size, 0, none⟩), .int .i64 x.1, .int .u8 x.2, .tuple #[.slice (some ⟨G, 0, none⟩) 1 1, .int .i64 0], .agg #[.int .i64 c, .int .i64 e], .slice (some ⟨w.heap.size + 1, 0, none⟩) 1 1, .tuple #[.slice (some ⟨G, 0, none⟩) 1 1, .int .i64 0], .slice (some ⟨G, 0, none⟩) 1 1, .int .i64 0, .int .i64 0, .bool false, .slice (some ⟨G, 0, none⟩) 1 1, .pointer (some ⟨G, 0, none⟩), .pointer (some ⟨G, 0, none⟩), .bool false, undef, undef, undef, .slice (some ⟨G, 0, none⟩) 1 1, .pointer (some ⟨G, 0, none⟩), .agg #[.bool false, .int .u64 0, .int .u64 (m : Int), .int .i64 ex], .func (.func 95) #[] #[.pointer (some ⟨w1.heap.size + 1, 0, none⟩)], .int .i64 x.1, .int .u8 x.2, undef, undef, undef, undef, undef, undef, undef, undef, undef, undef, undef], defers := [] })
    (fun _ W => W) (fun _ W => Kept.refl _ W) ?assign ?body ?done
  case assign =>
    intro l x W K hK
    simp only [encW] at hK ⊢
    gi_wp2
    exact hK
  case body =>
    rintro l pre x own W V hWs' _ hIV _ ⟨k, hk, rfl, hx⟩
    obtain ⟨v, h1, h2, hD, h3, rfl⟩ := hIV
    obtain ⟨pl, d⟩ := x
    simp only
    have hlo := outB_len (DD.take k)
    have hbnd : ([] ++ outB (DD.take k)).length ≤ 200 := by
      have : (DD.take k).length ≤ 60 := by rw [List.length_take]; omega
      simp only [List.nil_append]; omega
    have HN0 : Hid (outB (DD.take k ++ [(pl, d)]) = outB (DD.take k) ++ ((if pl = -1 then [46] else []) ++ [d])) := outB_snoc _ _
    have hOl : w1.heap.size < V.heap.size := h2.lt
    clear hlo hx
    by_cases hpl : pl = -1
    · subst hpl
      have HN : Hid (([] ++ outB (DD.take k ++ [(-1, d)])).length = ([] ++ outB (DD.take k)).length + 1 + 1 ∧ ([] ++ outB (DD.take k ++ [(-1, d)])).map (Value.int .u8) = ([] ++ outB (DD.take k)).map (Value.int .u8) ++ [.int .u8 46, .int .u8 d]) := by
        show (_ ∧ _)
        rw [HN0.out]; simp
      generalize ([] ++ outB (DD.take k)).length = L0 at *
      generalize ([] ++ outB (DD.take k)).map (Value.int .u8) = Z0 at *
      have hown : V.ownsRow w.heap.size 5 1 v L0 Z0 := h3
      obtain ⟨gu, cu, rfl⟩ := owns_form hown
      have cB := h2.cell (i := 0) (v := .slice gu L0 cu) rfl
      have hne := row_ne hown h2 (by decide)
      have hblt := h2.lt
      have hdlt := hD.lt
      have hVs := h1.size
      have HNW1 : Hid (∀ (j : Nat) (u : Value), ([.int .u8 46] : List Value)[j]? = some u → (V.alloc (.cells #[.int .u8 46] 5)).cell? ((⟨V.heap.size, 0, none⟩ : Addr).add j) = some u) := by
        intro j u hu
        have hR := Row.new V 5 #[.int .u8 46]
        have h := hR.cell (i := j) (v := u) (by simpa using hu)
        rw [Go.WideShapes.add_plain]
        simpa using h
      have hsz1 : w.heap.size ≤ V.heap.size := by omega
      gi_wp2_with (gi_at_builtin; refine wpListIn_append_own2 _ rfl (.tmp 31) (.tmp 32) 86 rfl w.heap.size 5 i0 (.int .u8 0) 1 1 Tryd.underlying86 hi hz0 hz1 hz2 rfl (by decide) _ _ _ rfl (hown.alloc _) ⟨V.heap.size, 0, none⟩ 1 1 [.int .u8 46] rfl rfl HNW1.out (by simp [Value.oneCell']) (by unfold maxLen; omega) (by omega) (by simp; omega) ?_)
      intro v1 x1 hown1 hgrow1 hblk1
      have hR1 : Row x1 w1.heap.size 86 #[.slice gu L0 cu] := (hgrow1.block _ (by simp; omega) (fun e => hne e.symm)).trans (h2.alloc _)
      have hD1 : Row x1 (w1.heap.size + 1) 59 BX := (hgrow1.block _ (by simp; omega) (fun e => (row_ne hown hD (by decide)) e.symm)).trans (hD.alloc _)
      have hko1 : KeepsOthers V x1 := (KeepsOthers.alloc V _).trans (KeepsOthers.of_grownBy hgrow1 (fun j o hj ho => owns_cells (hown.alloc _) j o hj ho))
      have hk1 : Kept (fun k => k < V.heap.size ∧ ¬ (k = w1.heap.size ∨ (Value.slice gu L0 cu).ownBlock = some k)) V x1 := ((Kept.refl _ V).alloc (fun k hk => hk.1) _).grown hgrow1 (fun k hk => by have := hk.1; simp; omega) (fun r e hr => hr.2 (.inr e))
      obtain ⟨g1, k1, rfl⟩ := owns_form hown1
      have cB1 := hR1.cell (i := 0) (v := .slice gu L0 cu) rfl
      have fB1 := hR1.frozen 0
      have hr1 := hR1.set 0 (.slice g1 (L0 + 1) k1)
      have hne1 : (Value.slice g1 (L0 + 1) k1).ownBlock ≠ some w1.heap.size := row_ne hown1 hR1 (by decide)
      have hs1 := hk1.size
      have hownb : (x1.setCell ⟨w1.heap.size, 0, none⟩ (.slice g1 (L0 + 1) k1)).ownsRow w.heap.size 5 1 (.slice g1 (L0 + 1) k1) (L0 + 1) (Z0 ++ [.int .u8 46]) := owns_kept hown1 ((Kept.refl (fun k => k ≠ w1.heap.size) x1).setCell (p := ⟨w1.heap.size, 0, none⟩) (by simp) (.slice g1 (L0 + 1) k1)) (fun k hk e => hne1 (e ▸ hk))
      have hr1 : Row (x1.setCell ⟨w1.heap.size, 0, none⟩ (.slice g1 (L0 + 1) k1)) w1.heap.size 86 #[.slice g1 (L0 + 1) k1] := by simpa using hr1
      have hD1b : Row (x1.setCell ⟨w1.heap.size, 0, none⟩ (.slice g1 (L0 + 1) k1)) (w1.heap.size + 1) 59 BX := hD1.off 0 _ (by omega)
      have hkob := hko1.trans (KeepsOthers.setCell x1 ⟨w1.heap.size, 0, none⟩ (.slice g1 (L0 + 1) k1))
      have hkb := hk1.setCell (p := ⟨w1.heap.size, 0, none⟩) (fun h => h.2 (.inl rfl)) (.slice g1 (L0 + 1) k1)
      have hBb : Below w.heap.size w (x1.setCell ⟨w1.heap.size, 0, none⟩ (.slice g1 (L0 + 1) k1)) := h1.trans ((hkb.mono (fun k hk => ⟨by omega, by
          rintro (h | h)
          · omega
          · have := (hown.lt k h).1; omega⟩)).below (fun k hk => hk))
      obtain ⟨Y, hY⟩ : ∃ Y, x1.setCell ⟨w1.heap.size, 0, none⟩ (.slice g1 (L0 + 1) k1) = Y := ⟨_, rfl⟩
      rw [hY] at hownb hr1 hD1b hkob hkb hBb
      have hneb := row_ne hownb hr1 (by decide)
      have cBb := hr1.cell (i := 0) (v := .slice g1 (L0 + 1) k1) rfl
      have hYl := hr1.lt
      have hYd := hD1b.lt
      have hYs := hkb.size
      have HNW2 : Hid (∀ (j : Nat) (u : Value), ([.int .u8 d] : List Value)[j]? = some u → (Y.alloc (.cells #[.int .u8 d] 5)).cell? ((⟨Y.heap.size, 0, none⟩ : Addr).add j) = some u) := by
        intro j u hu
        have hR := Row.new Y 5 #[.int .u8 d]
        have h := hR.cell (i := j) (v := u) (by simpa using hu)
        rw [Go.WideShapes.add_plain]
        simpa using h
      have hsz2 : w.heap.size ≤ Y.heap.size := by omega
      gi_wp2_with (gi_at_builtin; refine wpListIn_append_own2 _ rfl (.tmp 34) (.tmp 36) 86 rfl w.heap.size 5 i0 (.int .u8 0) 1 1 Tryd.underlying86 hi hz0 hz1 hz2 rfl (by decide) _ _ _ rfl (hownb.alloc _) ⟨Y.heap.size, 0, none⟩ 1 1 [.int .u8 d] rfl rfl HNW2.out (by simp [Value.oneCell']) (by unfold maxLen; omega) (by omega) (by simp; omega) ?_)
      intro v2 x2 hown2 hgrow2 hblk2
      have hR2 : Row x2 w1.heap.size 86 #[.slice g1 (L0 + 1) k1] := (hgrow2.block _ (by simp; omega) (fun e => hneb e.symm)).trans (hr1.alloc _)
      have hD2 : Row x2 (w1.heap.size + 1) 59 BX := (hgrow2.block _ (by simp; omega) (fun e => (row_ne hownb hD1b (by decide)) e.symm)).trans (hD1b.alloc _)
      have hko2 : KeepsOthers Y x2 := (KeepsOthers.alloc Y _).trans (KeepsOthers.of_grownBy hgrow2 (fun j o hj ho => owns_cells (hownb.alloc _) j o hj ho))
      have hk2 : Kept (fun k => k < Y.heap.size ∧ ¬ (k = w1.heap.size ∨ (Value.slice g1 (L0 + 1) k1).ownBlock = some k)) Y x2 := ((Kept.refl _ Y).alloc (fun k hk => hk.1) _).grown hgrow2 (fun k hk => by have := hk.1; simp; omega) (fun r e hr => hr.2 (.inr e))
      obtain ⟨g2, k2, rfl⟩ := owns_form hown2
      have cB2 := hR2.cell (i := 0) (v := .slice g1 (L0 + 1) k1) rfl
      have fB2 := hR2.frozen 0
      have hr2 := hR2.set 0 (.slice g2 (L0 + 1 + 1) k2)
      have hne2 : (Value.slice g2 (L0 + 1 + 1) k2).ownBlock ≠ some w1.heap.size := row_ne hown2 hR2 (by decide)
      have hs2 := hk2.size
      gi_wp2
      refine ⟨((hkob.trans hko2).trans (KeepsOthers.setCell _ _ _)).from _, ?_, _, .slice g2 (L0 + 1 + 1) k2, ?_, by simpa using hr2, hD2.off 0 _ (by omega), ?_, rfl⟩
      · refine Kept.setCell (p := ⟨w1.heap.size, 0, none⟩) ?_ (fun h => h.2 (.inl rfl)) _
        exact hkb.trans (hk2.mono (fun k hk => ⟨by omega, by
          rintro (h | h)
          · exact hk.2 (.inl h)
          · rcases hblk1 k h with hb | hb
            · exact hk.2 (.inr hb)
            · omega⟩))
      · exact (hBb.trans ((hk2.mono (fun k hk => ⟨by omega, by
          rintro (h | h)
          · omega
          · have := (hownb.lt k h).1; omega⟩)).below (fun k hk => hk))).setCell (p := ⟨w1.heap.size, 0, none⟩) (by show w.heap.size ≤ w1.heap.size; omega) _
      · rw [HN.out.1, HN.out.2]
        exact owns_kept hown2 ((Kept.refl (fun k => k ≠ w1.heap.size) x2).setCell (p := ⟨w1.heap.size, 0, none⟩) (by simp) (.slice g2 (L0 + 1 + 1) k2)) (fun k hk e => hne2 (e ▸ hk))
    · have HN : Hid (([] ++ outB (DD.take k ++ [(pl, d)])).length = ([] ++ outB (DD.take k)).length + 1 ∧ ([] ++ outB (DD.take k ++ [(pl, d)])).map (Value.int .u8) = ([] ++ outB (DD.take k)).map (Value.int .u8) ++ [.int .u8 d]) := by
        show (_ ∧ _)
        rw [HN0.out, if_neg hpl]; simp
      generalize ([] ++ outB (DD.take k)).length = L0 at *
      generalize ([] ++ outB (DD.take k)).map (Value.int .u8) = Z0 at *
      have hown : V.ownsRow w.heap.size 5 1 v L0 Z0 := h3
      obtain ⟨gu, cu, rfl⟩ := owns_form hown
      have cB := h2.cell (i := 0) (v := .slice gu L0 cu) rfl
      have hne := row_ne hown h2 (by decide)
      have hblt := h2.lt
      have hdlt := hD.lt
      have hVs := h1.size
      have HNW1 : Hid (∀ (j : Nat) (u : Value), ([.int .u8 d] : List Value)[j]? = some u → (V.alloc (.cells #[.int .u8 d] 5)).cell? ((⟨V.heap.size, 0, none⟩ : Addr).add j) = some u) := by
        intro j u hu
        have hR := Row.new V 5 #[.int .u8 d]
        have h := hR.cell (i := j) (v := u) (by simpa using hu)
        rw [Go.WideShapes.add_plain]
        simpa using h
      have hsz1 : w.heap.size ≤ V.heap.size := by omega
      have gpl : (pl == -1) = false := by simpa using hpl
      gi_wp2_with (gi_at_builtin; refine wpListIn_append_own2 _ rfl (.tmp 34) (.tmp 36) 86 rfl w.heap.size 5 i0 (.int .u8 0) 1 1 Tryd.underlying86 hi hz0 hz1 hz2 rfl (by decide) _ _ _ rfl (hown.alloc _) ⟨V.heap.size, 0, none⟩ 1 1 [.int .u8 d] rfl rfl HNW1.out (by simp [Value.oneCell']) (by unfold maxLen; omega) (by omega) (by simp; omega) ?_)
      intro v1 x1 hown1 hgrow1 hblk1
      have hR1 : Row x1 w1.heap.size 86 #[.slice gu L0 cu] := (hgrow1.block _ (by simp; omega) (fun e => hne e.symm)).trans (h2.alloc _)
      have hD1 : Row x1 (w1.heap.size + 1) 59 BX := (hgrow1.block _ (by simp; omega) (fun e => (row_ne hown hD (by decide)) e.symm)).trans (hD.alloc _)
      have hko1 : KeepsOthers V x1 := (KeepsOthers.alloc V _).trans (KeepsOthers.of_grownBy hgrow1 (fun j o hj ho => owns_cells (hown.alloc _) j o hj ho))
      have hk1 : Kept (fun k => k < V.heap.size ∧ ¬ (k = w1.heap.size ∨ (Value.slice gu L0 cu).ownBlock = some k)) V x1 := ((Kept.refl _ V).alloc (fun k hk => hk.1) _).grown hgrow1 (fun k hk => by have := hk.1; simp; omega) (fun r e hr => hr.2 (.inr e))
      obtain ⟨g1, k1, rfl⟩ := owns_form hown1
      have cB1 := hR1.cell (i := 0) (v := .slice gu L0 cu) rfl
      have fB1 := hR1.frozen 0
      have hr1 := hR1.set 0 (.slice g1 (L0 + 1) k1)
      have hne1 : (Value.slice g1 (L0 + 1) k1).ownBlock ≠ some w1.heap.size := row_ne hown1 hR1 (by decide)
      have hs1 := hk1.size
      clear cB HNW1
      gi_wp2
      refine ⟨(hko1.trans (KeepsOthers.setCell _ _ _)).from _, hk1.setCell (p := ⟨w1.heap.size, 0, none⟩) (fun h => h.2 (.inl rfl)) _, _, .slice g1 (L0 + 1) k1, ?_, by simpa using hr1, hD1.off 0 _ (by omega), ?_, rfl⟩
      · exact (h1.trans (hk1.mono (fun k hk => ⟨by omega, by
          rintro (h | h)
          · omega
          · have := (hown.lt k h).1; omega⟩)|>.below (fun k hk => hk))).setCell (p := ⟨w1.heap.size, 0, none⟩) (by show w.heap.size ≤ w1.heap.size; omega) _
      · rw [HN.out.1, HN.out.2]
        exact owns_kept hown1 ((Kept.refl (fun k => k ≠ w1.heap.size) x1).setCell (p := ⟨w1.heap.size, 0, none⟩) (by simp) (.slice g1 (L0 + 1) k1)) (fun k hk e => hne1 (e ▸ hk))
  case done =>
    rintro D ys own W hD rfl ⟨v, h1, h2, _, h3, h5⟩ hK
    have hge := outB_ge ys
    have hown : W.ownsRow w.heap.size 5 1 v (outB ys).length ((outB ys).map (Value.int .u8)) := h3
    rcases hown.2 with ⟨_, hx⟩ | ⟨g, cap, cur, rfl, _⟩
    · exfalso
      omega
    · have hcv : (convert 86 9 (.slice (some ⟨g, 0, none⟩) (outB ys).length cap)).run Tryd.prog W = .ok (.string SS) W := by
        rw [← HSS.out]
        exact run_convert_bytes_arg (P := Tryd.prog) W 86 5 Tryd.underlying86 Tryd.underlying5 g 0 (outB ys).length cap (outB ys) rfl (fun i hi => by
          rw [Nat.zero_add, hown.cellAt i (by omega)]
          simp [List.getElem?_eq_getElem hi]) 9 Tryd.underlying9
      have cB := h2.cell (i := 0) (v := .slice (some ⟨g, 0, none⟩) (outB ys).length cap) rfl
      have hBe : Below w.heap.size w (W.putObj D (.deferred none)) := h1.trans ((Kept.putObj (S := fun k => k < w.heap.size) W D (.deferred none) (by show ¬ D < _; omega)).below (fun _ h => h))
      clear h3 hown h5 hge
      generalize (outB ys).length = LN at *
      gi_wp2
      refine ⟨by simp, .inl ⟨_, _, rfl, run_takeDeferred hK, ?_⟩⟩
      exact ⟨_, results_tmp rfl _ _ _, rfl, hBe⟩
end Go.Proofs.YtfbhonjndepjbaaDoor
/- Print of any number below nought. -/
namespace Go.Proofs.YtfbhonjndepjbaaDoor
open Go.RowKit Go.Shelf

attribute [local go_sem] Oper.semAt_some

set_option maxRecDepth 100000 in
set_option maxHeartbeats 4000000 in
theorem print_neg (c e : Int) (hc : I64 c) (he : within e) (hng : (decW c e).neg = true) (w : World) (htab : PTab w) (SS : ByteArray) (HSS : Hid (strOfNums ([45] ++ outB (digsW (decW c e))) = SS)) : CallsIn Fence.wide 8 Tryd.prog 40 #[dv c e] w fun r w' => r = .returned (.string SS) ∧ Below w.heap.size w w' := by
  unfold dv
  have hS := sh_dec c e he.1 he.2 hc.1 hc.2
  refine callsIn_of_wp_marks Tryd.func40 rfl trivial ?_ rfl
  simp only [Tryd.ntmps40, List.size_toArray, List.length_cons, List.length_nil, Nat.reduceAdd, Nat.reduceSub, Array.replicate_succ, Array.replicate_zero, List.push_toArray, List.append_toArray, List.nil_append, List.cons_append]
  gi_wp2_with fail
  have hK := Row.new1 w (.cells #[.int .i64 c, .int .i64 e] 23) 23 #[.int .i64 c, .int .i64 e]
  refine ⟨trivial, (callsIn_wide.2 (taken1 c e _ _ hc he hK)).mono ?_⟩
  rintro _ w1 ⟨h1, G, hG, rfl, hR⟩
  have hB1 := (((Below.refl _ w).alloc (Nat.le_refl _) (.cells #[.int .i64 c, .int .i64 e] 23)).alloc (by simp) (.cells #[.int .i64 c, .int .i64 e] 23)).trans (h1.mono (by simp; omega))
  generalize decW c e = y at *
  rw [box_dec y hS.big] at hR
  obtain ⟨ng, m, ex⟩ := y
  simp only at hng
  subst hng
  have hGl := hR.lt
  obtain ⟨c0, c1, c2, c3⟩ := Row.four (show Row w1 G 59 #[.bool true, .int .u64 0, .int .u64 (m : Int), .int .i64 ex] from hR)
  have HDC := fun W => digitsW_call 7 ⟨true, m, ex⟩ W
  clear h1 hK
  obtain ⟨i0, hi, hzz⟩ := Option.map_eq_some_iff.1 Tryd.info5
  simp only [Prod.mk.injEq] at hzz
  obtain ⟨hz0, hz1, hz2⟩ := hzz
  have hwl : w.heap.size ≤ w1.heap.size := hB1.size
  have hown0 : (w1.alloc (.cells #[.slice none 0 0] 86)).ownsRow w.heap.size 5 1 (.slice none 0 0) 0 [] := World.ownsRow_nil _ _ _ _
  have h20 : Row (w1.alloc (.cells #[.slice none 0 0] 86)) w1.heap.size 86 #[.slice none 0 0] := Row.new w1 86 _
  have hG0 : Row (w1.alloc (.cells #[.slice none 0 0] 86)) G 59 #[.bool true, .int .u64 0, .int .u64 (m : Int), .int .i64 ex] := Row.alloc hR _
  have HNW0 : Hid (∀ (j : Nat) (u : Value), ([.int .u8 45] : List Value)[j]? = some u → ((w1.alloc (.cells #[.slice none 0 0] 86)).alloc (.cells #[.int .u8 45] 5)).cell? ((⟨w1.heap.size + 1, 0, none⟩ : Addr).add j) = some u) := by
    intro j u hu
    have hR := Row.new1 w1 (.cells #[.slice none 0 0] 86) 5 #[.int .u8 45]
    have h := hR.cell (i := j) (v := u) (by simpa using hu)
    rw [Go.WideShapes.add_plain]
    simpa using h
  gi_wp2_with (gi_at_builtin; refine wpListIn_append_own2 _ rfl (.tmp 20) (.tmp 21) 86 rfl w.heap.size 5 i0 (.int .u8 0) 1 1 Tryd.underlying86 hi hz0 hz1 hz2 rfl (by decide) _ _ _ rfl (hown0.alloc _) ⟨w1.heap.size + 1, 0, none⟩ 1 1 [.int .u8 45] rfl rfl HNW0.out (by simp [Value.oneCell']) (by unfold maxLen; omega) (by omega) (by simp; omega) ?_)
  intro v1 x1 hown1 hgrow1 hblk1
  have hR1 : Row x1 w1.heap.size 86 #[.slice none 0 0] := (hgrow1.block _ (by simp; omega) (fun e => by cases e)).trans (h20.alloc _)
  have hD1 : Row x1 G 59 #[.bool true, .int .u64 0, .int .u64 (m : Int), .int .i64 ex] := (hgrow1.block _ (by simp; omega) (fun e => by cases e)).trans (hG0.alloc _)
  have hk1 : Kept (fun k => k < w.heap.size) w x1 := (((Kept.of_below hB1 (fun k hk => hk)).alloc (fun k hk => by have : k < w.heap.size := hk; omega) _).alloc (fun k hk => by have : k < w.heap.size := hk; simp; omega) _).grown hgrow1 (fun k hk => by have : k < w.heap.size := hk; simp; omega) (fun r e hr => by cases e)
  have hszx := hgrow1.size
  obtain ⟨g1, k1, rfl⟩ := owns_form hown1
  have hne1 : (Value.slice g1 (0 + 1) k1).ownBlock ≠ some w1.heap.size := row_ne hown1 hR1 (by decide)
  have cB1 := hR1.cell (i := 0) (v := .slice none 0 0) rfl
  have fB1 := hR1.frozen 0
  have hr1 : Row (x1.setCell ⟨w1.heap.size, 0, none⟩ (.slice g1 (0 + 1) k1)) w1.heap.size 86 #[.slice g1 (0 + 1) k1] := by simpa using hR1.set 0 (.slice g1 (0 + 1) k1)
  have hg2 : Row (x1.setCell ⟨w1.heap.size, 0, none⟩ (.slice g1 (0 + 1) k1)) G 59 #[.bool true, .int .u64 0, .int .u64 (m : Int), .int .i64 ex] := hD1.off 0 _ (by omega)
  have hownb : (x1.setCell ⟨w1.heap.size, 0, none⟩ (.slice g1 (0 + 1) k1)).ownsRow w.heap.size 5 1 (.slice g1 1 k1) 1 [.int .u8 45] := owns_kept hown1 ((Kept.refl (fun k => k ≠ w1.heap.size) x1).setCell (p := ⟨w1.heap.size, 0, none⟩) (by simp) (.slice g1 (0 + 1) k1)) (fun k hk e => hne1 (e ▸ hk))
  have hBy : Below w.heap.size w (x1.setCell ⟨w1.heap.size, 0, none⟩ (.slice g1 (0 + 1) k1)) := below_set (hk1.below (fun k hk => hk)) 0 _ hwl
  obtain ⟨YY, hYY⟩ : ∃ Y, x1.setCell ⟨w1.heap.size, 0, none⟩ (.slice g1 (0 + 1) k1) = Y := ⟨_, rfl⟩
  rw [hYY] at hr1 hg2 hownb hBy
  have hr1 : Row YY w1.heap.size 86 #[.slice g1 1 k1] := hr1
  have hYO := hr1.lt
  have hYG := hg2.lt
  clear c0 c1 c2 c3
  obtain ⟨c0, c1, c2, c3⟩ := Row.four hg2
  clear hown0 h20 hG0 HNW0 hR1 hD1 hk1 hne1 hown1 hgrow1 hblk1 hszx hR
  gi_wp2_with fail
  refine ⟨trivial, (HDC _).mono ?_⟩
  rintro _ w2 ⟨rfl, hw2⟩
  rw [hw2]
  clear hw2 w2 cB1 fB1
  gi_wp2_with fail
  have hRO : Row (YY.alloc (.cells (boxW ⟨true, m, ex⟩) 59)) w1.heap.size 86 #[.slice g1 1 k1] := hr1.alloc _
  have hRD : Row (YY.alloc (.cells (boxW ⟨true, m, ex⟩) 59)) YY.heap.size 59 (boxW ⟨true, m, ex⟩) := Row.new YY 59 _
  have hBW : Below w.heap.size w (YY.alloc (.cells (boxW ⟨true, m, ex⟩) 59)) := hBy.alloc (by omega) _
  have hWs : (YY.alloc (.cells (boxW ⟨true, m, ex⟩) 59)).heap.size = YY.heap.size + 1 := by simp
  have hOW : (YY.alloc (.cells (boxW ⟨true, m, ex⟩) 59)).ownsRow w.heap.size 5 1 (.slice g1 1 k1) 1 [.int .u8 45] := hownb.alloc _
  generalize YY.alloc (.cells (boxW ⟨true, m, ex⟩) 59) = W0 at hRO hRD hBW hWs hOW ⊢
  obtain ⟨hneD, hlenD⟩ := digsW_len ⟨true, m, ex⟩ hS.big ⟨hS.lo, hS.hi⟩
  have hseq := wdigits_in 7 (by omega) YY.heap.size ⟨true, m, ex⟩ hS.big ⟨hS.lo, hS.hi⟩ W0 hRD (htab.below hBW)
  generalize digsW ⟨true, m, ex⟩ = DD at *
  generalize hBX : boxW ⟨true, m, ex⟩ = BX at *
  clear hBX
  refine wpIn_range_own rfl (by omega) (gf := 95) (lb := #[.pointer (some ⟨YY.heap.size, 0, none⟩)]) rfl trivial (enters_of Tryd.func95 (by kernel_rfl) rfl) hseq (fun k h => h.elim) (fun _ => rfl)
    (PrW w.heap.size w1.heap.size YY.heap.size BX [45] w)
    (fun pre own V V' h hm => by
      obtain ⟨v, h1, h2, hD, h3, h4⟩ := h
      refine ⟨v, h1.trans ((hm.kept (T := fun k => k < w.heap.size) (fun k hk => ⟨by omega, fun h => h, Nat.lt_of_lt_of_le hk h1.size⟩)).below (fun k hk => hk)), hm.row h2 (fun h => h), hm.row hD (fun h => h), owns_mild h3 hm (fun k _ h => h), h4⟩)
    (fun pre own V k h hk => by
      obtain ⟨v, h1, h2, hD, h3, rfl⟩ := h
      rcases hk with rfl | hk
      · exact ⟨h2.lt, by omega⟩
      · exact ⟨(h3.lt k hk).2, fun e => row_ne h3 hD (by decide) (e ▸ hk)⟩)
    ⟨_, _, hBW, hRO, hRD, hOW, rfl⟩
    (fun x _ => { tmps := #[.agg #[.int .i64 c, .int .i64 e], .pointer (some ⟨w.heap.size, 0, none⟩), .string ⟨#[]⟩, .slice (some ⟨G, 0, none⟩) 1 1, .int .i64 0, .pointer (some ⟨w1.heap.size, 0, none⟩), .int .i64 x.1, .int .u8 x.2, .tuple #[.slice (some ⟨G, 0, none⟩) 1 1, .int .i64 0], .agg #[.int .i64 c, .int .i64 e], .slice (some ⟨w.heap.size + 1, 0, none⟩) 1 1, .tuple #[.slice (some ⟨G, 0, none⟩) 1 1, .int .i64 0], .slice (some ⟨G, 0, none⟩) 1 1, .int .i64 0, .int .i64 0, .bool false, .slice (some ⟨G, 0, none⟩) 1 1, .pointer (some ⟨G, 0, none⟩), .pointer (some ⟨G, 0, none⟩), .bool true, .slice none 0 0, .slice (some ⟨w1.heap.size + 1, 0, none⟩) 1 1, .slice g1 1 k1, .slice (some ⟨G, 0, none⟩) 1 1, .pointer (some ⟨G, 0, none⟩), .agg #[.bool true, .int .u64 0, .int .u64 (m : Int), .int .i64 ex], .func (.func 95) #[] #[.pointer (some ⟨YY.heap.size, 0, none⟩)], .int .i64 x.1, .int .u8 x.2, undef, undef, undef, undef, undef, undef, undef, undef, undef, undef, undef], defers := [] })
    (fun _ W => W) (fun _ W => Kept.refl _ W) ?assign ?body ?done
  case assign =>
    intro l x W K hK
    simp only [encW] at hK ⊢
    gi_wp2
    exact hK
  case body =>
    rintro l pre x own W V hWs' _ hIV _ ⟨k, hk, rfl, hx⟩
    obtain ⟨v, h1, h2, hD, h3, rfl⟩ := hIV
    obtain ⟨pl, d⟩ := x
    simp only
    have hlo := outB_len (DD.take k)
    have hbnd : ([45] ++ outB (DD.take k)).length ≤ 200 := by
      have : (DD.take k).length ≤ 60 := by rw [List.length_take]; omega
      simp only [List.length_append, List.length_cons, List.length_nil]; omega
    have HN0 : Hid (outB (DD.take k ++ [(pl, d)]) = outB (DD.take k) ++ ((if pl = -1 then [46] else []) ++ [d])) := outB_snoc _ _
    have hOl : w1.heap.size < V.heap.size := h2.lt
    clear hlo hx
    by_cases hpl : pl = -1
    · subst hpl
      have HN : Hid (([45] ++ outB (DD.take k ++ [(-1, d)])).length = ([45] ++ outB (DD.take k)).length + 1 + 1 ∧ ([45] ++ outB (DD.take k ++ [(-1, d)])).map (Value.int .u8) = ([45] ++ outB (DD.take k)).map (Value.int .u8) ++ [.int .u8 46, .int .u8 d]) := by
        show (_ ∧ _)
        rw [HN0.out]; simp
      generalize ([45] ++ outB (DD.take k)).length = L0 at *
      generalize ([45] ++ outB (DD.take k)).map (Value.int .u8) = Z0 at *
      have hown : V.ownsRow w.heap.size 5 1 v L0 Z0 := h3
      obtain ⟨gu, cu, rfl⟩ := owns_form hown
      have cB := h2.cell (i := 0) (v := .slice gu L0 cu) rfl
      have hne := row_ne hown h2 (by decide)
      have hblt := h2.lt
      have hdlt := hD.lt
      have hVs := h1.size
      have HNW1 : Hid (∀ (j : Nat) (u : Value), ([.int .u8 46] : List Value)[j]? = some u → (V.alloc (.cells #[.int .u8 46] 5)).cell? ((⟨V.heap.size, 0, none⟩ : Addr).add j) = some u) := by
        intro j u hu
        have hR := Row.new V 5 #[.int .u8 46]
        have h := hR.cell (i := j) (v := u) (by simpa using hu)
        rw [Go.WideShapes.add_plain]
        simpa using h
      have hsz1 : w.heap.size ≤ V.heap.size := by omega
      gi_wp2_with (gi_at_builtin; refine wpListIn_append_own2 _ rfl (.tmp 31) (.tmp 32) 86 rfl w.heap.size 5 i0 (.int .u8 0) 1 1 Tryd.underlying86 hi hz0 hz1 hz2 rfl (by decide) _ _ _ rfl (hown.alloc _) ⟨V.heap.size, 0, none⟩ 1 1 [.int .u8 46] rfl rfl HNW1.out (by simp [Value.oneCell']) (by unfold maxLen; omega) (by omega) (by simp; omega) ?_)
      intro v1 x1 hown1 hgrow1 hblk1
      have hR1 : Row x1 w1.heap.size 86 #[.slice gu L0 cu] := (hgrow1.block _ (by simp; omega) (fun e => hne e.symm)).trans (h2.alloc _)
      have hD1 : Row x1 YY.heap.size 59 BX := (hgrow1.block _ (by simp; omega) (fun e => (row_ne hown hD (by decide)) e.symm)).trans (hD.alloc _)
      have hko1 : KeepsOthers V x1 := (KeepsOthers.alloc V _).trans (KeepsOthers.of_grownBy hgrow1 (fun j o hj ho => owns_cells (hown.alloc _) j o hj ho))
      have hk1 : Kept (fun k => k < V.heap.size ∧ ¬ (k = w1.heap.size ∨ (Value.slice gu L0 cu).ownBlock = some k)) V x1 := ((Kept.refl _ V).alloc (fun k hk => hk.1) _).grown hgrow1 (fun k hk => by have := hk.1; simp; omega) (fun r e hr => hr.2 (.inr e))
      obtain ⟨g1, k1, rfl⟩ := owns_form hown1
      have cB1 := hR1.cell (i := 0) (v := .slice gu L0 cu) rfl
      have fB1 := hR1.frozen 0
      have hr1 := hR1.set 0 (.slice g1 (L0 + 1) k1)
      have hne1 : (Value.slice g1 (L0 + 1) k1).ownBlock ≠ some w1.heap.size := row_ne hown1 hR1 (by decide)
      have hs1 := hk1.size
      have hownb : (x1.setCell ⟨w1.heap.size, 0, none⟩ (.slice g1 (L0 + 1) k1)).ownsRow w.heap.size 5 1 (.slice g1 (L0 + 1) k1) (L0 + 1) (Z0 ++ [.int .u8 46]) := owns_kept hown1 ((Kept.refl (fun k => k ≠ w1.heap.size) x1).setCell (p := ⟨w1.heap.size, 0, none⟩) (by simp) (.slice g1 (L0 + 1) k1)) (fun k hk e => hne1 (e ▸ hk))
      have hr1 : Row (x1.setCell ⟨w1.heap.size, 0, none⟩ (.slice g1 (L0 + 1) k1)) w1.heap.size 86 #[.slice g1 (L0 + 1) k1] := by simpa using hr1
      have hD1b : Row (x1.setCell ⟨w1.heap.size, 0, none⟩ (.slice g1 (L0 + 1) k1)) YY.heap.size 59 BX := hD1.off 0 _ (by omega)
      have hkob := hko1.trans (KeepsOthers.setCell x1 ⟨w1.heap.size, 0, none⟩ (.slice g1 (L0 + 1) k1))
      have hkb := hk1.setCell (p := ⟨w1.heap.size, 0, none⟩) (fun h => h.2 (.inl rfl)) (.slice g1 (L0 + 1) k1)
      have hBb : Below w.heap.size w (x1.setCell ⟨w1.heap.size, 0, none⟩ (.slice g1 (L0 + 1) k1)) := h1.trans ((hkb.mono (fun k hk => ⟨by omega, by
          rintro (h | h)
          · omega
          · have := (hown.lt k h).1; omega⟩)).below (fun k hk => hk))
      obtain ⟨Y, hY⟩ : ∃ Y, x1.setCell ⟨w1.heap.size, 0, none⟩ (.slice g1 (L0 + 1) k1) = Y := ⟨_, rfl⟩
      rw [hY] at hownb hr1 hD1b hkob hkb hBb
      have hneb := row_ne hownb hr1 (by decide)
      have cBb := hr1.cell (i := 0) (v := .slice g1 (L0 + 1) k1) rfl
      have hYl := hr1.lt
      have hYd := hD1b.lt
      have hYs := hkb.size
      have HNW2 : Hid (∀ (j : Nat) (u : Value), ([.int .u8 d] : List Value)[j]? = some u → (Y.alloc (.cells #[.int .u8 d] 5)).cell? ((⟨Y.heap.size, 0, none⟩ : Addr).add j) = some u) := by
        intro j u hu
        have hR := Row.new Y 5 #[.int .u8 d]
        have h := hR.cell (i := j) (v := u) (by simpa using hu)
        rw [Go.WideShapes.add_plain]
        simpa using h
      have hsz2 : w.heap.size ≤ Y.heap.size := by omega
      gi_wp2_with (gi_at_builtin; refine wpListIn_append_own2 _ rfl (.tmp 34) (.tmp 36) 86 rfl w.heap.size 5 i0 (.int .u8 0) 1 1 Tryd.underlying86 hi hz0 hz1 hz2 rfl (by decide) _ _ _ rfl (hownb.alloc _) ⟨Y.heap.size, 0, none⟩ 1 1 [.int .u8 d] rfl rfl HNW2.out (by simp [Value.oneCell']) (by unfold maxLen; omega) (by omega) (by simp; omega) ?_)
      intro v2 x2 hown2 hgrow2 hblk2
      have hR2 : Row x2 w1.heap.size 86 #[.slice g1 (L0 + 1) k1] := (hgrow2.block _ (by simp; omega) (fun e => hneb e.symm)).trans (hr1.alloc _)
      have hD2 : Row x2 YY.heap.size 59 BX := (hgrow2.block _ (by simp; omega) (fun e => (row_ne hownb hD1b (by decide)) e.symm)).trans (hD1b.alloc _)
      have hko2 : KeepsOthers Y x2 := (KeepsOthers.alloc Y _).trans (KeepsOthers.of_grownBy hgrow2 (fun j o hj ho => owns_cells (hownb.alloc _) j o hj ho))
      have hk2 : Kept (fun k => k < Y.heap.size ∧ ¬ (k = w1.heap.size ∨ (Value.slice g1 (L0 + 1) k1).ownBlock = some k)) Y x2 := ((Kept.refl _ Y).alloc (fun k hk => hk.1) _).grown hgrow2 (fun k hk => by have := hk.1; simp; omega) (fun r e hr => hr.2 (.inr e))
      obtain ⟨g2, k2, rfl⟩ := owns_form hown2
      have cB2 := hR2.cell (i := 0) (v := .slice g1 (L0 + 1) k1) rfl
      have fB2 := hR2.frozen 0
      have hr2 := hR2.set 0 (.slice g2 (L0 + 1 + 1) k2)
      have hne2 : (Value.slice g2 (L0 + 1 + 1) k2).ownBlock ≠ some w1.heap.size := row_ne hown2 hR2 (by decide)
      have hs2 := hk2.size
      gi_wp2
      refine ⟨((hkob.trans hko2).trans (KeepsOthers.setCell _ _ _)).from _, ?_, _, .slice g2 (L0 + 1 + 1) k2, ?_, by simpa using hr2, hD2.off 0 _ (by omega), ?_, rfl⟩
      · refine Kept.setCell (p := ⟨w1.heap.size, 0, none⟩) ?_ (fun h => h.2 (.inl rfl)) _
        exact hkb.trans (hk2.mono (fun k hk => ⟨by omega, by
          rintro (h | h)
          · exact hk.2 (.inl h)
          · rcases hblk1 k h with hb | hb
            · exact hk.2 (.inr hb)
            · omega⟩))
      · exact (hBb.trans ((hk2.mono (fun k hk => ⟨by omega, by
          rintro (h | h)
          · omega
          · have := (hownb.lt k h).1; omega⟩)).below (fun k hk => hk))).setCell (p := ⟨w1.heap.size, 0, none⟩) (by show w.heap.size ≤ w1.heap.size; omega) _
      · rw [HN.out.1, HN.out.2]
        exact owns_kept hown2 ((Kept.refl (fun k => k ≠ w1.heap.size) x2).setCell (p := ⟨w1.heap.size, 0, none⟩) (by simp) (.slice g2 (L0 + 1 + 1) k2)) (fun k hk e => hne2 (e ▸ hk))
    · have HN : Hid (([45] ++ outB (DD.take k ++ [(pl, d)])).length = ([45] ++ outB (DD.take k)).length + 1 ∧ ([45] ++ outB (DD.take k ++ [(pl, d)])).map (Value.int .u8) = ([45] ++ outB (DD.take k)).map (Value.int .u8) ++ [.int .u8 d]) := by
        show (_ ∧ _)
        rw [HN0.out, if_neg hpl]; simp
      generalize ([45] ++ outB (DD.take k)).length = L0 at *
      generalize ([45] ++ outB (DD.take k)).map (Value.int .u8) = Z0 at *
      have hown : V.ownsRow w.heap.size 5 1 v L0 Z0 := h3
      obtain ⟨gu, cu, rfl⟩ := owns_form hown
      have cB := h2.cell (i := 0) (v := .slice gu L0 cu) rfl
      have hne := row_ne hown h2 (by decide)
      have hblt := h2.lt
      have hdlt := hD.lt
      have hVs := h1.size
      have HNW1 : Hid (∀ (j : Nat) (u : Value), ([.int .u8 d] : List Value)[j]? = some u → (V.alloc (.cells #[.int .u8 d] 5)).cell? ((⟨V.heap.size, 0, none⟩ : Addr).add j) = some u) := by
        intro j u hu
        have hR := Row.new V 5 #[.int .u8 d]
        have h := hR.cell (i := j) (v := u) (by simpa using hu)
        rw [Go.WideShapes.add_plain]
        simpa using h
      have hsz1 : w.heap.size ≤ V.heap.size := by omega
      have gpl : (pl == -1) = false := by simpa using hpl
      gi_wp2_with (gi_at_builtin; refine wpListIn_append_own2 _ rfl (.tmp 34) (.tmp 36) 86 rfl w.heap.size 5 i0 (.int .u8 0) 1 1 Tryd.underlying86 hi hz0 hz1 hz2 rfl (by decide) _ _ _ rfl (hown.alloc _) ⟨V.heap.size, 0, none⟩ 1 1 [.int .u8 d] rfl rfl HNW1.out (by simp [Value.oneCell']) (by unfold maxLen; omega) (by omega) (by simp; omega) ?_)
      intro v1 x1 hown1 hgrow1 hblk1
      have hR1 : Row x1 w1.heap.size 86 #[.slice gu L0 cu] := (hgrow1.block _ (by simp; omega) (fun e => hne e.symm)).trans (h2.alloc _)
      have hD1 : Row x1 YY.heap.size 59 BX := (hgrow1.block _ (by simp; omega) (fun e => (row_ne hown hD (by decide)) e.symm)).trans (hD.alloc _)
      have hko1 : KeepsOthers V x1 := (KeepsOthers.alloc V _).trans (KeepsOthers.of_grownBy hgrow1 (fun j o hj ho => owns_cells (hown.alloc _) j o hj ho))
      have hk1 : Kept (fun k => k < V.heap.size ∧ ¬ (k = w1.heap.size ∨ (Value.slice gu L0 cu).ownBlock = some k)) V x1 := ((Kept.refl _ V).alloc (fun k hk => hk.1) _).grown hgrow1 (fun k hk => by have := hk.1; simp; omega) (fun r e hr => hr.2 (.inr e))
      obtain ⟨g1, k1, rfl⟩ := owns_form hown1
      have cB1 := hR1.cell (i := 0) (v := .slice gu L0 cu) rfl
      have fB1 := hR1.frozen 0
      have hr1 := hR1.set 0 (.slice g1 (L0 + 1) k1)
      have hne1 : (Value.slice g1 (L0 + 1) k1).ownBlock ≠ some w1.heap.size := row_ne hown1 hR1 (by decide)
      have hs1 := hk1.size
      clear cB HNW1
      gi_wp2
      refine ⟨(hko1.trans (KeepsOthers.setCell _ _ _)).from _, hk1.setCell (p := ⟨w1.heap.size, 0, none⟩) (fun h => h.2 (.inl rfl)) _, _, .slice g1 (L0 + 1) k1, ?_, by simpa using hr1, hD1.off 0 _ (by omega), ?_, rfl⟩
      · exact (h1.trans (hk1.mono (fun k hk => ⟨by omega, by
          rintro (h | h)
          · omega
          · have := (hown.lt k h).1; omega⟩)|>.below (fun k hk => hk))).setCell (p := ⟨w1.heap.size, 0, none⟩) (by show w.heap.size ≤ w1.heap.size; omega) _
      · rw [HN.out.1, HN.out.2]
        exact owns_kept hown1 ((Kept.refl (fun k => k ≠ w1.heap.size) x1).setCell (p := ⟨w1.heap.size, 0, none⟩) (by simp) (.slice g1 (L0 + 1) k1)) (fun k hk e => hne1 (e ▸ hk))
  case done =>
    rintro D ys own W hD rfl ⟨v, h1, h2, _, h3, h5⟩ hK
    have hge := outB_ge ys
    have hown : W.ownsRow w.heap.size 5 1 v ([45] ++ outB ys).length (([45] ++ outB ys).map (Value.int .u8)) := h3
    rcases hown.2 with ⟨_, hx⟩ | ⟨g, cap, cur, rfl, _⟩
    · exfalso
      simp at hx
    · have hcv : (convert 86 9 (.slice (some ⟨g, 0, none⟩) ([45] ++ outB ys).length cap)).run Tryd.prog W = .ok (.string SS) W := by
        rw [← HSS.out]
        exact run_convert_bytes_arg (P := Tryd.prog) W 86 5 Tryd.underlying86 Tryd.underlying5 g 0 ([45] ++ outB ys).length cap ([45] ++ outB ys) rfl (fun i hi => by
          rw [Nat.zero_add, hown.cellAt i (by omega)]
          have key : ∀ ZZ : List Int, i < ZZ.length → (ZZ.map (Value.int .u8))[i]? = some (Value.int .u8 (ZZ[i]?.getD 0)) := by
            intro ZZ h; simp [List.getElem?_eq_getElem h]
          exact key _ hi) 9 Tryd.underlying9
      have cB := h2.cell (i := 0) (v := .slice (some ⟨g, 0, none⟩) ([45] ++ outB ys).length cap) rfl
      have hBe : Below w.heap.size w (W.putObj D (.deferred none)) := h1.trans ((Kept.putObj (S := fun k => k < w.heap.size) W D (.deferred none) (by show ¬ D < _; omega)).below (fun _ h => h))
      clear h3 hown h5 hge
      generalize ([45] ++ outB ys).length = LN at *
      gi_wp2
      refine ⟨by simp, .inl ⟨_, _, rfl, run_takeDeferred hK, ?_⟩⟩
      exact ⟨_, results_tmp rfl _ _ _, rfl, hBe⟩
/-- How a number is written. -/
def signL (b : Bool) : List Int := if b then [45] else []
def printS (c e : Int) : ByteArray := strOfNums (signL (decW c e).neg ++ outB (digsW (decW c e)))
theorem print_any (c e : Int) (hc : I64 c) (he : within e) (w : World) (htab : PTab w) : Calls Tryd.prog 40 #[dv c e] w fun r w' => r = .returned (.string (printS c e)) ∧ Below w.heap.size w w' := by
  cases hn : (decW c e).neg
  · exact callsIn_wide.1 (print_pos c e hc he hn w htab _ (by show _ = _; unfold printS signL; rw [hn]; rfl))
  · exact callsIn_wide.1 (print_neg c e hc he hn w htab _ (by show _ = _; unfold printS signL; rw [hn]; rfl))
set_option maxRecDepth 100000 in
set_option maxHeartbeats 400000 in
theorem print_bad (c e : Int) (he : ¬ within e) (w : World) : Calls Tryd.prog 40 #[dv c e] w fun r w' => r = .returned (.string ⟨#[63]⟩) ∧ Below w.heap.size w w' := by
  unfold dv
  have hK := Row.new1 w (.cells #[.int .i64 c, .int .i64 e] 23) 23 #[.int .i64 c, .int .i64 e]
  have HT := taken1_bad c e _ _ he hK
  have HT : Hid _ := HT
  go_enter Tryd.func40, Tryd.ntmps40
  go_wp2_with fail
  refine Calls.mono HT.out ?_
  rintro _ w1 ⟨h1, rfl⟩
  have hB1 := (((Below.refl _ w).alloc (Nat.le_refl _) (.cells #[.int .i64 c, .int .i64 e] 23)).alloc (by simp) (.cells #[.int .i64 c, .int .i64 e] 23)).trans (h1.mono (by simp; omega))
  clear h1 HT hK
  go_wp2
  go_ret
  exact ⟨rfl, hB1⟩
end Go.Proofs.YtfbhonjndepjbaaDoor
