import Derived.Test.YtnblbakjfpfipaaGreatDoorWle
import Derived.Test.YtnblbakjfpfipaaGreatDoorWrv
/- Letters. -/
namespace Go.Proofs.YtnblbakjfpfipaaGreatDoor
open Go.RowKit Go.Shelf

attribute [local go_sem] Oper.semAt_some

theorem Tryz.info5 : (Tryz.prog.info? 5).map (fun i => (i.zero, i.size, i.bytes)) = some (some (.int .u8 0), 1, 1) := by kernel_rfl
def LtI (N O DB col : Nat) (w0 : World) (pre : List Nat) (own : Nat → Prop) (V : World) : Prop :=
  ∃ v, Below N w0 V ∧ Row V O 46 #[v] ∧ Row V DB 3 #[.int .i64 (col : Int)] ∧ V.ownsRow N 5 1 v pre.length (pre.map (fun x : Nat => Value.int .u8 (x : Int))) ∧ pre.length ≤ 1000 ∧ own = fun k => k = O ∨ v.ownBlock = some k
set_option maxRecDepth 100000 in
set_option maxHeartbeats 1000000 in
theorem back_call (n : Nat) (col : Int) (w : World) : CallsIn Fence.wide n Tryz.prog 34 #[.int .i64 col] w fun e w' => e = .returned (.func (.func 55) #[] #[.pointer (some ⟨w.heap.size, 0, none⟩)]) ∧ w' = w.alloc (.cells #[.int .i64 col] 3) := by
  refine callsIn_wide.2 ?_
  go_enter Tryz.func34, Tryz.ntmps34
  go_wp2
  go_ret
  exact ⟨rfl, rfl⟩
/-- A column's letters. -/
def lettersL (n : Nat) : List UInt8 := (backL n).reverse.map UInt8.ofNat
set_option maxRecDepth 100000 in
set_option maxHeartbeats 2000000 in
theorem letters_ok (col : Nat) (h1 : 1 ≤ col) (h64 : col ≤ 64) (w : World) : CallsIn Fence.wide 8 Tryz.prog 12 #[.int .i64 (col : Int)] w fun e w' => e = .returned (.string (⟨(lettersL col).toArray⟩ : ByteArray)) ∧ Below w.heap.size w w' := by
  refine callsIn_of_wp_marks Tryz.func12 rfl trivial ?_ rfl
  simp only [Tryz.ntmps12, List.size_toArray, List.length_cons, List.length_nil, Nat.reduceAdd, Nat.reduceSub, Array.replicate_succ, Array.replicate_zero, List.push_toArray, List.append_toArray, List.nil_append, List.cons_append]
  have HC : Hid _ := column_any (col : Int) w
  rw [show colB (col : Int) = true by simp [colB]; omega] at HC
  gi_wp2_with fail
  refine ⟨trivial, (callsIn_wide.2 HC.out).mono ?_⟩
  rintro e w0 ⟨rfl, rfl⟩
  clear HC
  gi_wp2_with fail
  refine ⟨trivial, (back_call _ _ _).mono ?_⟩
  rintro e w2 ⟨rfl, hw2⟩
  rw [hw2]
  clear hw2 w2
  gi_wp2_with fail
  obtain ⟨i0, hi, hzz⟩ := Option.map_eq_some_iff.1 Tryz.info5
  simp only [Prod.mk.injEq] at hzz
  obtain ⟨hz0, hz1, hz2⟩ := hzz
  have hRO : Row ((w0.alloc (.cells #[.slice none 0 0] 46)).alloc (.cells #[.int .i64 (col : Int)] 3)) w0.heap.size 46 #[.slice none 0 0] := (Row.new w0 46 _).alloc _
  have hRD : Row ((w0.alloc (.cells #[.slice none 0 0] 46)).alloc (.cells #[.int .i64 (col : Int)] 3)) (w0.heap.size + 1) 3 #[.int .i64 (col : Int)] := Row.new1 w0 _ 3 _
  have hBW : Below w0.heap.size w0 ((w0.alloc (.cells #[.slice none 0 0] 46)).alloc (.cells #[.int .i64 (col : Int)] 3)) := ((Below.refl _ w0).alloc (Nat.le_refl _) _).alloc (by simp) _
  have hWs : ((w0.alloc (.cells #[.slice none 0 0] 46)).alloc (.cells #[.int .i64 (col : Int)] 3)).heap.size = w0.heap.size + 2 := by simp
  generalize (w0.alloc (.cells #[.slice none 0 0] 46)).alloc (.cells #[.int .i64 (col : Int)] 3) = W0 at hRO hRD hBW hWs ⊢
  refine wpIn_range_own rfl (by omega) (gf := 55) (lb := #[.pointer (some ⟨w0.heap.size + 1, 0, none⟩)]) rfl trivial (enters_of Tryz.func55 (by kernel_rfl) rfl) (letters_in 7 (by omega) (w0.heap.size + 1) col h64 W0 hRD) (fun k h => h.elim) (fun _ => rfl)
    (LtI w0.heap.size w0.heap.size (w0.heap.size + 1) col w0)
    (fun pre own V V' h hm => by
      obtain ⟨v, h1, h2, hD, h3, hp, h4⟩ := h
      refine ⟨v, h1.trans ((hm.kept (T := fun k => k < w0.heap.size) (fun k hk => ⟨by omega, fun h => h, Nat.lt_of_lt_of_le hk h1.size⟩)).below (fun k hk => hk)), hm.row h2 (fun h => h), hm.row hD (fun h => h), owns_mild h3 hm (fun k _ h => h), hp, h4⟩)
    (fun pre own V k h hk => by
      obtain ⟨v, h1, h2, hD, h3, hp, rfl⟩ := h
      rcases hk with rfl | hk
      · exact ⟨h2.lt, by omega⟩
      · exact ⟨(h3.lt k hk).2, fun e => row_ne h3 hD (by decide) (e ▸ hk)⟩)
    ⟨_, _, hBW, hRO, hRD, World.ownsRow_nil _ _ _ _, by simp, rfl⟩
    (fun x _ => { tmps := #[.int .i64 (col : Int), undef, .string ⟨#[]⟩, .pointer (some ⟨w0.heap.size, 0, none⟩), .int .u8 (x : Int), .int .i64 (col : Int), .bool true, .bool false, .int .i64 (col : Int), .func (.func 55) #[] #[.pointer (some ⟨w0.heap.size + 1, 0, none⟩)], .int .u8 (x : Int), undef, undef, undef, undef, undef, undef, undef, undef], defers := [] })
    (fun _ W => W) (fun _ W => Kept.refl _ W) ?assign ?body ?done
  case assign =>
    intro l x W K hK
    simp only [encB] at hK ⊢
    gi_wp2
    exact hK
  case body =>
    rintro l pre x own W V hWs' _ hIV _ ⟨hpl, hx1, hx2⟩
    obtain ⟨v, h1', h2, hD, h3, hp, rfl⟩ := hIV
    have hown : V.ownsRow w0.heap.size 5 1 v pre.length (pre.map (fun x : Nat => Value.int .u8 (x : Int))) := h3
    obtain ⟨gu, cu, rfl⟩ := owns_form hown
    have cB := h2.cell (i := 0) (v := .slice gu pre.length cu) rfl
    have hne := row_ne hown h2 (by decide)
    have hblt := h2.lt
    have hdlt := hD.lt
    have hVs := h1'.size
    have HNW1 : Hid (∀ (j : Nat) (u : Value), ([.int .u8 (x : Int)] : List Value)[j]? = some u → (V.alloc (.cells #[.int .u8 (x : Int)] 5)).cell? ((⟨V.heap.size, 0, none⟩ : Addr).add j) = some u) := by
      intro j u hu
      have hR := Row.new V 5 #[.int .u8 (x : Int)]
      have h := hR.cell (i := j) (v := u) (by simpa using hu)
      rw [Go.WideShapes.add_plain]
      simpa using h
    have hsz1 : w0.heap.size ≤ V.heap.size := by omega
    gi_wp2_with (gi_at_builtin; refine wpListIn_append_own2 _ rfl (.tmp 11) (.tmp 13) 46 rfl w0.heap.size 5 i0 (.int .u8 0) 1 1 Tryz.underlying46 hi hz0 hz1 hz2 rfl (by decide) _ _ _ rfl (hown.alloc _) ⟨V.heap.size, 0, none⟩ 1 1 [.int .u8 (x : Int)] rfl rfl HNW1.out (by simp [Value.oneCell']) (by unfold maxLen; omega) (by omega) (by simp; omega) ?_)
    intro v1 x1 hown1 hgrow1 hblk1
    have hR1 : Row x1 w0.heap.size 46 #[.slice gu pre.length cu] := (hgrow1.block _ (by simp; omega) (fun e => hne e.symm)).trans (h2.alloc _)
    have hD1 : Row x1 (w0.heap.size + 1) 3 #[.int .i64 (col : Int)] := (hgrow1.block _ (by simp; omega) (fun e => (row_ne hown hD (by decide)) e.symm)).trans (hD.alloc _)
    have hko1 : KeepsOthers V x1 := (KeepsOthers.alloc V _).trans (KeepsOthers.of_grownBy hgrow1 (fun j o hj ho => owns_cells (hown.alloc _) j o hj ho))
    have hk1 : Kept (fun k => k < V.heap.size ∧ ¬ (k = w0.heap.size ∨ (Value.slice gu pre.length cu).ownBlock = some k)) V x1 := ((Kept.refl _ V).alloc (fun k hk => hk.1) _).grown hgrow1 (fun k hk => by have := hk.1; simp; omega) (fun r e hr => hr.2 (.inr e))
    obtain ⟨g1, k1, rfl⟩ := owns_form hown1
    have cB1 := hR1.cell (i := 0) (v := .slice gu pre.length cu) rfl
    have fB1 := hR1.frozen 0
    have hr1 := hR1.set 0 (.slice g1 (pre.length + 1) k1)
    have hne1 : (Value.slice g1 (pre.length + 1) k1).ownBlock ≠ some w0.heap.size := row_ne hown1 hR1 (by decide)
    have hs1 := hk1.size
    clear cB HNW1
    gi_wp2
    refine ⟨(hko1.trans (KeepsOthers.setCell _ _ _)).from _, hk1.setCell (p := ⟨w0.heap.size, 0, none⟩) (fun h => h.2 (.inl rfl)) _, _, .slice g1 (pre.length + 1) k1, ?_, by simpa using hr1, hD1.off 0 _ (by omega), ?_, by simp; omega, rfl⟩
    · exact (h1'.trans (hk1.mono (fun k hk => ⟨by omega, by
        rintro (h | h)
        · omega
        · have := (hown.lt k h).1; omega⟩)|>.below (fun k hk => hk))).setCell (p := ⟨w0.heap.size, 0, none⟩) (by show w0.heap.size ≤ w0.heap.size; omega) _
    · rw [List.length_append, List.map_append]
      exact owns_kept hown1 ((Kept.refl (fun k => k ≠ w0.heap.size) x1).setCell (p := ⟨w0.heap.size, 0, none⟩) (by simp) (.slice g1 (pre.length + 1) k1)) (fun k hk e => hne1 (e ▸ hk))
  case done =>
    rintro D ys own W hD rfl ⟨v, h1', h2, _, h3, hp, h5⟩ hK
    have hBe : ∀ W' : World, Below w0.heap.size w0 W' → w0.heap.size ≤ D → Below w0.heap.size w0 (W'.putObj D (.deferred none)) := fun W' h hd => h.trans ((Kept.putObj (S := fun k => k < w0.heap.size) W' D (.deferred none) (by show ¬ D < _; omega)).below (fun _ h => h))
    rcases backL_len col h64 h1 with ⟨a, e⟩ | ⟨a, b, e⟩
    · rw [e] at h3
      have hown : W.ownsRow w0.heap.size 5 1 v 1 [.int .u8 (a : Int)] := h3
      rcases hown.2 with ⟨_, hx⟩ | ⟨g, cap, cur, rfl, _⟩
      · cases hx
      · have hcv : (convert 46 9 (.slice (some ⟨g, 0, none⟩) 1 cap)).run Tryz.prog W = .ok (.string (⟨(lettersL col).toArray⟩ : ByteArray)) W := by
          have := run_convert_bytes_arg (P := Tryz.prog) W 46 5 Tryz.underlying46 Tryz.underlying5 g 0 1 cap [(a : Int)] rfl (fun i hi => by
            rw [Nat.zero_add, hown.cellAt i (by omega)]
            obtain rfl : i = 0 := by omega
            rfl) 9 Tryz.underlying9
          rw [show (⟨(lettersL col).toArray⟩ : ByteArray) = strOfNums [(a : Int)] by unfold lettersL; rw [e]; rfl]
          exact this
        have cB := h2.cell (i := 0) (v := .slice (some ⟨g, 0, none⟩) 1 cap) rfl
        have hBf := hBe W h1' (by omega)
        have HV : Hid _ := rev1 g cap W
        clear h3 hown h5 hBe
        gi_wp2_with fail
        refine ⟨trivial, (callsIn_wide.2 HV.out).mono ?_⟩
        rintro _ wv ⟨rfl, hwv⟩
        rw [hwv]
        clear hwv wv HV
        gi_wp2
        refine ⟨by simp, .inl ⟨_, _, rfl, run_takeDeferred hK, ?_⟩⟩
        exact ⟨_, results_tmp rfl _ _ _, rfl, hBf⟩
    · rw [e] at h3
      have hown : W.ownsRow w0.heap.size 5 1 v 2 [.int .u8 (a : Int), .int .u8 (b : Int)] := h3
      have hne := row_ne hown h2 (by decide)
      rcases hown.2 with ⟨_, hx⟩ | ⟨g, cap, cur, rfl, hgb, hgr, _⟩
      · cases hx
      · have hg : Row W g 5 cur := hgr
        have g0 : W.cell? ⟨g, 0, none⟩ = some (.int .u8 (a : Int)) := by have := hown.cellAt 0 (by omega); exact this
        have g1 : W.cell? ⟨g, 1, none⟩ = some (.int .u8 (b : Int)) := by have := hown.cellAt 1 (by omega); exact this
        have hcs : 2 ≤ cur.size := by
          simp [World.cell?, show W.heap[g]? = _ from hg] at g1
          obtain ⟨h, _⟩ := Array.getElem?_eq_some_iff.1 g1
          omega
        have hgo : w0.heap.size ≠ g := fun e2 => hne (by rw [e2]; rfl)
        have hDg : D ≠ g := fun e2 => by rw [e2, show W.heap[g]? = _ from hg] at hK; cases hK
        have HV : Hid _ := rev2 g cap (a : Int) (b : Int) W g0 g1 (fun o => hg.frozen o)
        have hg2 := (hg.set 0 (.int .u8 (b : Int))).set 1 (.int .u8 (a : Int))
        have hO2 := (h2.off (B' := g) 0 (.int .u8 (b : Int)) hgo).off (B' := g) 1 (.int .u8 (a : Int)) hgo
        have hB2 := below_set (below_set h1' (B := g) 0 (.int .u8 (b : Int)) hgb) (B := g) 1 (.int .u8 (a : Int)) hgb
        have hK2 : ((W.setCell ⟨g, 0, none⟩ (.int .u8 (b : Int))).setCell ⟨g, 1, none⟩ (.int .u8 (a : Int))).heap[D]? = some (.deferred (some [])) := by
          rw [Below.heap_setCell _ _ _ _ hDg, Below.heap_setCell _ _ _ _ hDg]
          exact hK
        have cB := h2.cell (i := 0) (v := .slice (some ⟨g, 0, none⟩) 2 cap) rfl
        clear h3 h5 hown
        gi_wp2_with fail
        refine ⟨trivial, (callsIn_wide.2 HV.out).mono ?_⟩
        rintro _ wv ⟨rfl, q, hwv⟩
        have hg3 : Row wv g 5 ((cur.setIfInBounds 0 (.int .u8 (b : Int))).setIfInBounds 1 (.int .u8 (a : Int))) := by rw [hwv]; exact hg2
        have hO3 : Row wv w0.heap.size 46 #[.slice (some ⟨g, 0, none⟩) 2 cap] := by rw [hwv]; exact hO2
        have hB3 : Below w0.heap.size w0 wv := by rw [hwv]; exact below_drewN hB2 q
        have hK3 : wv.heap[D]? = some (.deferred (some [])) := by rw [hwv]; exact hK2
        clear hwv HV hg2 hO2 hB2 hK2 cB g0 g1 hK h2 h1' hg
        have hcv : (convert 46 9 (.slice (some ⟨g, 0, none⟩) 2 cap)).run Tryz.prog wv = .ok (.string (⟨(lettersL col).toArray⟩ : ByteArray)) wv := by
          have := run_convert_bytes_arg (P := Tryz.prog) wv 46 5 Tryz.underlying46 Tryz.underlying5 g 0 2 cap [(b : Int), (a : Int)] rfl (fun i hi => by
            rw [Nat.zero_add]
            refine hg3.cell ?_
            have : i = 0 ∨ i = 1 := by omega
            rcases this with rfl | rfl
            · rw [Array.getElem?_setIfInBounds, if_neg (by decide), Array.getElem?_setIfInBounds, if_pos rfl, if_pos (by omega)]
              rfl
            · rw [Array.getElem?_setIfInBounds, if_pos rfl, if_pos (by simp; omega)]
              rfl) 9 Tryz.underlying9
          rw [show (⟨(lettersL col).toArray⟩ : ByteArray) = strOfNums [(b : Int), (a : Int)] by unfold lettersL; rw [e]; rfl]
          exact this
        have cB := hO3.cell (i := 0) (v := .slice (some ⟨g, 0, none⟩) 2 cap) rfl
        have hBf := hBe wv hB3 (by omega)
        clear hBe hg3
        gi_wp2
        refine ⟨by simp, .inl ⟨_, _, rfl, run_takeDeferred hK3, ?_⟩⟩
        exact ⟨_, results_tmp rfl _ _ _, rfl, hBf⟩
def lettersS (n : Int) : List UInt8 := if colB n then lettersL n.toNat else []
set_option maxRecDepth 100000 in
set_option maxHeartbeats 400000 in
theorem letters_any (n : Int) (w : World) : Calls Tryz.prog 12 #[.int .i64 n] w fun e w' => e = .returned (.string (⟨(lettersS n).toArray⟩ : ByteArray)) ∧ Below w.heap.size w w' := by
  unfold lettersS
  cases h : colB n
  · have HC : ∀ W, Hid _ := fun W => column_any n W
    rw [h] at HC
    go_enter Tryz.func12, Tryz.ntmps12
    go_wp2_with fail
    refine Calls.mono (HC _).out ?_
    rintro _ w1 ⟨rfl, rfl⟩
    go_wp2
    go_ret
    exact ⟨rfl, Below.refl _ _⟩
  · have hb : 1 ≤ n ∧ n ≤ 64 := by simpa [colB] using h
    obtain ⟨c, rfl⟩ : ∃ c : Nat, n = c := ⟨n.toNat, by omega⟩
    exact callsIn_wide.1 (letters_ok c (by omega) (by omega) w)
end Go.Proofs.YtnblbakjfpfipaaGreatDoor
