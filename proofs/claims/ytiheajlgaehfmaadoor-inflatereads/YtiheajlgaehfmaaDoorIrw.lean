import Derived.Test.YtiheajlgaehfmaaDoorIsd
import Derived.Test.YtiheajlgaehfmaaDoorPrq
import Derived.Test.YtiheajlgaehfmaaDoorPdh
/- The document's stream: a row of lengths by code lengths. -/
namespace Go.Proofs.YtiheajlgaehfmaaDoor
open Go.RowKit

theorem own_apart {w : World} {b1 b2 : Nat} {e1 e2 : TypeId} {s1 s2 : Nat} {v1 v2 : Value} {n1 n2 : Nat} {x1 x2 : List Value} (h1 : w.ownsRow b1 e1 s1 v1 n1 x1) (h2 : w.ownsRow b2 e2 s2 v2 n2 x2) (hne : e1 ≠ e2) {k : Nat} (hk : v1.ownBlock = some k) : v2.ownBlock ≠ some k := by
  intro hk2
  rcases h1.2 with ⟨rfl, _⟩ | ⟨g, cap, cur, rfl, hb, hgg, rest⟩
  · simp [Value.ownBlock] at hk
  · simp only [Value.ownBlock, Option.some.injEq] at hk
    subst hk
    exact row_ne h2 (show Row w g e1 cur from hgg) hne hk2

section
variable {T : Nat → Prop} {S Q : Nat} {bs : List Int} {g : Option Addr} {c most pos : Nat} {out : List Int} {w w' : World} {base n : Nat} {v : Value} {xs : List Value}
/-- The row that grows is kept too. -/
theorem with_row (hE : Env T S Q bs g c most w) (hs : StrAt T S Q bs g c most pos out w) (ho : w.ownsRow base 3 1 v n xs) : Env (fun k => T k ∨ v.ownBlock = some k) S Q bs g c most w ∧ StrAt (fun k => T k ∨ v.ownBlock = some k) S Q bs g c most pos out w := by
  obtain ⟨u, hR, h2, hu, hnn, hp⟩ := hs
  have a1 : v.ownBlock ≠ some S := row_ne ho hR (by decide)
  have a2 : v.ownBlock ≠ some Q := row_ne ho (show Row w Q 48 _ from h2) (by decide)
  refine ⟨⟨fun k h => ?_, ?_, ?_, hE.bytes.mono (fun k h => .inl h), hE.are, hE.len, hE.cap, hE.nil, hE.big⟩, u, hR, h2, hu, fun k hk h => ?_, hp⟩
  · rcases h with h | h
    · exact hE.lt k h
    · exact (ho.lt k h).2
  · rintro (h | h)
    · exact hE.nS h
    · exact a1 h
  · rintro (h | h)
    · exact hE.nQ h
    · exact a2 h
  · rcases h with h | h
    · exact hnn k hk h
    · exact own_apart hu ho (by decide) hk h
/-- The row has grown: the stream stands as it stood. -/
theorem str_beside (hE : Env T S Q bs g c most w) (hs : StrAt T S Q bs g c most pos out w) (ho : w.ownsRow base 3 1 v n xs) (hT : ∀ k, v.ownBlock = some k → ¬ T k) {o : Obj} (hg : (w.alloc o).grownBy w' v.ownBlock) : StrAt T S Q bs g c most pos out w' ∧ Kept T w w' := by
  have hk : Kept (fun k => k < w.heap.size ∧ v.ownBlock ≠ some k) w w' := ((Kept.refl _ w).alloc (fun k h => h.1) o).grown hg (fun k h => by rw [World.size_alloc]; have := h.1; omega) (fun k e h => h.2 e)
  obtain ⟨u, hR, h2, hu, hnn, hp⟩ := hs
  refine ⟨⟨u, hR.kept hk ⟨hR.lt, row_ne ho hR (by decide)⟩, h2.kept hk ⟨h2.lt, row_ne ho (show Row w Q 48 _ from h2) (by decide)⟩, owns_kept hu hk (fun k e => ⟨(hu.lt k e).2, own_apart hu ho (by decide) e⟩), hnn, hp⟩, hk.mono (fun k h => ⟨hE.lt k h, fun e => hT k e h⟩)⟩
end

def RowPost (T : Nat → Prop) (S Q : Nat) (bs : List Int) (g : Option Addr) (c most : Nat) (out : List Int) (base : Nat) (w : World) (R : Except Int (Nat × List Int)) (e : Ending) (w' : World) : Prop :=
  (∃ pos l v, R = .ok (pos, l) ∧ e = .returned (.tuple #[v, .int .i64 0]) ∧ w'.ownsRow base 3 1 v l.length (l.map (Value.int .i64)) ∧ StrAt T S Q bs g c most pos out w' ∧ Kept T w w') ∨ (∃ er, R = .error er ∧ er ≠ 0 ∧ e = .returned (.tuple #[.slice none 0 0, .int .i64 er]) ∧ Kept T w w')

set_option maxRecDepth 100000 in
set_option maxHeartbeats 8000000 in
theorem row_in {T : Nat → Prop} {S Q : Nat} {bs : List Int} {g : Option Addr} {c most pos : Nat} {out : List Int} (cz : List Int) (ll lc : Value) (many : Nat) (hmany : many ≤ 320) (R : Except Int (Nat × List Int)) (f : Nat) (HR : Hid (rowS cz bs many f pos [] = R)) (hf : 8 * bs.length + 1 ≤ f + pos) (w : World) (hE : Env T S Q bs g c most w) (hs : StrAt T S Q bs g c most pos out w) (hc : CodeIn T w ll lc cz) :
    Calls Tryd.prog 65 #[.pointer (some ⟨S, 0, none⟩), .agg #[ll, lc], .int .i64 (many : Int)] w (RowPost T S Q bs g c most out w.heap.size w R) := by
  obtain ⟨w1, HW⟩ : ∃ w1, Hid (w.alloc (.cells #[ll, lc] 70) = w1) := ⟨_, rfl⟩
  obtain ⟨B4, HB4⟩ : ∃ B4, Hid (w.heap.size = B4) := ⟨_, rfl⟩
  have hsz : w1.heap.size = B4 + 1 := by rw [← HW.out, ← HB4.out]; simp
  have hkw : Kept (fun k => k < w.heap.size) w w1 := HW.out ▸ (Kept.refl _ w).alloc (fun k h => h) _
  have b4 : Two w1 B4 70 ll lc := by rw [← HB4.out, ← HW.out]; exact Two.new w 70 ll lc
  obtain ⟨hSl, hQl⟩ := hs.lts
  obtain ⟨T1, hT1⟩ : ∃ T1 : Nat → Prop, T1 = fun k => T k ∨ k = B4 := ⟨_, rfl⟩
  have hTT : ∀ k, T k → T1 k := fun k h => by rw [hT1]; exact .inl h
  have hkT : Kept T w w1 := hkw.mono (fun k h => hE.lt k h)
  have hTB : ∀ k, T1 k → k < B4 + 1 := fun k h => by rw [hT1] at h; rcases h with h | h; have := hE.lt k h; have := HB4.out; omega; omega
  have hE1 : Env T1 S Q bs g c most w1 := hE.more hkT hTT (fun k h => by have := hTB k h; omega) (fun h => by rw [hT1] at h; rcases h with h | h; exact hE.nS h; have := HB4.out; omega) (fun h => by rw [hT1] at h; rcases h with h | h; exact hE.nQ h; have := HB4.out; omega)
  have hs1 : StrAt T1 S Q bs g c most pos out w1 := ((hs.more (T' := T1) (fun k h hl => by rw [hT1] at h; rcases h with h | h; exact h; have := HB4.out; omega))).low hkw
  have hc1 := (hc.kept hkT).mono hTT
  have h4T : T1 B4 := by rw [hT1]; exact .inr rfl
  clear hT1
  obtain ⟨al, cl, rfl, _⟩ := hc.lens
  obtain ⟨GC, rfl, _, _⟩ := hc.codes
  obtain ⟨i0, hi0, hz0, hz1, hz2⟩ := info_parts Tryd.info3
  have HFIN : Hid (∀ e w', RowPost T1 S Q bs g c most out (B4 + 1) w1 R e w' → RowPost T S Q bs g c most out B4 w R e w') := by
    rintro e w' (⟨p, l, v, h1, h2, h3, h4, h5⟩ | ⟨er, h1, h2, h3, h4⟩)
    · refine .inl ⟨p, l, v, h1, h2, ⟨h3.1, ?_⟩, h4.more (fun k h _ => hTT k h), hkT.trans (h5.mono hTT)⟩
      rcases h3.2 with h0 | ⟨gg, cap, cur, hv, hb, rest⟩
      · exact .inl h0
      · exact .inr ⟨gg, cap, cur, hv, by omega, rest⟩
    · exact .inr ⟨er, h1, h2, h3, hkT.trans (h4.mono hTT)⟩
  rw [HB4.out]
  have HRP : Hid (RowPost T S Q bs g c most out B4 w R = RowPost T S Q bs g c most out B4 w R) := rfl
  clear hE hs hc hkw hkT hTT HRP
  go_enter Tryd.func65, Tryd.ntmps65
  go_wp2_with fail
  rw [HW.out, HB4.out]
  clear HW HB4 hSl hQl
  go_loopw [8] (fun v8 wr => ∃ (f pos : Nat) (l : List Int), Hid (rowS cz bs many f pos l = R) ∧ 8 * bs.length + 1 ≤ f + pos ∧ l.length ≤ many ∧ wr.ownsRow (B4 + 1) 3 1 v8 l.length (l.map (Value.int .i64)) ∧ StrAt T1 S Q bs g c most pos out wr ∧ Kept T1 w1 wr) (fun _ wr => 8 * bs.length - posAt Q wr)
  case atStart => exact ⟨f, pos, [], HR, hf, by simp, World.ownsRow_nil _ _ _ _, hs1, Kept.refl _ _⟩
  case round =>
    clear HR hf hs1 pos f
    obtain ⟨f, pos, l, HR, hf, hll, ho, hs, hk⟩ := hrel
    have hEr := hE1.kept hk
    have hcr := hc1.kept hk
    have hb4 := b4.kept hk h4T
    obtain ⟨hpa, hpb⟩ := hs.posAt
    have hbig := hEr.big
    obtain ⟨f, rfl⟩ : ∃ f', f = f' + 1 := ⟨f - 1, by omega⟩
    have HP : Hid (posAt Q wr = pos) := hpa
    obtain ⟨gl, cl8, rfl⟩ := owns_form ho
    by_cases hlt : l.length < many
    rotate_left
    · have t1 : ¬ ((l.length : Int) < (many : Int)) := by omega
      have HF : Hid (RowPost T S Q bs g c most out B4 w R (.returned (.tuple #[.slice gl l.length cl8, .int .i64 0])) wr) := HFIN.out _ _ (.inl ⟨pos, l, _, HR.out.symm.trans (rowS_end hlt), rfl, ho, hs, hk⟩)
      clear HR hE1 hEr hcr hk hb4 HFIN hc1 ho hs
      go_wp2
      go_ret2
      exact HF.out
    have t1 : (l.length : Int) < (many : Int) := by omega
    obtain ⟨hE2, hs2⟩ := with_row hEr hs ho
    obtain ⟨gv, cv, s0, -, -, -⟩ := hs.out_cells
    have HN : Hid _ := next_u cz _ _ wr.drew (hE2.kept ((Kept.refl _ _).drew)) hs2 ((hcr.mono (fun k h => .inl h)).kept ((Kept.refl _ _).drew))
    have HS8 : Hid (wr.drew.cell? ⟨B4, 0, none⟩ = some (.slice al cz.length cl) ∧ wr.drew.cell? ⟨B4, 1, none⟩ = some (.slice (some ⟨GC, 0, none⟩) cz.length cz.length) ∧ wr.drew.cell? ⟨S, 0, none⟩ = some (.pointer (some ⟨Q, 0, none⟩))) := ⟨hb4.cell0, hb4.cell1, s0⟩
    clear hpa hb4 s0 hs hcr hs2
    go_wp2_with fail
    refine wp_region_K (fun wx => wx.cell? ⟨B4, 0, none⟩ = some (.slice al cz.length cl) ∧ wx.cell? ⟨B4, 1, none⟩ = some (.slice (some ⟨GC, 0, none⟩) cz.length cz.length) ∧ wx.cell? ⟨S, 0, none⟩ = some (.pointer (some ⟨Q, 0, none⟩))) (fun j => decide (j ≤ 7)) (by kernel_rfl) ?_
    refine wpK_held (k := 0) (v := ?_) rfl (by kernel_rfl) (by kernel_rfl) (fun _ _ _ h => h) rfl (by rintro wx ⟨hx1, hx2, hx3⟩; go_simp <;> rfl) HS8.out ?_
    refine wpK_held (k := 1) (v := ?_) rfl (by kernel_rfl) (by kernel_rfl) (fun _ _ _ h => h) rfl (by rintro wx ⟨hx1, hx2, hx3⟩; go_simp <;> rfl) HS8.out ?_
    refine wpK_held (k := 2) (v := ?_) rfl (by kernel_rfl) (by kernel_rfl) (fun _ _ _ h => h) rfl (by rintro wx ⟨hx1, hx2, hx3⟩; go_simp <;> rfl) HS8.out ?_
    refine wpK_held (k := 3) (v := ?_) rfl (by kernel_rfl) (by kernel_rfl) (fun _ _ _ h => h) rfl (by rintro wx ⟨hx1, hx2, hx3⟩; go_simp <;> rfl) HS8.out ?_
    refine wpK_held (k := 4) (v := ?_) rfl (by kernel_rfl) (by kernel_rfl) (fun _ _ _ h => h) rfl (by rintro wx ⟨hx1, hx2, hx3⟩; go_simp <;> rfl) HS8.out ?_
    refine wpK_held (k := 5) (v := ?_) rfl (by kernel_rfl) (by kernel_rfl) (fun _ _ _ h => h) rfl (by rintro wx ⟨hx1, hx2, hx3⟩; go_simp <;> rfl) HS8.out ?_
    refine wpK_held (k := 6) (v := ?_) rfl (by kernel_rfl) (by kernel_rfl) (fun _ _ _ h => h) rfl (by rintro wx ⟨hx1, hx2, hx3⟩; go_simp <;> rfl) HS8.out ?_
    refine wpK_held (k := 7) (v := ?_) rfl (by kernel_rfl) (by kernel_rfl) (fun _ _ _ h => h) rfl (by rintro wx ⟨hx1, hx2, hx3⟩; go_simp <;> rfl) HS8.out ?_
    refine wpK_one (k := 8) rfl (by kernel_rfl) ?_
    go_wp2_with fail
    refine Calls.mono HN.out ?_
    clear HN HS8
    rintro e w2 ⟨x, er, rfl, hx, hk2, h2⟩
    have hk2 : Kept (fun k => T1 k ∨ (Value.slice gl l.length cl8).ownBlock = some k) wr w2 := ((Kept.refl _ wr).drew).trans hk2
    go_wp2_with fail
    refine ⟨(fun h => by cases h), ?_⟩
    refine wpK_free (k := 9) (v := ?_) rfl (by kernel_rfl) (by kernel_rfl) (fun _ _ _ h => h) rfl (by intro wx; go_simp <;> rfl) ?_
    refine wpK_free (k := 10) (v := ?_) rfl (by kernel_rfl) (by kernel_rfl) (fun _ _ _ h => h) rfl (by intro wx; go_simp <;> rfl) ?_
    refine wpK_free (k := 11) (v := ?_) rfl (by kernel_rfl) (by kernel_rfl) (fun _ _ _ h => h) rfl (by intro wx; go_simp <;> rfl) ?_
    refine wpK_free (k := 12) (v := ?_) rfl (by kernel_rfl) (by kernel_rfl) (fun _ _ _ h => h) rfl (by intro wx; go_simp <;> rfl) ?_
    refine wpK_free (k := 13) (v := ?_) rfl (by kernel_rfl) (by kernel_rfl) (fun _ _ _ h => h) rfl (by intro wx; go_simp <;> rfl) ?_
    refine wpK_done 14 rfl (by kernel_rfl) ?_
    have hk02 := hk.trans (hk2.mono (fun k h => .inl h))
    rcases h2 with ⟨rfl, p1, h1, hs2⟩ | ⟨hne, h1⟩
    rotate_left
    · have HF : Hid (RowPost T S Q bs g c most out B4 w R (.returned (.tuple #[.slice none 0 0, .int .i64 er])) w2) := HFIN.out _ _ (.inr ⟨er, HR.out.symm.trans (rowS_err hlt (rowStep_next h1)), hne, rfl, hk02⟩)
      have t2 : (er != 0) = true := by simpa using hne
      clear HR hE1 hEr hk hk2 hk02 h1 HFIN hc1 hE2 ho
      go_wp2
      go_ret2
      exact HF.out
    have hm1 := nextS_more hc1.ok h1
    have hE2 := hE2.kept hk2
    have ho2 := owns_kept ho hk2 (fun k h => .inr h)
    have hpb2 := hs2.posAt.2
    clear hEr ho hk hk2
    by_cases hx16 : x < 16
    · have t2 : (x : Int) < 16 := by omega
      have hE3 := hE1.kept hk02
      have hs3 : StrAt T1 S Q bs g c most p1 out w2 := hs2.more (fun k h _ => .inl h)
      have hTi : ∀ k, (Value.slice gl l.length cl8).ownBlock = some k → ¬ T1 k := fun k e h => by have := hTB k h; have := (ho2.lt k e).1; omega
      have HSB : Hid (∀ (o : Obj) (w6 : World), (w2.alloc o).grownBy w6 (Value.slice gl l.length cl8).ownBlock → StrAt T1 S Q bs g c most p1 out w6 ∧ Kept T1 w2 w6) := fun o w6 hg => str_beside hE3 hs3 ho2 hTi hg
      have HO : Hid (w2.ownsRow (B4 + 1) 3 1 (.slice gl l.length cl8) l.length (l.map (Value.int .i64))) := ho2
      have HSZ : Hid (B4 + 1 ≤ w2.heap.size) := by have := hk02.size; show _ ≤ _; omega
      have HK2 : Hid (Kept T1 w1 w2) := hk02
      have HRn : Hid (rowS cz bs many f p1 (l ++ [(x : Int)]) = R) := by show _ = _; rw [← HR.out, rowS_more hlt (rowStep_one h1 hx16)]; rfl
      clear HR h1 hE2 hs2 ho2 hk02 hE3 hs3 hTi HFIN hc1 hE1
      go_wp2_with (at_builtin; refine wpList_append_own2 _ rfl (.tmp 38) (.tmp 40) 32 rfl (B4 + 1) 3 i0 (.int .i64 0) 1 8 Tryd.underlying32 hi0 hz0 hz1 hz2 rfl (by decide) _ _ _ rfl (HO.out.alloc _) ⟨w2.heap.size, 0, none⟩ 1 1 [.int .i64 (x : Int)] rfl rfl (cell_one_new _ _ _) (by simp [Value.oneCell']) (by unfold maxLen; omega) (by omega) (by simp; have := HSZ.out; omega) ?_)
      intro v' w6 h6 hg hb
      obtain ⟨g6, c6, rfl⟩ := owns_form h6
      obtain ⟨q1, q2⟩ := HSB.out _ _ hg
      have HS6 : Hid (StrAt T1 S Q bs g c most p1 out w6) := q1
      have HK6 : Hid (Kept T1 w1 w6) := HK2.out.trans q2
      have HM : Hid (8 * bs.length - posAt Q w6 < 8 * bs.length - posAt Q wr) := by have := HP.out; have := q1.posAt; show _ < _; omega
      have HO6 : Hid (w6.ownsRow (B4 + 1) 3 1 (.slice g6 (l.length + 1) c6) (l ++ [(x : Int)]).length ((l ++ [(x : Int)]).map (Value.int .i64))) := by
        show World.ownsRow _ _ _ _ _ _ _
        rw [List.length_append, List.map_append]
        exact h6
      clear h6 hg hb q1 q2 HSB HO
      go_wp2
      exact ⟨⟨f, p1, _, HRn, by omega, by rw [List.length_append]; show l.length + 1 ≤ many; omega, HO6.out, HS6.out, HK6.out⟩, HM.out⟩
    have t2 : ¬ ((x : Int) < 16) := by omega
    by_cases e16 : x = 16
    · subst e16
      by_cases hl0 : l.length = 0
      · have t3 : ((l.length : Int) == 0) = true := by rw [hl0]; rfl
        have HF : Hid (RowPost T S Q bs g c most out B4 w R (.returned (.tuple #[.slice none 0 0, .int .i64 12])) w2) := HFIN.out _ _ (.inr ⟨12, HR.out.symm.trans (rowS_err hlt (rowStep_none h1 hl0)), by omega, rfl, hk02⟩)
        clear HR hE1 hk02 h1 HFIN hc1 hE2 ho2 hs2
        go_wp2
        go_ret2
        exact HF.out
      have t3 : ((l.length : Int) == 0) = false := by apply beq_eq_false_iff_ne.2; omega
      have hwl : IntKind.i64.wrap ((l.length : Int) - 1) = ((l.length - 1 : Nat) : Int) := by rw [wrap_i64_of (by omega) (by omega)]; omega
      have tl : ((l.length - 1 : Nat) : Int) < (l.length : Int) := by omega
      have hcell : ∃ gb, gl = some ⟨gb, 0, none⟩ ∧ w2.cell? ⟨gb, l.length - 1, none⟩ = some (.int .i64 (l[l.length - 1]?.getD 0)) := by
        rcases ho2.2 with ⟨_, h9⟩ | ⟨gb, cap, cur, he, _⟩
        · omega
        · simp only [Value.slice.injEq] at he
          obtain ⟨rfl, -, rfl⟩ := he
          refine ⟨gb, rfl, ?_⟩
          have := ho2.cells (g := gb) rfl (l.length - 1) (.int .i64 (l[l.length - 1]?.getD 0)) (by simp [List.getElem?_eq_getElem (show l.length - 1 < l.length by omega)])
          rw [Go.WideShapes.add_plain] at this
          simpa using this
      obtain ⟨gb, rfl, hcell⟩ := hcell
      obtain ⟨vv, hvv⟩ : ∃ vv : Int, l[l.length - 1]?.getD 0 = vv := ⟨_, rfl⟩
      rw [hvv] at hcell
      have HVV : Hid (l[l.length - 1]?.getD 0 = vv) := hvv
      clear hvv
      have HT : Hid _ := take_s 2 (by omega) w2 hE2 hs2
      obtain ⟨gq, cq, s0, -, -, -⟩ := hs2.out_cells
      go_wp2_with fail
      refine Calls.mono HT.out ?_
      clear HT s0
      rintro e w3 (⟨k, p3, h3, hk3b, rfl, hs3, hk3⟩ | ⟨h3, rfl, hk3⟩)
      rotate_left
      · have HF : Hid (RowPost T S Q bs g c most out B4 w R (.returned (.tuple #[.slice none 0 0, .int .i64 10])) w3) := HFIN.out _ _ (.inr ⟨10, HR.out.symm.trans (rowS_err hlt (rowStep_take h1 (by omega) (by omega) h3)), by omega, rfl, (hk02.trans (hk3.mono (fun k h => .inl h)))⟩)
        clear HR hE1 hk02 hE2 hc1 HFIN h1 h3 hk3 hs2 ho2 hm1
        go_wp2
        go_ret2
        exact HF.out
      have HST : Hid _ := rowStep_run (many := many) (l := l) h1 (by omega) (by omega) h3
      have htm := takeS_more h3
      have ho3 := owns_kept ho2 hk3 (fun k h => .inr h)
      have hs3 : StrAt T1 S Q bs g c most p3 out w3 := hs3.more (fun k h _ => .inl h)
      have hk03 := hk02.trans (hk3.mono (fun k h => .inl h))
      have hE3 := hE1.kept hk03
      clear hk3 h3 h1 hs2 hE2 ho2 hk02
      have hcv : IntKind.i64.wrap (k : Int) = (k : Int) := wrap_i64_of (by omega) (by omega)
      have hwm : IntKind.i64.wrap ((many : Int) - (l.length : Int)) = (many : Int) - (l.length : Int) := wrap_i64_of (by omega) (by omega)
      obtain ⟨nn, hnn0⟩ : ∃ nn : Nat, 3 + k = nn := ⟨_, rfl⟩
      have hnz : (3 : Int) + (k : Int) = (nn : Int) := by omega
      have hwn : IntKind.i64.wrap ((3 : Int) + (k : Int)) = (nn : Int) := by rw [wrap_i64_of (by omega) (by omega)]; exact hnz
      have HST2 : Hid (rowStep cz bs many pos l = if many < l.length + nn then .error 12 else .ok (p3, l ++ List.replicate nn vv)) := by
        have := HST.out
        rw [show rnBase 16 = 3 from rfl, show rnVal 16 l = vv from HVV.out, hnn0] at this
        exact this
      clear HST hnz hnn0
      by_cases hmn : many < l.length + nn
      · have t5 : (many : Int) - (l.length : Int) < (nn : Int) := by omega
        have HF : Hid (RowPost T S Q bs g c most out B4 w R (.returned (.tuple #[.slice none 0 0, .int .i64 12])) w3) := HFIN.out _ _ (.inr ⟨12, HR.out.symm.trans (rowS_err hlt (HST2.out.trans (if_pos hmn))), by omega, rfl, hk03⟩)
        clear HR hE1 hk03 hE3 hc1 HFIN HST2 hs3 ho3
        go_wp2
        go_ret2
        exact HF.out
      have t5 : ¬ ((many : Int) - (l.length : Int) < (nn : Int)) := by omega
      have HRn : Hid (rowS cz bs many f p3 (l ++ List.replicate nn vv) = R) := by show _ = _; rw [← HR.out, rowS_more hlt (HST2.out.trans (if_neg hmn))]
      have HBD : Hid (l.length + nn ≤ many ∧ 8 * bs.length + 1 ≤ f + p3 ∧ pos < p3 ∧ p3 ≤ 8 * bs.length) := ⟨by omega, by omega, by omega, hs3.posAt.2⟩
      clear HR HST2 hcv hmn htm hm1
      go_wp2_with fail
      go_loopw [8, 16] (fun v8 v16 wq => ∃ i : Nat, i ≤ nn ∧ v16 = .int .i64 (i : Int) ∧ wq.ownsRow (B4 + 1) 3 1 v8 (l.length + i) ((l ++ List.replicate i vv).map (Value.int .i64)) ∧ StrAt T1 S Q bs g c most p3 out wq ∧ Kept T1 w1 wq) (fun _ v16 _ => nn - (intOf v16).toNat)
      case atStart => exact ⟨0, by omega, rfl, by simpa using ho3, hs3, hk03⟩
      case round =>
        obtain ⟨i, hile, rfl, hoi, hsi, hki⟩ := hrel
        obtain ⟨gi, ci, rfl⟩ := owns_form hoi
        have hwi : IntKind.i64.wrap ((i : Int) + 1) = (i : Int) + 1 := wrap_i64_of (by have := HBD.out; omega) (by have := HBD.out; omega)
        by_cases hlti : i < nn
        rotate_left
        · obtain rfl : i = nn := by omega
          have t6 : ¬ ((i : Int) < (i : Int)) := by omega
          have HS1 : Hid (StrAt T1 S Q bs g c most p3 out wr) := hsi
          have HK1 : Hid (Kept T1 w1 wr) := hki
          have HO1 : Hid (wr.ownsRow (B4 + 1) 3 1 (.slice gi (l.length + i) ci) (l ++ List.replicate i vv).length ((l ++ List.replicate i vv).map (Value.int .i64))) := by show World.ownsRow _ _ _ _ _ _ _; rw [List.length_append, List.length_replicate]; exact hoi
          have HM : Hid (8 * bs.length - posAt Q wr < 8 * bs.length - pos) := by have := hsi.posAt; have := HBD.out; show _ < _; omega
          have HLL : Hid ((l ++ List.replicate i vv).length ≤ many) := by have := HBD.out; show _ ≤ _; rw [List.length_append, List.length_replicate]; omega
          clear hoi hsi hki ho3 hs3 hk03 hE3 hE1 hc1 HFIN
          go_wp2
          exact ⟨⟨f, p3, _, HRn, HBD.out.2.1, HLL.out, HO1.out, HS1.out, HK1.out⟩, by rw [HP.out]; exact HM.out⟩
        · have t6 : (i : Int) < (nn : Int) := by omega
          have hEi := hE1.kept hki
          have hTi : ∀ k, (Value.slice gi (l.length + i) ci).ownBlock = some k → ¬ T1 k := fun k e h => by have := hTB k h; have := (hoi.lt k e).1; omega
          have HSB : Hid (∀ (o : Obj) (w6 : World), (wr.alloc o).grownBy w6 (Value.slice gi (l.length + i) ci).ownBlock → StrAt T1 S Q bs g c most p3 out w6 ∧ Kept T1 wr w6) := fun o w6 hg => str_beside hEi hsi hoi hTi hg
          have HO : Hid (wr.ownsRow (B4 + 1) 3 1 (.slice gi (l.length + i) ci) (l.length + i) ((l ++ List.replicate i vv).map (Value.int .i64))) := hoi
          have HSZ : Hid (B4 + 1 ≤ wr.heap.size) := by have := hki.size; show _ ≤ _; omega
          have HKI : Hid (Kept T1 w1 wr) := hki
          clear hoi hsi hki hEi hTi ho3 hs3 hk03 hE3 HFIN
          go_wp2_with (at_builtin; refine wpList_append_own2 _ rfl (.tmp 88) (.tmp 90) 32 rfl (B4 + 1) 3 i0 (.int .i64 0) 1 8 Tryd.underlying32 hi0 hz0 hz1 hz2 rfl (by decide) _ _ _ rfl (HO.out.alloc _) ⟨wr.heap.size, 0, none⟩ 1 1 [.int .i64 vv] rfl rfl (cell_one_new _ _ _) (by simp [Value.oneCell']) (by have := HBD.out; unfold maxLen; omega) (by have := HBD.out; omega) (by simp; have := HSZ.out; omega) ?_)
          intro v' w6 h6 hg hb
          obtain ⟨g6, c6, rfl⟩ := owns_form h6
          obtain ⟨q1, q2⟩ := HSB.out _ _ hg
          have HS6 : Hid (StrAt T1 S Q bs g c most p3 out w6) := q1
          have HK6 : Hid (Kept T1 w1 w6) := HKI.out.trans q2
          have HO6 : Hid (w6.ownsRow (B4 + 1) 3 1 (.slice g6 (l.length + i + 1) c6) (l.length + (i + 1)) ((l ++ List.replicate (i + 1) vv).map (Value.int .i64))) := by
            show World.ownsRow _ _ _ _ _ _ _
            rw [List.replicate_succ', List.map_append, List.map_append, List.map_replicate, ← Nat.add_assoc]
            exact h6
          clear h6 hg hb q1 q2 HSB HO
          go_wp2
          exact ⟨⟨i + 1, by omega, by go_num, HO6.out, HS6.out, HK6.out⟩, by simp [intOf]; omega⟩
    by_cases e17 : x = 17
    · subst e17
      have HT : Hid _ := take_s 3 (by omega) w2 hE2 hs2
      obtain ⟨gq, cq, s0, -, -, -⟩ := hs2.out_cells
      go_wp2_with fail
      refine Calls.mono HT.out ?_
      clear HT s0
      rintro e w3 (⟨k, p3, h3, hk3b, rfl, hs3, hk3⟩ | ⟨h3, rfl, hk3⟩)
      rotate_left
      · have HF : Hid (RowPost T S Q bs g c most out B4 w R (.returned (.tuple #[.slice none 0 0, .int .i64 10])) w3) := HFIN.out _ _ (.inr ⟨10, HR.out.symm.trans (rowS_err hlt (rowStep_take h1 (by omega) (by omega) h3)), by omega, rfl, (hk02.trans (hk3.mono (fun k h => .inl h)))⟩)
        clear HR hE1 hk02 hE2 hc1 HFIN h1 h3 hk3 hs2 ho2 hm1
        go_wp2
        go_ret2
        exact HF.out
      have HST : Hid _ := rowStep_run (many := many) (l := l) h1 (by omega) (by omega) h3
      have htm := takeS_more h3
      have ho3 := owns_kept ho2 hk3 (fun k h => .inr h)
      have hs3 : StrAt T1 S Q bs g c most p3 out w3 := hs3.more (fun k h _ => .inl h)
      have hk03 := hk02.trans (hk3.mono (fun k h => .inl h))
      have hE3 := hE1.kept hk03
      clear hk3 h3 h1 hs2 hE2 ho2 hk02
      have hcv : IntKind.i64.wrap (k : Int) = (k : Int) := wrap_i64_of (by omega) (by omega)
      have hwm : IntKind.i64.wrap ((many : Int) - (l.length : Int)) = (many : Int) - (l.length : Int) := wrap_i64_of (by omega) (by omega)
      obtain ⟨nn, hnn0⟩ : ∃ nn : Nat, 3 + k = nn := ⟨_, rfl⟩
      have hnz : (3 : Int) + (k : Int) = (nn : Int) := by omega
      have hwn : IntKind.i64.wrap ((3 : Int) + (k : Int)) = (nn : Int) := by rw [wrap_i64_of (by omega) (by omega)]; exact hnz
      have HST2 : Hid (rowStep cz bs many pos l = if many < l.length + nn then .error 12 else .ok (p3, l ++ List.replicate nn (0 : Int))) := by
        have := HST.out
        rw [show rnBase 17 = 3 from rfl, show rnVal 17 l = (0 : Int) from rfl, hnn0] at this
        exact this
      clear HST hnz hnn0
      by_cases hmn : many < l.length + nn
      · have t5 : (many : Int) - (l.length : Int) < (nn : Int) := by omega
        have HF : Hid (RowPost T S Q bs g c most out B4 w R (.returned (.tuple #[.slice none 0 0, .int .i64 12])) w3) := HFIN.out _ _ (.inr ⟨12, HR.out.symm.trans (rowS_err hlt (HST2.out.trans (if_pos hmn))), by omega, rfl, hk03⟩)
        clear HR hE1 hk03 hE3 hc1 HFIN HST2 hs3 ho3
        go_wp2
        go_ret2
        exact HF.out
      have t5 : ¬ ((many : Int) - (l.length : Int) < (nn : Int)) := by omega
      have HRn : Hid (rowS cz bs many f p3 (l ++ List.replicate nn (0 : Int)) = R) := by show _ = _; rw [← HR.out, rowS_more hlt (HST2.out.trans (if_neg hmn))]
      have HBD : Hid (l.length + nn ≤ many ∧ 8 * bs.length + 1 ≤ f + p3 ∧ pos < p3 ∧ p3 ≤ 8 * bs.length) := ⟨by omega, by omega, by omega, hs3.posAt.2⟩
      clear HR HST2 hcv hmn htm hm1
      go_wp2_with fail
      go_loopw [8, 16] (fun v8 v16 wq => ∃ i : Nat, i ≤ nn ∧ v16 = .int .i64 (i : Int) ∧ wq.ownsRow (B4 + 1) 3 1 v8 (l.length + i) ((l ++ List.replicate i (0 : Int)).map (Value.int .i64)) ∧ StrAt T1 S Q bs g c most p3 out wq ∧ Kept T1 w1 wq) (fun _ v16 _ => nn - (intOf v16).toNat)
      case atStart => exact ⟨0, by omega, rfl, by simpa using ho3, hs3, hk03⟩
      case round =>
        obtain ⟨i, hile, rfl, hoi, hsi, hki⟩ := hrel
        obtain ⟨gi, ci, rfl⟩ := owns_form hoi
        have hwi : IntKind.i64.wrap ((i : Int) + 1) = (i : Int) + 1 := wrap_i64_of (by have := HBD.out; omega) (by have := HBD.out; omega)
        by_cases hlti : i < nn
        rotate_left
        · obtain rfl : i = nn := by omega
          have t6 : ¬ ((i : Int) < (i : Int)) := by omega
          have HS1 : Hid (StrAt T1 S Q bs g c most p3 out wr) := hsi
          have HK1 : Hid (Kept T1 w1 wr) := hki
          have HO1 : Hid (wr.ownsRow (B4 + 1) 3 1 (.slice gi (l.length + i) ci) (l ++ List.replicate i (0 : Int)).length ((l ++ List.replicate i (0 : Int)).map (Value.int .i64))) := by show World.ownsRow _ _ _ _ _ _ _; rw [List.length_append, List.length_replicate]; exact hoi
          have HM : Hid (8 * bs.length - posAt Q wr < 8 * bs.length - pos) := by have := hsi.posAt; have := HBD.out; show _ < _; omega
          have HLL : Hid ((l ++ List.replicate i (0 : Int)).length ≤ many) := by have := HBD.out; show _ ≤ _; rw [List.length_append, List.length_replicate]; omega
          clear hoi hsi hki ho3 hs3 hk03 hE3 hE1 hc1 HFIN
          go_wp2
          exact ⟨⟨f, p3, _, HRn, HBD.out.2.1, HLL.out, HO1.out, HS1.out, HK1.out⟩, by rw [HP.out]; exact HM.out⟩
        · have t6 : (i : Int) < (nn : Int) := by omega
          have hEi := hE1.kept hki
          have hTi : ∀ k, (Value.slice gi (l.length + i) ci).ownBlock = some k → ¬ T1 k := fun k e h => by have := hTB k h; have := (hoi.lt k e).1; omega
          have HSB : Hid (∀ (o : Obj) (w6 : World), (wr.alloc o).grownBy w6 (Value.slice gi (l.length + i) ci).ownBlock → StrAt T1 S Q bs g c most p3 out w6 ∧ Kept T1 wr w6) := fun o w6 hg => str_beside hEi hsi hoi hTi hg
          have HO : Hid (wr.ownsRow (B4 + 1) 3 1 (.slice gi (l.length + i) ci) (l.length + i) ((l ++ List.replicate i (0 : Int)).map (Value.int .i64))) := hoi
          have HSZ : Hid (B4 + 1 ≤ wr.heap.size) := by have := hki.size; show _ ≤ _; omega
          have HKI : Hid (Kept T1 w1 wr) := hki
          clear hoi hsi hki hEi hTi ho3 hs3 hk03 hE3 HFIN
          go_wp2_with (at_builtin; refine wpList_append_own2 _ rfl (.tmp 88) (.tmp 90) 32 rfl (B4 + 1) 3 i0 (.int .i64 0) 1 8 Tryd.underlying32 hi0 hz0 hz1 hz2 rfl (by decide) _ _ _ rfl (HO.out.alloc _) ⟨wr.heap.size, 0, none⟩ 1 1 [.int .i64 (0 : Int)] rfl rfl (cell_one_new _ _ _) (by simp [Value.oneCell']) (by have := HBD.out; unfold maxLen; omega) (by have := HBD.out; omega) (by simp; have := HSZ.out; omega) ?_)
          intro v' w6 h6 hg hb
          obtain ⟨g6, c6, rfl⟩ := owns_form h6
          obtain ⟨q1, q2⟩ := HSB.out _ _ hg
          have HS6 : Hid (StrAt T1 S Q bs g c most p3 out w6) := q1
          have HK6 : Hid (Kept T1 w1 w6) := HKI.out.trans q2
          have HO6 : Hid (w6.ownsRow (B4 + 1) 3 1 (.slice g6 (l.length + i + 1) c6) (l.length + (i + 1)) ((l ++ List.replicate (i + 1) (0 : Int)).map (Value.int .i64))) := by
            show World.ownsRow _ _ _ _ _ _ _
            rw [List.replicate_succ', List.map_append, List.map_append, List.map_replicate, ← Nat.add_assoc]
            exact h6
          clear h6 hg hb q1 q2 HSB HO
          go_wp2
          exact ⟨⟨i + 1, by omega, by go_num, HO6.out, HS6.out, HK6.out⟩, by simp [intOf]; omega⟩
    by_cases e18 : x = 18
    · subst e18
      have HT : Hid _ := take_s 7 (by omega) w2 hE2 hs2
      obtain ⟨gq, cq, s0, -, -, -⟩ := hs2.out_cells
      go_wp2_with fail
      refine Calls.mono HT.out ?_
      clear HT s0
      rintro e w3 (⟨k, p3, h3, hk3b, rfl, hs3, hk3⟩ | ⟨h3, rfl, hk3⟩)
      rotate_left
      · have HF : Hid (RowPost T S Q bs g c most out B4 w R (.returned (.tuple #[.slice none 0 0, .int .i64 10])) w3) := HFIN.out _ _ (.inr ⟨10, HR.out.symm.trans (rowS_err hlt (rowStep_take h1 (by omega) (by omega) h3)), by omega, rfl, (hk02.trans (hk3.mono (fun k h => .inl h)))⟩)
        clear HR hE1 hk02 hE2 hc1 HFIN h1 h3 hk3 hs2 ho2 hm1
        go_wp2
        go_ret2
        exact HF.out
      have HST : Hid _ := rowStep_run (many := many) (l := l) h1 (by omega) (by omega) h3
      have htm := takeS_more h3
      have ho3 := owns_kept ho2 hk3 (fun k h => .inr h)
      have hs3 : StrAt T1 S Q bs g c most p3 out w3 := hs3.more (fun k h _ => .inl h)
      have hk03 := hk02.trans (hk3.mono (fun k h => .inl h))
      have hE3 := hE1.kept hk03
      clear hk3 h3 h1 hs2 hE2 ho2 hk02
      have hcv : IntKind.i64.wrap (k : Int) = (k : Int) := wrap_i64_of (by omega) (by omega)
      have hwm : IntKind.i64.wrap ((many : Int) - (l.length : Int)) = (many : Int) - (l.length : Int) := wrap_i64_of (by omega) (by omega)
      obtain ⟨nn, hnn0⟩ : ∃ nn : Nat, 11 + k = nn := ⟨_, rfl⟩
      have hnz : (11 : Int) + (k : Int) = (nn : Int) := by omega
      have hwn : IntKind.i64.wrap ((11 : Int) + (k : Int)) = (nn : Int) := by rw [wrap_i64_of (by omega) (by omega)]; exact hnz
      have HST2 : Hid (rowStep cz bs many pos l = if many < l.length + nn then .error 12 else .ok (p3, l ++ List.replicate nn (0 : Int))) := by
        have := HST.out
        rw [show rnBase 18 = 11 from rfl, show rnVal 18 l = (0 : Int) from rfl, hnn0] at this
        exact this
      clear HST hnz hnn0
      by_cases hmn : many < l.length + nn
      · have t5 : (many : Int) - (l.length : Int) < (nn : Int) := by omega
        have HF : Hid (RowPost T S Q bs g c most out B4 w R (.returned (.tuple #[.slice none 0 0, .int .i64 12])) w3) := HFIN.out _ _ (.inr ⟨12, HR.out.symm.trans (rowS_err hlt (HST2.out.trans (if_pos hmn))), by omega, rfl, hk03⟩)
        clear HR hE1 hk03 hE3 hc1 HFIN HST2 hs3 ho3
        go_wp2
        go_ret2
        exact HF.out
      have t5 : ¬ ((many : Int) - (l.length : Int) < (nn : Int)) := by omega
      have HRn : Hid (rowS cz bs many f p3 (l ++ List.replicate nn (0 : Int)) = R) := by show _ = _; rw [← HR.out, rowS_more hlt (HST2.out.trans (if_neg hmn))]
      have HBD : Hid (l.length + nn ≤ many ∧ 8 * bs.length + 1 ≤ f + p3 ∧ pos < p3 ∧ p3 ≤ 8 * bs.length) := ⟨by omega, by omega, by omega, hs3.posAt.2⟩
      clear HR HST2 hcv hmn htm hm1
      go_wp2_with fail
      go_loopw [8, 16] (fun v8 v16 wq => ∃ i : Nat, i ≤ nn ∧ v16 = .int .i64 (i : Int) ∧ wq.ownsRow (B4 + 1) 3 1 v8 (l.length + i) ((l ++ List.replicate i (0 : Int)).map (Value.int .i64)) ∧ StrAt T1 S Q bs g c most p3 out wq ∧ Kept T1 w1 wq) (fun _ v16 _ => nn - (intOf v16).toNat)
      case atStart => exact ⟨0, by omega, rfl, by simpa using ho3, hs3, hk03⟩
      case round =>
        obtain ⟨i, hile, rfl, hoi, hsi, hki⟩ := hrel
        obtain ⟨gi, ci, rfl⟩ := owns_form hoi
        have hwi : IntKind.i64.wrap ((i : Int) + 1) = (i : Int) + 1 := wrap_i64_of (by have := HBD.out; omega) (by have := HBD.out; omega)
        by_cases hlti : i < nn
        rotate_left
        · obtain rfl : i = nn := by omega
          have t6 : ¬ ((i : Int) < (i : Int)) := by omega
          have HS1 : Hid (StrAt T1 S Q bs g c most p3 out wr) := hsi
          have HK1 : Hid (Kept T1 w1 wr) := hki
          have HO1 : Hid (wr.ownsRow (B4 + 1) 3 1 (.slice gi (l.length + i) ci) (l ++ List.replicate i (0 : Int)).length ((l ++ List.replicate i (0 : Int)).map (Value.int .i64))) := by show World.ownsRow _ _ _ _ _ _ _; rw [List.length_append, List.length_replicate]; exact hoi
          have HM : Hid (8 * bs.length - posAt Q wr < 8 * bs.length - pos) := by have := hsi.posAt; have := HBD.out; show _ < _; omega
          have HLL : Hid ((l ++ List.replicate i (0 : Int)).length ≤ many) := by have := HBD.out; show _ ≤ _; rw [List.length_append, List.length_replicate]; omega
          clear hoi hsi hki ho3 hs3 hk03 hE3 hE1 hc1 HFIN
          go_wp2
          exact ⟨⟨f, p3, _, HRn, HBD.out.2.1, HLL.out, HO1.out, HS1.out, HK1.out⟩, by rw [HP.out]; exact HM.out⟩
        · have t6 : (i : Int) < (nn : Int) := by omega
          have hEi := hE1.kept hki
          have hTi : ∀ k, (Value.slice gi (l.length + i) ci).ownBlock = some k → ¬ T1 k := fun k e h => by have := hTB k h; have := (hoi.lt k e).1; omega
          have HSB : Hid (∀ (o : Obj) (w6 : World), (wr.alloc o).grownBy w6 (Value.slice gi (l.length + i) ci).ownBlock → StrAt T1 S Q bs g c most p3 out w6 ∧ Kept T1 wr w6) := fun o w6 hg => str_beside hEi hsi hoi hTi hg
          have HO : Hid (wr.ownsRow (B4 + 1) 3 1 (.slice gi (l.length + i) ci) (l.length + i) ((l ++ List.replicate i (0 : Int)).map (Value.int .i64))) := hoi
          have HSZ : Hid (B4 + 1 ≤ wr.heap.size) := by have := hki.size; show _ ≤ _; omega
          have HKI : Hid (Kept T1 w1 wr) := hki
          clear hoi hsi hki hEi hTi ho3 hs3 hk03 hE3 HFIN
          go_wp2_with (at_builtin; refine wpList_append_own2 _ rfl (.tmp 88) (.tmp 90) 32 rfl (B4 + 1) 3 i0 (.int .i64 0) 1 8 Tryd.underlying32 hi0 hz0 hz1 hz2 rfl (by decide) _ _ _ rfl (HO.out.alloc _) ⟨wr.heap.size, 0, none⟩ 1 1 [.int .i64 (0 : Int)] rfl rfl (cell_one_new _ _ _) (by simp [Value.oneCell']) (by have := HBD.out; unfold maxLen; omega) (by have := HBD.out; omega) (by simp; have := HSZ.out; omega) ?_)
          intro v' w6 h6 hg hb
          obtain ⟨g6, c6, rfl⟩ := owns_form h6
          obtain ⟨q1, q2⟩ := HSB.out _ _ hg
          have HS6 : Hid (StrAt T1 S Q bs g c most p3 out w6) := q1
          have HK6 : Hid (Kept T1 w1 w6) := HKI.out.trans q2
          have HO6 : Hid (w6.ownsRow (B4 + 1) 3 1 (.slice g6 (l.length + i + 1) c6) (l.length + (i + 1)) ((l ++ List.replicate (i + 1) (0 : Int)).map (Value.int .i64))) := by
            show World.ownsRow _ _ _ _ _ _ _
            rw [List.replicate_succ', List.map_append, List.map_append, List.map_replicate, ← Nat.add_assoc]
            exact h6
          clear h6 hg hb q1 q2 HSB HO
          go_wp2
          exact ⟨⟨i + 1, by omega, by go_num, HO6.out, HS6.out, HK6.out⟩, by simp [intOf]; omega⟩
    have t16 : ((x : Int) == 16) = false := by simp; omega
    have t17 : ((x : Int) == 17) = false := by simp; omega
    have t18 : ((x : Int) == 18) = false := by simp; omega
    have hrb : rnBits x = 2 := by unfold rnBits; rw [if_neg e18, if_neg e17]
    have HT : Hid _ := take_s 2 (by omega) w2 hE2 hs2
    obtain ⟨gq, cq, s0, -, -, -⟩ := hs2.out_cells
    go_wp2_with fail
    refine Calls.mono HT.out ?_
    clear HT s0
    rintro e w3 (⟨k, p3, h3, hk3b, rfl, hs3, hk3⟩ | ⟨h3, rfl, hk3⟩)
    rotate_left
    · have HF : Hid (RowPost T S Q bs g c most out B4 w R (.returned (.tuple #[.slice none 0 0, .int .i64 10])) w3) := HFIN.out _ _ (.inr ⟨10, HR.out.symm.trans (rowS_err hlt (rowStep_take h1 (by omega) (by omega) (by rw [hrb]; exact h3))), by omega, rfl, (hk02.trans (hk3.mono (fun k h => .inl h)))⟩)
      clear HR hE1 hk02 hE2 hc1 HFIN h1 h3 hk3 hs2 ho2 hm1
      go_wp2
      go_ret2
      exact HF.out
    have HST : Hid _ := rowStep_run (many := many) (l := l) h1 (by omega) (by omega) (by rw [hrb]; exact h3)
    have htm := takeS_more h3
    have ho3 := owns_kept ho2 hk3 (fun k h => .inr h)
    have hs3 : StrAt T1 S Q bs g c most p3 out w3 := hs3.more (fun k h _ => .inl h)
    have hk03 := hk02.trans (hk3.mono (fun k h => .inl h))
    have hE3 := hE1.kept hk03
    clear hk3 h3 h1 hs2 hE2 ho2 hk02
    have hcv : IntKind.i64.wrap (k : Int) = (k : Int) := wrap_i64_of (by omega) (by omega)
    have hwm : IntKind.i64.wrap ((many : Int) - (l.length : Int)) = (many : Int) - (l.length : Int) := wrap_i64_of (by omega) (by omega)
    obtain ⟨nn, hnn0⟩ : ∃ nn : Nat, 3 + k = nn := ⟨_, rfl⟩
    have hnz : (3 : Int) + (k : Int) = (nn : Int) := by omega
    have hwn : IntKind.i64.wrap ((3 : Int) + (k : Int)) = (nn : Int) := by rw [wrap_i64_of (by omega) (by omega)]; exact hnz
    have HST2 : Hid (rowStep cz bs many pos l = if many < l.length + nn then .error 12 else .ok (p3, l ++ List.replicate nn (0 : Int))) := by
      have := HST.out
      rw [show rnBase x = 3 from (by unfold rnBase; rw [if_neg e18]), show rnVal x l = (0 : Int) from (by unfold rnVal; rw [if_neg e16]), hnn0] at this
      exact this
    clear HST hnz hnn0
    by_cases hmn : many < l.length + nn
    · have t5 : (many : Int) - (l.length : Int) < (nn : Int) := by omega
      have HF : Hid (RowPost T S Q bs g c most out B4 w R (.returned (.tuple #[.slice none 0 0, .int .i64 12])) w3) := HFIN.out _ _ (.inr ⟨12, HR.out.symm.trans (rowS_err hlt (HST2.out.trans (if_pos hmn))), by omega, rfl, hk03⟩)
      clear HR hE1 hk03 hE3 hc1 HFIN HST2 hs3 ho3
      go_wp2
      go_ret2
      exact HF.out
    have t5 : ¬ ((many : Int) - (l.length : Int) < (nn : Int)) := by omega
    have HRn : Hid (rowS cz bs many f p3 (l ++ List.replicate nn (0 : Int)) = R) := by show _ = _; rw [← HR.out, rowS_more hlt (HST2.out.trans (if_neg hmn))]
    have HBD : Hid (l.length + nn ≤ many ∧ 8 * bs.length + 1 ≤ f + p3 ∧ pos < p3 ∧ p3 ≤ 8 * bs.length) := ⟨by omega, by omega, by omega, hs3.posAt.2⟩
    clear HR HST2 hcv hmn htm hm1
    go_wp2_with fail
    go_loopw [8, 16] (fun v8 v16 wq => ∃ i : Nat, i ≤ nn ∧ v16 = .int .i64 (i : Int) ∧ wq.ownsRow (B4 + 1) 3 1 v8 (l.length + i) ((l ++ List.replicate i (0 : Int)).map (Value.int .i64)) ∧ StrAt T1 S Q bs g c most p3 out wq ∧ Kept T1 w1 wq) (fun _ v16 _ => nn - (intOf v16).toNat)
    case atStart => exact ⟨0, by omega, rfl, by simpa using ho3, hs3, hk03⟩
    case round =>
      obtain ⟨i, hile, rfl, hoi, hsi, hki⟩ := hrel
      obtain ⟨gi, ci, rfl⟩ := owns_form hoi
      have hwi : IntKind.i64.wrap ((i : Int) + 1) = (i : Int) + 1 := wrap_i64_of (by have := HBD.out; omega) (by have := HBD.out; omega)
      by_cases hlti : i < nn
      rotate_left
      · obtain rfl : i = nn := by omega
        have t6 : ¬ ((i : Int) < (i : Int)) := by omega
        have HS1 : Hid (StrAt T1 S Q bs g c most p3 out wr) := hsi
        have HK1 : Hid (Kept T1 w1 wr) := hki
        have HO1 : Hid (wr.ownsRow (B4 + 1) 3 1 (.slice gi (l.length + i) ci) (l ++ List.replicate i (0 : Int)).length ((l ++ List.replicate i (0 : Int)).map (Value.int .i64))) := by show World.ownsRow _ _ _ _ _ _ _; rw [List.length_append, List.length_replicate]; exact hoi
        have HM : Hid (8 * bs.length - posAt Q wr < 8 * bs.length - pos) := by have := hsi.posAt; have := HBD.out; show _ < _; omega
        have HLL : Hid ((l ++ List.replicate i (0 : Int)).length ≤ many) := by have := HBD.out; show _ ≤ _; rw [List.length_append, List.length_replicate]; omega
        clear hoi hsi hki ho3 hs3 hk03 hE3 hE1 hc1 HFIN
        go_wp2
        exact ⟨⟨f, p3, _, HRn, HBD.out.2.1, HLL.out, HO1.out, HS1.out, HK1.out⟩, by rw [HP.out]; exact HM.out⟩
      · have t6 : (i : Int) < (nn : Int) := by omega
        have hEi := hE1.kept hki
        have hTi : ∀ k, (Value.slice gi (l.length + i) ci).ownBlock = some k → ¬ T1 k := fun k e h => by have := hTB k h; have := (hoi.lt k e).1; omega
        have HSB : Hid (∀ (o : Obj) (w6 : World), (wr.alloc o).grownBy w6 (Value.slice gi (l.length + i) ci).ownBlock → StrAt T1 S Q bs g c most p3 out w6 ∧ Kept T1 wr w6) := fun o w6 hg => str_beside hEi hsi hoi hTi hg
        have HO : Hid (wr.ownsRow (B4 + 1) 3 1 (.slice gi (l.length + i) ci) (l.length + i) ((l ++ List.replicate i (0 : Int)).map (Value.int .i64))) := hoi
        have HSZ : Hid (B4 + 1 ≤ wr.heap.size) := by have := hki.size; show _ ≤ _; omega
        have HKI : Hid (Kept T1 w1 wr) := hki
        clear hoi hsi hki hEi hTi ho3 hs3 hk03 hE3 HFIN
        go_wp2_with (at_builtin; refine wpList_append_own2 _ rfl (.tmp 88) (.tmp 90) 32 rfl (B4 + 1) 3 i0 (.int .i64 0) 1 8 Tryd.underlying32 hi0 hz0 hz1 hz2 rfl (by decide) _ _ _ rfl (HO.out.alloc _) ⟨wr.heap.size, 0, none⟩ 1 1 [.int .i64 (0 : Int)] rfl rfl (cell_one_new _ _ _) (by simp [Value.oneCell']) (by have := HBD.out; unfold maxLen; omega) (by have := HBD.out; omega) (by simp; have := HSZ.out; omega) ?_)
        intro v' w6 h6 hg hb
        obtain ⟨g6, c6, rfl⟩ := owns_form h6
        obtain ⟨q1, q2⟩ := HSB.out _ _ hg
        have HS6 : Hid (StrAt T1 S Q bs g c most p3 out w6) := q1
        have HK6 : Hid (Kept T1 w1 w6) := HKI.out.trans q2
        have HO6 : Hid (w6.ownsRow (B4 + 1) 3 1 (.slice g6 (l.length + i + 1) c6) (l.length + (i + 1)) ((l ++ List.replicate (i + 1) (0 : Int)).map (Value.int .i64))) := by
          show World.ownsRow _ _ _ _ _ _ _
          rw [List.replicate_succ', List.map_append, List.map_append, List.map_replicate, ← Nat.add_assoc]
          exact h6
        clear h6 hg hb q1 q2 HSB HO
        go_wp2
        exact ⟨⟨i + 1, by omega, by go_num, HO6.out, HS6.out, HK6.out⟩, by simp [intOf]; omega⟩
end Go.Proofs.YtiheajlgaehfmaaDoor
