import Derived.Test.YtiheajlgaehfmaaDoorIcp
import Derived.Test.YtiheajlgaehfmaaDoorPcd
/- The document's stream: a block's symbols. -/
namespace Go.Proofs.YtiheajlgaehfmaaDoor
open Go.RowKit

theorem StrAt.posAt {T : Nat → Prop} {S Q : Nat} {bs : List Int} {g : Option Addr} {c most pos : Nat} {out : List Int} {w : World} (h : StrAt T S Q bs g c most pos out w) : posAt Q w = pos ∧ pos ≤ 8 * bs.length := by
  obtain ⟨v, hR, h2, ho, hnn, hp⟩ := h
  refine ⟨?_, hp⟩
  unfold YtiheajlgaehfmaaDoor.posAt
  rw [h2.cell1]
  simp [intOf]
theorem StrAt.more {T T' : Nat → Prop} {S Q : Nat} {bs : List Int} {g : Option Addr} {c most pos : Nat} {out : List Int} {w : World} (h : StrAt T S Q bs g c most pos out w) (hT : ∀ k, T' k → k < w.heap.size → T k) : StrAt T' S Q bs g c most pos out w := by
  obtain ⟨v, hR, h2, ho, hnn, hp⟩ := h
  exact ⟨v, hR, h2, ho, fun k hk hT' => hnn k hk (hT k hT' (ho.lt k hk).2), hp⟩
theorem StrAt.low {T : Nat → Prop} {S Q : Nat} {bs : List Int} {g : Option Addr} {c most pos : Nat} {out : List Int} {w w' : World} (h : StrAt T S Q bs g c most pos out w) (hk : Kept (fun k => k < w.heap.size) w w') : StrAt T S Q bs g c most pos out w' := by
  obtain ⟨v, hR, h2, ho, hnn, hp⟩ := h
  exact ⟨v, hR.kept hk hR.lt, h2.kept hk h2.lt, owns_kept ho hk (fun k e => (ho.lt k e).2), hnn, hp⟩
theorem StrAt.lts {T : Nat → Prop} {S Q : Nat} {bs : List Int} {g : Option Addr} {c most pos : Nat} {out : List Int} {w : World} (h : StrAt T S Q bs g c most pos out w) : S < w.heap.size ∧ Q < w.heap.size := by
  obtain ⟨v, hR, h2, _⟩ := h
  exact ⟨hR.lt, h2.lt⟩
/-- More blocks are kept. -/
theorem Env.more {T T' : Nat → Prop} {S Q : Nat} {bs : List Int} {g : Option Addr} {c most : Nat} {w w' : World} (h : Env T S Q bs g c most w) (hk : Kept T w w') (hT : ∀ k, T k → T' k) (hlt : ∀ k, T' k → k < w'.heap.size) (hS : ¬ T' S) (hQ : ¬ T' Q) : Env T' S Q bs g c most w' :=
  ⟨hlt, hS, hQ, (h.bytes.kept hk).mono hT, h.are, h.len, h.cap, h.nil, h.big⟩

theorem copiedS_more {dz bs : List Int} {most sym pos p : Nat} {out o : List Int} (h : copiedS dz bs most sym pos out = .ok (p, o)) : pos ≤ p := by
  unfold copiedS at h
  split at h
  · cases h
  · simp only [bind, Except.bind] at h
    split at h
    · cases h
    · rename_i v1 e1
      have m1 := takeS_more (x := v1.1) (p := v1.2) e1
      split at h
      · cases h
      · rename_i v2 e2
        have m2 : v1.2 ≤ v2.2 := by
          unfold nextS at e2
          split at e2
          · simp only [Except.ok.injEq] at e2
            rw [← e2]
            exact Nat.le_add_right _ _
          · cases e2
        split at h
        · cases h
        · split at h
          · cases h
          · rename_i v3 e3
            have m3 := takeS_more (x := v3.1) (p := v3.2) e3
            split at h
            · cases h
            · split at h
              · cases h
              · simp only [Except.ok.injEq, Prod.mk.injEq] at h
                omega

set_option maxRecDepth 100000 in
set_option maxHeartbeats 4000000 in
theorem symbols_in {T : Nat → Prop} {S Q : Nat} {bs : List Int} {g : Option Addr} {c most pos : Nat} {out : List Int} (lz dz : List Int) (ll lc dl dc : Value) (R : Except Int (Nat × List Int)) (f : Nat) (HR : Hid (symsS lz dz bs most f pos out = R)) (hf : 8 * bs.length + 1 ≤ f + pos) (w : World) (hE : Env T S Q bs g c most w) (hs : StrAt T S Q bs g c most pos out w) (hcl : CodeIn T w ll lc lz) (hcd : CodeIn T w dl dc dz) :
    Calls Tryd.prog 41 #[.pointer (some ⟨S, 0, none⟩), .agg #[ll, lc], .agg #[dl, dc]] w (OpPost T S Q bs g c most w R) := by
  obtain ⟨w1, HW⟩ : ∃ w1, Hid ((w.alloc (.cells #[ll, lc] 70)).alloc (.cells #[dl, dc] 70) = w1) := ⟨_, rfl⟩
  have hsz : w1.heap.size = w.heap.size + 2 := by rw [← HW.out]; simp
  have hkw : Kept (fun k => k < w.heap.size) w w1 := HW.out ▸ ((Kept.refl _ w).alloc (fun k h => h) _).alloc (fun k (h : k < _) => by simp; omega) _
  have b4 : Two w1 w.heap.size 70 ll lc := HW.out ▸ (Two.new w 70 ll lc).alloc _
  have b5 : Two w1 (w.heap.size + 1) 70 dl dc := by
    have := Two.new (w.alloc (.cells #[ll, lc] 70)) 70 dl dc
    rw [World.size_alloc] at this
    rw [← HW.out]
    exact this
  obtain ⟨hSl, hQl⟩ := hs.lts
  obtain ⟨T1, hT1⟩ : ∃ T1 : Nat → Prop, T1 = fun k => T k ∨ k = w.heap.size ∨ k = w.heap.size + 1 := ⟨_, rfl⟩
  have hTT : ∀ k, T k → T1 k := fun k h => by rw [hT1]; exact .inl h
  have hkT : Kept T w w1 := hkw.mono (fun k h => hE.lt k h)
  have hE1 : Env T1 S Q bs g c most w1 := hE.more hkT hTT (fun k h => by rw [hT1] at h; rcases h with h | h | h; have := hE.lt k h; omega; omega; omega) (fun h => by rw [hT1] at h; rcases h with h | h | h; exact hE.nS h; omega; omega) (fun h => by rw [hT1] at h; rcases h with h | h | h; exact hE.nQ h; omega; omega)
  have hs1 : StrAt T1 S Q bs g c most pos out w1 := ((hs.more (T' := T1) (fun k h hl => by rw [hT1] at h; rcases h with h | h | h; exact h; omega; omega))).low hkw
  have hcl1 := (hcl.kept hkT).mono hTT
  have hcd1 := (hcd.kept hkT).mono hTT
  have h4T : T1 w.heap.size := by rw [hT1]; exact .inr (.inl rfl)
  have h5T : T1 (w.heap.size + 1) := by rw [hT1]; exact .inr (.inr rfl)
  clear hT1
  obtain ⟨al, cl, rfl, _⟩ := hcl.lens
  obtain ⟨GC, rfl, _, _⟩ := hcl.codes
  obtain ⟨al2, cl2, rfl, _⟩ := hcd.lens
  obtain ⟨GC2, rfl, _, _⟩ := hcd.codes
  have HKT : Hid (Kept T w w1) := hkT
  have HTT : Hid (∀ k, T k → T1 k) := hTT
  obtain ⟨B4, HB4⟩ : ∃ B4, Hid (w.heap.size = B4) := ⟨_, rfl⟩
  obtain ⟨B5, HB5⟩ : ∃ B5, Hid (w.heap.size + 1 = B5) := ⟨_, rfl⟩
  rw [HB5.out] at b5 h5T
  rw [HB4.out] at b4 h4T
  clear hE hs hcl hcd hkw hkT hTT hsz
  go_enter Tryd.func41, Tryd.ntmps41
  go_wp2_with fail
  rw [HW.out, HB5.out, HB4.out]
  have HFIN : Hid (∀ e w', OpPost T1 S Q bs g c most w1 R e w' → OpPost T S Q bs g c most w R e w') := fun e w' h => OpPost.mono h HTT.out HKT.out
  clear HW HB4 HB5 hSl hQl
  go_loopw [7] (fun _ wr => ∃ (f pos : Nat) (out : List Int), Hid (symsS lz dz bs most f pos out = R) ∧ 8 * bs.length + 1 ≤ f + pos ∧ StrAt T1 S Q bs g c most pos out wr ∧ Kept T1 w1 wr) (fun _ wr => 8 * bs.length - posAt Q wr)
  case atStart => exact ⟨f, pos, out, HR, hf, hs1, Kept.refl _ _⟩
  case round =>
    clear HR hf hs1 pos out f
    obtain ⟨f, pos, out, HR, hf, hs, hk⟩ := hrel
    have hEr := hE1.kept hk
    have hclr := hcl1.kept hk
    have hcdr := hcd1.kept hk
    have hb4 := b4.kept hk h4T
    have hb5 := b5.kept hk h5T
    obtain ⟨hpa, hpb⟩ := hs.posAt
    have hbig := hEr.big
    obtain ⟨f, rfl⟩ : ∃ f', f = f' + 1 := ⟨f - 1, by omega⟩
    have HP : Hid (posAt Q wr = pos) := hpa
    obtain ⟨gv, cv, s0, -, -, -⟩ := hs.out_cells
    have HN : Hid _ := next_u lz _ _ wr.drew (hEr.kept ((Kept.refl _ _).drew)) hs (hclr.kept ((Kept.refl _ _).drew))
    have HS8 : Hid (wr.drew.cell? ⟨B4, 0, none⟩ = some (.slice al lz.length cl) ∧ wr.drew.cell? ⟨B4, 1, none⟩ = some (.slice (some ⟨GC, 0, none⟩) lz.length lz.length) ∧ wr.drew.cell? ⟨S, 0, none⟩ = some (.pointer (some ⟨Q, 0, none⟩))) := ⟨hb4.cell0, hb4.cell1, s0⟩
    clear hpa hb4 s0
    go_wp2_with fail
    refine wp_region_K (fun wx => wx.cell? ⟨B4, 0, none⟩ = some (.slice al lz.length cl) ∧ wx.cell? ⟨B4, 1, none⟩ = some (.slice (some ⟨GC, 0, none⟩) lz.length lz.length) ∧ wx.cell? ⟨S, 0, none⟩ = some (.pointer (some ⟨Q, 0, none⟩))) (fun j => decide (j ≤ 7)) (by kernel_rfl) ?_
    refine wpK_held (k := 0) (v := ?_) rfl (by kernel_rfl) (by kernel_rfl) (fun _ _ _ h => h) rfl (by rintro wx ⟨hx1, hx2, hx3⟩; go_simp <;> rfl) HS8.out ?_
    refine wpK_held (k := 1) (v := ?_) rfl (by kernel_rfl) (by kernel_rfl) (fun _ _ _ h => h) rfl (by rintro wx ⟨hx1, hx2, hx3⟩; go_simp <;> rfl) HS8.out ?_
    refine wpK_held (k := 2) (v := ?_) rfl (by kernel_rfl) (by kernel_rfl) (fun _ _ _ h => h) rfl (by rintro wx ⟨hx1, hx2, hx3⟩; go_simp <;> rfl) HS8.out ?_
    refine wpK_held (k := 3) (v := ?_) rfl (by kernel_rfl) (by kernel_rfl) (fun _ _ _ h => h) rfl (by rintro wx ⟨hx1, hx2, hx3⟩; go_simp <;> rfl) HS8.out ?_
    refine wpK_held (k := 4) (v := ?_) rfl (by kernel_rfl) (by kernel_rfl) (fun _ _ _ h => h) rfl (by rintro wx ⟨hx1, hx2, hx3⟩; go_simp <;> rfl) HS8.out ?_
    refine wpK_held (k := 5) (v := ?_) rfl (by kernel_rfl) (by kernel_rfl) (fun _ _ _ h => h) rfl (by rintro wx ⟨hx1, hx2, hx3⟩; go_simp <;> rfl) HS8.out ?_
    refine wpK_held (k := 6) (v := ?_) rfl (by kernel_rfl) (by kernel_rfl) (fun _ _ _ h => h) rfl (by rintro wx ⟨hx1, hx2, hx3⟩; go_simp <;> rfl) HS8.out ?_
    refine wpK_held (k := 7) (v := ?_) rfl (by kernel_rfl) (by kernel_rfl) (fun _ _ _ h => h) rfl (by rintro wx ⟨hx1, hx2, hx3⟩; go_simp <;> rfl) HS8.out ?_
    refine wpK_one (k := 8) rfl (by kernel_rfl) ?_
    go_wp2_with fail
    refine Calls.mono HN.out ?_
    clear HN HS8 hs
    rintro e w2 ⟨x, er, rfl, hx, hk2, h2⟩
    have hk2 : Kept T1 wr w2 := ((Kept.refl _ wr).drew).trans hk2
    go_wp2_with fail
    refine ⟨(fun h => by cases h), ?_⟩
    refine wpK_free (k := 9) (v := ?_) rfl (by kernel_rfl) (by kernel_rfl) (fun _ _ _ h => h) rfl (by intro wx; go_simp <;> rfl) ?_
    refine wpK_free (k := 10) (v := ?_) rfl (by kernel_rfl) (by kernel_rfl) (fun _ _ _ h => h) rfl (by intro wx; go_simp <;> rfl) ?_
    refine wpK_free (k := 11) (v := ?_) rfl (by kernel_rfl) (by kernel_rfl) (fun _ _ _ h => h) rfl (by intro wx; go_simp <;> rfl) ?_
    refine wpK_free (k := 12) (v := ?_) rfl (by kernel_rfl) (by kernel_rfl) (fun _ _ _ h => h) rfl (by intro wx; go_simp <;> rfl) ?_
    refine wpK_free (k := 13) (v := ?_) rfl (by kernel_rfl) (by kernel_rfl) (fun _ _ _ h => h) rfl (by intro wx; go_simp <;> rfl) ?_
    refine wpK_done 14 rfl (by kernel_rfl) ?_
    have hk12 := hk.trans hk2
    rcases h2 with ⟨rfl, p1, h1, hs2⟩ | ⟨hne, h1⟩
    rotate_left
    · have HF : Hid (OpPost T S Q bs g c most w R (.returned (.int .i64 er)) w2) := HFIN.out _ _ (OpPost.err er (HR.out.symm.trans (symsS_err (symStep_next h1))) hne hk12)
      have t1 : (er != 0) = true := by simpa using hne
      clear HR hE1 hEr hclr hcdr hk hk2 hk12 h1 hb5 HFIN hcl1 hcd1
      go_wp2
      go_ret
      exact HF.out
    have hm1 := nextS_more hcl1.ok h1
    have hE2 := hEr.kept hk2
    have hcd2 := hcdr.kept hk2
    have hb52 := hb5.kept hk2 h5T
    obtain ⟨hpa2, hpb2⟩ := hs2.posAt
    clear hEr hclr hcdr hb5 hk hk2
    by_cases hxe : x = 256
    · subst hxe
      have HF : Hid (OpPost T S Q bs g c most w R (.returned (.int .i64 0)) w2) := HFIN.out _ _ (OpPost.done (HR.out.symm.trans (symsS_end (symStep_end h1))) hs2 hk12)
      clear HR hE1 hk12 h1 HFIN hcl1 hcd1 hE2 hcd2 hb52 hs2
      go_wp2
      go_ret
      exact HF.out
    · have hxz0 : ((x : Int) == 256) = false := by simp; omega
      by_cases hxb : x < 256
      · have hxz : (x : Int) < 256 := by omega
        have hcv : IntKind.u8.wrap (x : Int) = (x : Int) := by simp [IntKind.wrap, IntKind.bits, IntKind.signed]; omega
        have HX : Hid _ := symStep_byte (dz := dz) (most := most) (out := out) h1 hxb
        obtain ⟨R2, HR2⟩ : ∃ R2 : Except Int (Nat × List Int), Hid ((if out.length < most then .ok (p1, out ++ [(x : Int)]) else .error 3) = R2) := ⟨_, rfl⟩
        have HPt : Hid (Calls Tryd.prog 61 #[.pointer (some ⟨S, 0, none⟩), .int .u8 (x : Int)] w2 (OpPost T1 S Q bs g c most w2 R2)) := put_any (x : Int) R2 HR2 w2 hE2 hs2
        clear h1 hE2 hcd2 hb52 hs2
        go_wp2_with fail
        refine Calls.mono HPt.out ?_
        clear HPt
        rintro e w3 (⟨p3, o3, e3, rfl, hs3, hk3⟩ | ⟨er, e3, hne, rfl, hk3⟩)
        · by_cases hlt : out.length < most
          rotate_left
          · rw [← HR2.out, if_neg hlt] at e3; cases e3
          rw [← HR2.out, if_pos hlt] at e3
          simp only [Except.ok.injEq, Prod.mk.injEq] at e3
          obtain ⟨rfl, rfl⟩ := e3
          have HRn : Hid (symsS lz dz bs most f p1 (out ++ [(x : Int)]) = R) := by show _ = _; rw [← HR.out, symsS_more (HX.out.trans (if_pos hlt))]
          obtain ⟨hpa3, hpb3⟩ := hs3.posAt
          have HM : Hid (8 * bs.length - posAt Q w3 < 8 * bs.length - posAt Q wr) := by have := HP.out; show _ < _; omega
          have HST : Hid _ := hs3
          have HK : Hid _ := hk12.trans hk3
          clear hs3 hk3 hk12 HX HR HR2 hpa3 hpa2 hE1 hcl1 hcd1 HFIN
          go_wp2
          exact ⟨⟨f, p1, _, HRn, by omega, HST.out, HK.out⟩, HM.out⟩
        · by_cases hlt : out.length < most
          · rw [← HR2.out, if_pos hlt] at e3; cases e3
          rw [← HR2.out, if_neg hlt] at e3
          simp only [Except.error.injEq] at e3
          subst e3
          have HF : Hid (OpPost T S Q bs g c most w R (.returned (.int .i64 3)) w3) := HFIN.out _ _ (OpPost.err 3 (HR.out.symm.trans (symsS_err (HX.out.trans (if_neg hlt)))) hne (hk12.trans hk3))
          clear hk3 hk12 HX HR HR2 hpa2 hE1 hcl1 hcd1 HFIN
          go_wp2
          go_ret
          exact HF.out
      · have hxz : ¬ ((x : Int) < 256) := by omega
        have HX : Hid _ := symStep_copy (dz := dz) (most := most) (out := out) h1 (by omega : 256 < x)
        obtain ⟨R2, HR2⟩ : ∃ R2, Hid (copiedS dz bs most x p1 out = R2) := ⟨_, rfl⟩
        obtain ⟨B, HB⟩ : ∃ B, Hid (w2.heap.size = B) := ⟨_, rfl⟩
        obtain ⟨w2', HW2⟩ : ∃ w2', Hid (w2.alloc (.cells #[.slice al2 dz.length cl2, .slice (some ⟨GC2, 0, none⟩) dz.length dz.length] 70) = w2') := ⟨_, rfl⟩
        have hkl : Kept (fun k => k < w2.heap.size) w2 w2' := HW2.out ▸ (Kept.refl _ w2).alloc (fun k h => h) _
        have hkT2 : Kept T1 w2 w2' := hkl.mono (fun k h => hE2.lt k h)
        have hsz2 : w2'.heap.size = B + 1 := by rw [← HW2.out, ← HB.out]; simp
        obtain ⟨hSl, hQl⟩ := hs2.lts
        have hBT : ∀ k, T1 k → k < B := fun k h => by rw [← HB.out]; exact hE2.lt k h
        have hE3 : Env (fun k => T1 k ∨ k = B) S Q bs g c most w2' := hE2.more hkT2 (fun k h => .inl h) (fun k h => by rcases h with h | rfl; have := hBT k h; omega; omega) (fun h => by rcases h with h | h; exact hE2.nS h; have := HB.out; omega) (fun h => by rcases h with h | h; exact hE2.nQ h; have := HB.out; omega)
        have hs3 : StrAt (fun k => T1 k ∨ k = B) S Q bs g c most p1 out w2' := (hs2.more (T' := fun k => T1 k ∨ k = B) (fun k h hl => by rcases h with h | rfl; exact h; have := HB.out; omega)).low hkl
        have HCp : Hid (Calls Tryd.prog 62 #[.pointer (some ⟨S, 0, none⟩), .int .i64 (x : Int), .agg #[.slice al2 dz.length cl2, .slice (some ⟨GC2, 0, none⟩) dz.length dz.length]] w2 (OpPost (fun k => T1 k ∨ k = B) S Q bs g c most w2' R2)) := copied_in dz _ _ x R2 HR2 w2 w2' hx HB HW2 hE3 hs3 ((hcd2.kept hkT2).mono (fun k h => .inl h))
        have c50 := hb52.cell0
        have c51 := hb52.cell1
        clear h1 hE2 hcd2 hb52 hs2 hE3 hs3 hkl
        go_wp2_with fail
        refine Calls.mono HCp.out ?_
        clear HCp
        intro e w3 hp3
        have hp3 : OpPost T1 S Q bs g c most w2 R2 e w3 := OpPost.mono hp3 (fun k h => .inl h) hkT2
        rcases hp3 with ⟨p3, o3, e3, rfl, hs3, hk3⟩ | ⟨er, e3, hne, rfl, hk3⟩
        · have h9 : p1 ≤ p3 := copiedS_more (HR2.out.trans e3)
          have HRn : Hid (symsS lz dz bs most f p3 o3 = R) := by
            show _ = _
            rw [← HR.out, symsS_more (u := ()) (p := p3) (o := o3)]
            rw [HX.out, HR2.out, e3]
          obtain ⟨hpa3, hpb3⟩ := hs3.posAt
          have HM : Hid (8 * bs.length - posAt Q w3 < 8 * bs.length - posAt Q wr) := by have := HP.out; show _ < _; omega
          have HST : Hid _ := hs3
          have HK : Hid _ := hk12.trans hk3
          clear hs3 hk3 hk12 HX HR HR2 hpa3 hpa2 hE1 hcl1 hcd1 HFIN c50 c51 e3
          go_wp2
          exact ⟨⟨f, p3, o3, HRn, by omega, HST.out, HK.out⟩, HM.out⟩
        · have HF : Hid (OpPost T S Q bs g c most w R (.returned (.int .i64 er)) w3) := HFIN.out _ _ (OpPost.err er (HR.out.symm.trans (symsS_err (by rw [HX.out, HR2.out, e3]))) hne (hk12.trans hk3))
          have t1 : (er != 0) = true := by simpa using hne
          clear hk3 hk12 HX HR HR2 hpa2 hE1 hcl1 hcd1 HFIN c50 c51 e3
          go_wp2
          go_ret
          exact HF.out
end Go.Proofs.YtiheajlgaehfmaaDoor
