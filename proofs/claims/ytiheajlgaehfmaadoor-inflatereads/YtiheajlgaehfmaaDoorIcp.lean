import Derived.Test.YtiheajlgaehfmaaDoorIstM
import Derived.Test.YtiheajlgaehfmaaDoorRby
import Derived.Test.YtiheajlgaehfmaaDoorIsl
import Derived.Test.YtiheajlgaehfmaaDoorOrd
import Derived.Deep.CutRange
/- The document's stream: copied. -/
namespace Go.Proofs.YtiheajlgaehfmaaDoor
open Go.RowKit

theorem OpPost.mono {T T' : Nat → Prop} {S Q : Nat} {bs : List Int} {g : Option Addr} {c most : Nat} {w w1 : World} {R : Except Int (Nat × List Int)} {e : Ending} {w' : World} (h : OpPost T' S Q bs g c most w1 R e w') (hT : ∀ k, T k → T' k) (hk : Kept T w w1) : OpPost T S Q bs g c most w R e w' := by
  rcases h with ⟨pos, out, h1, h2, ⟨v, a1, a2, a3, a4, a5⟩, h4⟩ | ⟨er, h1, h2, h3, h4⟩
  · exact .inl ⟨pos, out, h1, h2, ⟨v, a1, a2, a3, fun k hk hTk => a4 k hk (hT k hTk), a5⟩, hk.trans (h4.mono hT)⟩
  · exact .inr ⟨er, h1, h2, h3, hk.trans (h4.mono hT)⟩
theorem OpPost.err {T : Nat → Prop} {S Q : Nat} {bs : List Int} {g : Option Addr} {c most : Nat} {w : World} {R : Except Int (Nat × List Int)} {w' : World} (er : Int) (h : R = .error er) (hne : er ≠ 0) (hk : Kept T w w') : OpPost T S Q bs g c most w R (.returned (.int .i64 er)) w' := Or.inr ⟨er, h, hne, rfl, hk⟩
theorem OpPost.done {T : Nat → Prop} {S Q : Nat} {bs : List Int} {g : Option Addr} {c most pos : Nat} {out : List Int} {w : World} {R : Except Int (Nat × List Int)} {w' : World} (h : R = .ok (pos, out)) (hs : StrAt T S Q bs g c most pos out w') (hk : Kept T w w') : OpPost T S Q bs g c most w R (.returned (.int .i64 0)) w' := Or.inl ⟨pos, out, h, rfl, hs, hk⟩
theorem StrAt.out_cells {T : Nat → Prop} {S Q : Nat} {bs : List Int} {g : Option Addr} {c most pos : Nat} {out : List Int} {w : World} (h : StrAt T S Q bs g c most pos out w) : ∃ gv cv, w.cell? ⟨S, 0, none⟩ = some (.pointer (some ⟨Q, 0, none⟩)) ∧ w.cell? ⟨S, 1, none⟩ = some (.slice gv out.length cv) ∧ w.cell? ⟨S, 2, none⟩ = some (.int .i64 (most : Int)) ∧ out.length ≤ 9223372036854775807 := by
  obtain ⟨v, hR, _, ho, _⟩ := h
  have hb : out.length ≤ 9223372036854775807 := by
    rcases ho.2 with ⟨_, h0⟩ | ⟨_, cap, _, _, _, _, h1, h2, _⟩
    · omega
    · unfold maxLen at h2
      omega
  obtain ⟨gv, cv, rfl⟩ := owns_form ho
  exact ⟨gv, cv, hR.cell rfl, hR.cell rfl, hR.cell rfl, hb⟩
theorem distBase_pos (k : Nat) : 1 ≤ distBase k := by
  induction k with
  | zero => simp [distBase]
  | succ k ih => exact Nat.le_trans ih (Nat.le_add_right _ _)
set_option maxRecDepth 100000 in
set_option maxHeartbeats 4000000 in
theorem copied_in {T : Nat → Prop} {S Q B : Nat} {bs : List Int} {g : Option Addr} {c most pos : Nat} {out : List Int} (dz : List Int) (dl dc : Value) (sym : Nat) (R : Except Int (Nat × List Int)) (HR : Hid (copiedS dz bs most sym pos out = R)) (w w1 : World)
    (hsym : sym < 320) (HB : Hid (w.heap.size = B)) (HW : Hid (w.alloc (.cells #[dl, dc] 70) = w1)) (hE : Env (fun x => T x ∨ x = B) S Q bs g c most w1) (hs : StrAt (fun x => T x ∨ x = B) S Q bs g c most pos out w1) (hc : CodeIn (fun x => T x ∨ x = B) w1 dl dc dz) :
    Calls Tryd.prog 62 #[.pointer (some ⟨S, 0, none⟩), .int .i64 (sym : Int), .agg #[dl, dc]] w (OpPost (fun x => T x ∨ x = B) S Q bs g c most w1 R) := by
  obtain ⟨al, cl, rfl, -⟩ := hc.lens
  obtain ⟨GC, rfl, -, -⟩ := hc.codes
  have hbox : Two w1 B 70 (.slice al dz.length cl) (.slice (some ⟨GC, 0, none⟩) dz.length dz.length) := by
    rw [← HB.out, ← HW.out]
    exact Two.new w _ _ _
  go_enter Tryd.func62, Tryd.ntmps62
  go_wp2_with fail
  rw [HB.out, HW.out]
  clear HB HW w
  refine (lit_r (tabRes (litS sym)) sym rfl w1).mono ?_
  rintro e w' ⟨rfl, hw'⟩
  rw [hw']
  clear hw' w'
  cases hl : litS (sym : Int) with
  | none =>
    have HF : Hid (OpPost (fun x => T x ∨ x = B) S Q bs g c most w1 R (.returned (.int .i64 12)) w1) := OpPost.err 12 (HR.out.symm.trans (copiedS_none hl)) (by omega) (Kept.refl _ _)
    simp only [tabRes]
    clear hE hs hc hbox HR hl
    go_wp2
    go_ret
    exact HF.out
  | some be =>
    obtain ⟨base, extra⟩ := be
    have hbb : base ≤ 258 ∧ extra ≤ 5 := by
      unfold litS at hl
      split at hl
      · cases hl
      · rename_i h9
        split at hl
        · simp only [Option.some.injEq, Prod.mk.injEq] at hl
          omega
        · rename_i h8
          simp only [Option.some.injEq, Prod.mk.injEq] at hl
          have h1 : (sym : Int).toNat - 257 ≤ 27 := by omega
          have h2 : ∀ k, k ≤ 27 → litBase k ≤ 258 := by decide
          have := h2 _ h1
          have := litBits_le (sym : Int).toNat (by omega)
          omega
    simp only [tabRes]
    obtain ⟨gv, cv, s0, s1, s2, _⟩ := hs.out_cells
    have HT : Hid _ := take_s extra (by omega) w1 hE hs
    clear s1 s2
    go_wp2_with fail
    refine Calls.mono HT.out ?_
    rintro e w2 (⟨x, p2, h2, hx, rfl, hs2, hk2⟩ | ⟨h2, rfl, hk2⟩)
    rotate_left
    · have HF : Hid (OpPost (fun x => T x ∨ x = B) S Q bs g c most w1 R (.returned (.int .i64 10)) w2) := OpPost.err 10 (HR.out.symm.trans (copiedS_take hl h2)) (by omega) hk2
      clear hE hs hc hbox HR hl HT
      go_wp2
      go_ret
      exact HF.out
    have hE2 := hE.kept hk2
    have hc2 := hc.kept hk2
    have hbox2 := hbox.kept hk2 (.inr rfl)
    have b0 := hbox2.cell0
    have b1 := hbox2.cell1
    obtain ⟨gv2, cv2, s0, s1, s2, _⟩ := hs2.out_cells
    have HN : Hid _ := next_u dz _ _ w2.drew (hE2.kept ((Kept.refl _ _).drew)) hs2 (hc2.kept ((Kept.refl _ _).drew))
    clear HT s1 s2 hbox hc hs hE
    have HS8 : Hid (w2.drew.cell? ⟨B, 0, none⟩ = some (.slice al dz.length cl) ∧ w2.drew.cell? ⟨B, 1, none⟩ = some (.slice (some ⟨GC, 0, none⟩) dz.length dz.length) ∧ w2.drew.cell? ⟨S, 0, none⟩ = some (.pointer (some ⟨Q, 0, none⟩))) := ⟨b0, b1, s0⟩
    go_wp2_with fail
    refine wp_region_K (fun wx => wx.cell? ⟨B, 0, none⟩ = some (.slice al dz.length cl) ∧ wx.cell? ⟨B, 1, none⟩ = some (.slice (some ⟨GC, 0, none⟩) dz.length dz.length) ∧ wx.cell? ⟨S, 0, none⟩ = some (.pointer (some ⟨Q, 0, none⟩))) (fun j => decide (j ≤ 7)) (by kernel_rfl) ?_
    refine wpK_held (k := 0) (v := ?_) rfl (by kernel_rfl) (by kernel_rfl) (fun _ _ _ h => h) rfl (by rintro wx ⟨hx1, hx2, hx3⟩; go_simp <;> rfl) HS8.out ?_
    refine wpK_held (k := 1) (v := ?_) rfl (by kernel_rfl) (by kernel_rfl) (fun _ _ _ h => h) rfl (by rintro wx ⟨hx1, hx2, hx3⟩; go_simp <;> rfl) HS8.out ?_
    refine wpK_held (k := 2) (v := ?_) rfl (by kernel_rfl) (by kernel_rfl) (fun _ _ _ h => h) rfl (by rintro wx ⟨hx1, hx2, hx3⟩; go_simp <;> rfl) HS8.out ?_
    refine wpK_held (k := 3) (v := ?_) rfl (by kernel_rfl) (by kernel_rfl) (fun _ _ _ h => h) rfl (by rintro wx ⟨hx1, hx2, hx3⟩; go_simp <;> rfl) HS8.out ?_
    refine wpK_held (k := 4) (v := ?_) rfl (by kernel_rfl) (by kernel_rfl) (fun _ _ _ h => h) rfl (by rintro wx ⟨hx1, hx2, hx3⟩; go_simp <;> rfl) HS8.out ?_
    refine wpK_held (k := 5) (v := ?_) rfl (by kernel_rfl) (by kernel_rfl) (fun _ _ _ h => h) rfl (by rintro wx ⟨hx1, hx2, hx3⟩; go_simp <;> rfl) HS8.out ?_
    refine wpK_held (k := 6) (v := ?_) rfl (by kernel_rfl) (by kernel_rfl) (fun _ _ _ h => h) rfl (by rintro wx ⟨hx1, hx2, hx3⟩; go_simp <;> rfl) HS8.out ?_
    refine wpK_held (k := 7) (v := ?_) rfl (by kernel_rfl) (by kernel_rfl) (fun _ _ _ h => h) rfl (by rintro wx ⟨hx1, hx2, hx3⟩; go_simp <;> rfl) HS8.out ?_
    refine wpK_one (k := 8) rfl (by kernel_rfl) ?_
    go_wp2_with fail
    refine Calls.mono HN.out ?_
    rintro e wc ⟨d, er, rfl, hd, hk3, h3⟩
    have hk3 : Kept (fun x => T x ∨ x = B) w2 wc := ((Kept.refl _ w2).drew).trans hk3
    go_wp2_with fail
    refine ⟨(fun h => by cases h), ?_⟩
    refine wpK_free (k := 9) (v := ?_) rfl (by kernel_rfl) (by kernel_rfl) (fun _ _ _ h => h) rfl (by intro wx; go_simp <;> rfl) ?_
    refine wpK_free (k := 10) (v := ?_) rfl (by kernel_rfl) (by kernel_rfl) (fun _ _ _ h => h) rfl (by intro wx; go_simp <;> rfl) ?_
    refine wpK_free (k := 11) (v := ?_) rfl (by kernel_rfl) (by kernel_rfl) (fun _ _ _ h => h) rfl (by intro wx; go_simp <;> rfl) ?_
    refine wpK_free (k := 12) (v := ?_) rfl (by kernel_rfl) (by kernel_rfl) (fun _ _ _ h => h) rfl (by intro wx; go_simp <;> rfl) ?_
    refine wpK_free (k := 13) (v := ?_) rfl (by kernel_rfl) (by kernel_rfl) (fun _ _ _ h => h) rfl (by intro wx; go_simp <;> rfl) ?_
    refine wpK_done 14 rfl (by kernel_rfl) ?_
    have hk13 : Kept (fun x => T x ∨ x = B) w1 wc := hk2.trans hk3
    clear HN b0 b1 s0 hbox2 hs2 HS8
    rcases h3 with ⟨rfl, p3, h3, hs3⟩ | ⟨her, h3⟩
    rotate_left
    · have t1 : (er != 0) = true := by simpa using her
      have HF : Hid (OpPost (fun x => T x ∨ x = B) S Q bs g c most w1 R (.returned (.int .i64 er)) wc) := OpPost.err er (HR.out.symm.trans (copiedS_next hl h2 h3)) her hk13
      clear HR hl h2 h3 hk3 hk13 hE2 hc2 hk2
      go_wp2
      go_ret
      exact HF.out
    have hE3 := hE2.kept hk3
    have HD : Hid _ := dist_r (tabRes (distS (d : Int))) d rfl wc
    go_wp2_with fail
    refine Calls.mono HD.out ?_
    rintro e w' ⟨rfl, hw'⟩
    rw [hw']
    clear hw' w' HD
    cases hd4 : distS (d : Int) with
    | none =>
      have HF : Hid (OpPost (fun x => T x ∨ x = B) S Q bs g c most w1 R (.returned (.int .i64 12)) wc) := OpPost.err 12 (HR.out.symm.trans (copiedS_dist hl h2 h3 hd4)) (by omega) hk13
      simp only [tabRes]
      clear HR hl h2 h3 hk3 hk13 hE2 hc2 hk2 hs3 hE3 hd4
      go_wp2
      go_ret
      exact HF.out
    | some de =>
      obtain ⟨db, de⟩ := de
      have hdb : 1 ≤ db ∧ db ≤ 300000 ∧ de ≤ 13 := by
        unfold distS at hd4
        split at hd4
        · cases hd4
        · simp only [Option.some.injEq, Prod.mk.injEq] at hd4
          have := distBase_le (d : Int).toNat (by omega)
          have := distBits_le (d : Int).toNat (by omega)
          have := distBase_pos (d : Int).toNat
          omega
      simp only [tabRes]
      obtain ⟨gv3, cv3, s0, s1, s2, _⟩ := hs3.out_cells
      have HT : Hid _ := take_s de (by omega) wc hE3 hs3
      clear s1 s2
      go_wp2_with fail
      refine Calls.mono HT.out ?_
      rintro e w4 (⟨y, p4, h5, hy, rfl, hs4, hk4⟩ | ⟨h5, rfl, hk4⟩)
      rotate_left
      · have HF : Hid (OpPost (fun x => T x ∨ x = B) S Q bs g c most w1 R (.returned (.int .i64 10)) w4) := OpPost.err 10 (HR.out.symm.trans (copiedS_take2 hl h2 h3 hd4 h5)) (by omega) (hk13.trans hk4)
        clear HR hl h2 h3 hk3 hk13 hE2 hc2 hk2 hs3 hE3 hd4 HT hk4
        go_wp2
        go_ret
        exact HF.out
      have hE4 := hE3.kept hk4
      have hbig := hE4.big
      have hk14 := hk13.trans hk4
      have HX : Hid _ := HR.out.symm.trans (copiedS_all hl h2 h3 hd4 h5)
      obtain ⟨gv4, cv4, s0', s1, s2, hol⟩ := hs4.out_cells
      clear HT hs3 hE3 hk13 hk3 hk2 hE2 hc2 hd4 h5 h3 h2 hl HR hk4 s0 s0'
      by_cases hfar : out.length < db + y
      · have HF : Hid (OpPost (fun x => T x ∨ x = B) S Q bs g c most w1 R (.returned (.int .i64 12)) w4) := OpPost.err 12 (HX.out.trans (if_pos hfar)) (by omega) hk14
        have t1 : (out.length : Int) < (db : Int) + (y : Int) := by omega
        clear HX hs4 hE4 hk14
        go_wp2
        go_ret
        exact HF.out
      · have t1 : ¬ (out.length : Int) < (db : Int) + (y : Int) := by omega
        by_cases hmost : most < out.length + (base + x)
        · have HF : Hid (∀ n, OpPost (fun x => T x ∨ x = B) S Q bs g c most w1 R (.returned (.int .i64 3)) (w4.drewN n)) := fun n => OpPost.err 3 (HX.out.trans ((if_neg hfar).trans (if_pos hmost))) (by omega) (hk14.drewN n)
          have t2 : (most : Int) - (out.length : Int) < (base : Int) + (x : Int) := by omega
          have t3 : decide ((most : Int) - (out.length : Int) < (base : Int) + (x : Int)) = true := decide_eq_true t2
          clear HX hs4 hE4 hk14
          go_wp2_with fail
          go_quiet (fail)
          go_wp2
          go_ret
          exact HF.out _
        · have t2 : ¬ (most : Int) - (out.length : Int) < (base : Int) + (x : Int) := by omega
          have t3 : decide ((most : Int) - (out.length : Int) < (base : Int) + (x : Int)) = false := decide_eq_false t2
          have HY : Hid (R = .ok (p4, copyS (db + y) (base + x) out)) := HX.out.trans ((if_neg hfar).trans (if_neg hmost))
          clear HX
          go_wp2_with fail
          go_quiet (fail)
          go_wp2_with fail
          have hs5 : StrAt (fun x => T x ∨ x = B) S Q bs g c most p4 out (w4.drewN nq) := hs4.drewN nq
          have hk5 : Kept (fun x => T x ∨ x = B) w1 (w4.drewN nq) := hk14.drewN nq
          have hE5 : Env (fun x => T x ∨ x = B) S Q bs g c most (w4.drewN nq) := hE4.kept ((Kept.refl _ w4).drewN nq)
          generalize w4.drewN nq = w5 at hs5 hk5 hE5 ⊢
          clear hs4 hE4 hk14 s1 s2
          obtain ⟨F, hF⟩ : ∃ F, db + y = F := ⟨_, rfl⟩
          obtain ⟨N, hN⟩ : ∃ N, base + x = N := ⟨_, rfl⟩
          have hFz : (db : Int) + (y : Int) = (F : Int) := by omega
          have hNz : (base : Int) + (x : Int) = (N : Int) := by omega
          rw [hF, hN] at HY
          have hF1 : 1 ≤ F := by omega
          rw [hF] at hfar
          rw [hN] at hmost
          rw [hFz, hNz]
          clear hF hN t1 t2 t3 hFz hNz
          have HH : Hid (¬ out.length < F ∧ ¬ most < out.length + N) := ⟨hfar, hmost⟩
          clear hfar hmost
          rw [show decide ((out.length : Int) < (F : Int)) = false from decide_eq_false (by have := HH.out.1; omega)]
          go_loopw [15] (fun v15 wr => ∃ (i : Nat) (os : List Int), i ≤ N ∧ v15 = .int .i64 (i : Int) ∧ copyS F (N - i) os = copyS F N out ∧ os.length = out.length + i ∧ StrAt (fun x => T x ∨ x = B) S Q bs g c most p4 os wr ∧ Kept (fun x => T x ∨ x = B) w1 wr ∧ Kept (fun x => T x ∨ x = B) w5 wr) (fun v15 _ => N - (intOf v15).toNat)
          case atStart => exact ⟨0, out, by omega, rfl, rfl, rfl, hs5, hk5, Kept.refl _ _⟩
          case round =>
            obtain ⟨i, os, hi, rfl, hcp, hol, hsr, hkr, hk5r⟩ := hrel
            by_cases hlt : i < N
            · obtain ⟨hfar, hmost⟩ := HH.out
              obtain ⟨v, hR, h2, ho, hn, hp⟩ := hsr
              obtain ⟨gv5, cv5, rfl⟩ := owns_form ho
              obtain ⟨gb, rfl⟩ : ∃ gb, gv5 = some ⟨gb, 0, none⟩ := by
                rcases ho.2 with ⟨_, h9⟩ | ⟨gb, _, _, e, _⟩
                · omega
                · simp only [Value.slice.injEq] at e
                  exact ⟨gb, e.1⟩
              have hce := ho.cells (g := gb) rfl (os.length - F) (.int .u8 (os[os.length - F]?.getD 0)) (by simp [show os.length - F < os.length by omega])
              have hadd : (⟨gb, 0, none⟩ : Addr).add (os.length - F) = ⟨gb, os.length - F, none⟩ := by unfold Addr.add; split <;> simp_all
              rw [hadd] at hce
              have HCP : Hid (copyS F (N - (i + 1)) (os ++ [os[os.length - F]?.getD 0]) = copyS F N out) := by
                show _ = _
                rw [← hcp, show N - i = (N - (i + 1)) + 1 by omega, copyS]
              generalize os[os.length - F]?.getD 0 = b at hce HCP
              have hEr := hE5.kept hk5r
              have c1 := hR.cell (i := 1) (v := .slice (some ⟨gb, 0, none⟩) os.length cv5) rfl
              have hsub : (os.length : Int) - (F : Int) = ((os.length - F : Nat) : Int) := by omega
              have hidx : os.length - F < os.length := by omega
              have HS : Hid (wr.drew.cell? ⟨S, 1, none⟩ = some (.slice (some ⟨gb, 0, none⟩) os.length cv5) ∧ wr.drew.cell? ⟨gb, os.length - F, none⟩ = some (.int .u8 b)) := ⟨c1, hce⟩
              have HS2 : Hid ((wr.drew.alloc (.cells #[.int .u8 b] 5)).cell? ⟨S, 1, none⟩ = some (.slice (some ⟨gb, 0, none⟩) os.length cv5) ∧ (wr.drew.alloc (.cells #[.int .u8 b] 5)).cell? ⟨gb, os.length - F, none⟩ = some (.int .u8 b)) := by
                have hb2 := (Kept.refl (fun k => k < wr.drew.heap.size) wr.drew).alloc (fun _ h => h) (.cells #[.int .u8 b] 5)
                exact ⟨(hb2.cell (p := ⟨S, 1, none⟩) hR.lt).trans c1, (hb2.cell (p := ⟨gb, os.length - F, none⟩) (ho.lt gb rfl).2).trans hce⟩
              have HO : Hid ((wr.drew.alloc (.cells #[.int .u8 b] 5)).ownsRow 0 5 1 (.slice (some ⟨gb, 0, none⟩) os.length cv5) os.length (os.map (Value.int .u8))) := (show wr.drew.ownsRow 0 5 1 _ _ _ from ho).alloc _
              have HNW : Hid (∀ (j : Nat) (u : Value), ([Value.int .u8 b])[j]? = some u → (wr.drew.alloc (.cells #[.int .u8 b] 5)).cell? ((⟨wr.drew.heap.size, 0, none⟩ : Addr).add j) = some u) := cell_one_new wr.drew (.int .u8 b) 5
              have HF : Hid (∀ (v' : Value) (w6 : World), w6.ownsRow 0 5 1 v' (os.length + 1) (os.map (Value.int .u8) ++ [.int .u8 b]) → (wr.drew.alloc (.cells #[.int .u8 b] 5)).grownBy w6 (Value.slice (some ⟨gb, 0, none⟩) os.length cv5).ownBlock → (∀ k, v'.ownBlock = some k → (Value.slice (some ⟨gb, 0, none⟩) os.length cv5).ownBlock = some k ∨ (wr.drew.alloc (.cells #[.int .u8 b] 5)).heap.size ≤ k) →
                  w6.cell? ⟨S, 1, none⟩ = some (.slice (some ⟨gb, 0, none⟩) os.length cv5) ∧ w6.frozen? ⟨S, 1, none⟩ = false ∧ StrAt (fun x => T x ∨ x = B) S Q bs g c most p4 (os ++ [b]) (w6.setCell ⟨S, 1, none⟩ v') ∧ Kept (fun x => T x ∨ x = B) w1 (w6.setCell ⟨S, 1, none⟩ v') ∧ Kept (fun x => T x ∨ x = B) w5 (w6.setCell ⟨S, 1, none⟩ v')) := by
                intro v' w6 h6 hg hbk
                obtain ⟨a1, a2, a3, a4⟩ := str_push (T := fun x => T x ∨ x = B) (news := [b]) (w0 := w1) (w := wr.drew) hEr.lt hE5.nS hR h2 ho hn hp hkr.drew (by simpa using h6) hg hbk
                obtain ⟨_, _, _, a5⟩ := str_push (T := fun x => T x ∨ x = B) (news := [b]) (w0 := w5) (w := wr.drew) hEr.lt hE5.nS hR h2 ho hn hp hk5r.drew (by simpa using h6) hg hbk
                exact ⟨a1, a2, a3, a4, a5⟩
              have hol2 : os.length ≤ 65536 := by omega
              have hwi : IntKind.i64.wrap ((i : Int) + 1) = (i : Int) + 1 := wrap_i64_of (by omega) (by omega)
              have hw1 : IntKind.i64.wrap ((os.length : Int) - (F : Int)) = ((os.length - F : Nat) : Int) := by rw [hsub]; exact wrap_i64_of (by omega) (by omega)
              obtain ⟨i0, hi0, hz0, hz1, hz2⟩ := info_parts Tryd.info5
              have HOL : Hid (os.length = out.length + i) := hol
              clear hR h2 ho hn hp hkr hk5r hEr hs5 hk5 hE5 hadd hol hcp hsub c1 hce hfar hmost
              go_wp2_with fail
              refine wp_region_K (fun wx => wx.cell? ⟨S, 1, none⟩ = some (.slice (some ⟨gb, 0, none⟩) os.length cv5) ∧ wx.cell? ⟨gb, os.length - F, none⟩ = some (.int .u8 b)) (fun j => decide (1 ≤ j) && decide (j ≤ 18)) (by kernel_rfl) ?_
              refine wpK_free (k := 0) (v := ?_) rfl (by kernel_rfl) (by kernel_rfl) (fun _ _ _ h => h) rfl (by intro wx; go_simp <;> rfl) ?_
              refine wpK_held (k := 1) (v := ?_) rfl (by kernel_rfl) (by kernel_rfl) (fun _ _ _ h => h) rfl (by rintro wx ⟨hx1, hx2⟩; go_simp <;> rfl) HS.out ?_
              refine wpK_held (k := 2) (v := ?_) rfl (by kernel_rfl) (by kernel_rfl) (fun _ _ _ h => h) rfl (by rintro wx ⟨hx1, hx2⟩; go_simp <;> rfl) HS.out ?_
              refine wpK_held (k := 3) (v := ?_) rfl (by kernel_rfl) (by kernel_rfl) (fun _ _ _ h => h) rfl (by rintro wx ⟨hx1, hx2⟩; go_simp <;> rfl) HS.out ?_
              refine wpK_held (k := 4) (v := ?_) rfl (by kernel_rfl) (by kernel_rfl) (fun _ _ _ h => h) rfl (by rintro wx ⟨hx1, hx2⟩; go_simp <;> rfl) HS.out ?_
              refine wpK_held (k := 5) (v := ?_) rfl (by kernel_rfl) (by kernel_rfl) (fun _ _ _ h => h) rfl (by rintro wx ⟨hx1, hx2⟩; go_simp <;> rfl) HS.out ?_
              refine wpK_held (k := 6) (v := ?_) rfl (by kernel_rfl) (by kernel_rfl) (fun _ _ _ h => h) rfl (by rintro wx ⟨hx1, hx2⟩; go_simp <;> rfl) HS.out ?_
              refine wpK_held (k := 7) (v := ?_) rfl (by kernel_rfl) (by kernel_rfl) (fun _ _ _ h => h) rfl (by rintro wx ⟨hx1, hx2⟩; go_simp <;> rfl) HS.out ?_
              refine wpK_held (k := 8) (v := ?_) rfl (by kernel_rfl) (by kernel_rfl) (fun _ _ _ h => h) rfl (by rintro wx ⟨hx1, hx2⟩; go_simp <;> rfl) HS.out ?_
              refine wpK_held (k := 9) (v := ?_) rfl (by kernel_rfl) (by kernel_rfl) (fun _ _ _ h => h) rfl (by rintro wx ⟨hx1, hx2⟩; go_simp <;> rfl) HS.out ?_
              refine wpK_held (k := 10) (v := ?_) rfl (by kernel_rfl) (by kernel_rfl) (fun _ _ _ h => h) rfl (by rintro wx ⟨hx1, hx2⟩; go_simp <;> rfl) HS.out ?_
              refine wpK_held (k := 11) (v := ?_) rfl (by kernel_rfl) (by kernel_rfl) (fun _ _ _ h => h) rfl (by rintro wx ⟨hx1, hx2⟩; go_simp <;> rfl) HS.out ?_
              refine wpK_held (k := 12) (v := ?_) rfl (by kernel_rfl) (by kernel_rfl) (fun _ _ _ h => h) rfl (by rintro wx ⟨hx1, hx2⟩; go_simp <;> rfl) HS.out ?_
              refine wpK_held (k := 13) (v := ?_) rfl (by kernel_rfl) (by kernel_rfl) (fun _ _ _ h => h) rfl (by rintro wx ⟨hx1, hx2⟩; go_simp <;> rfl) HS.out ?_
              refine wpK_held (k := 14) (v := ?_) rfl (by kernel_rfl) (by kernel_rfl) (fun _ _ _ h => h) rfl (by rintro wx ⟨hx1, hx2⟩; go_simp <;> rfl) HS.out ?_
              refine wpK_held (k := 15) (v := ?_) rfl (by kernel_rfl) (by kernel_rfl) (fun _ _ _ h => h) rfl (by rintro wx ⟨hx1, hx2⟩; go_simp <;> rfl) HS.out ?_
              refine wpK_held (k := 16) (v := ?_) rfl (by kernel_rfl) (by kernel_rfl) (fun _ _ _ h => h) rfl (by rintro wx ⟨hx1, hx2⟩; go_simp <;> rfl) HS.out ?_
              refine wpK_held (k := 17) (v := ?_) rfl (by kernel_rfl) (by kernel_rfl) (fun _ _ _ h => h) rfl (by rintro wx ⟨hx1, hx2⟩; go_simp <;> rfl) HS.out ?_
              refine wpK_one (k := 18) rfl (by kernel_rfl) ?_
              go_wp2_with fail
              refine ⟨fun _ => HS2.out, ?_⟩
              refine wpK_rest 19 (by kernel_rfl) 4 19 (by decide) (by decide) _ _ ?_
              simp only [List.drop_succ_cons, List.drop_zero]
              go_wp2_with (at_builtin; refine wpList_append_own2 _ rfl (.tmp 107) (.tmp 121) 22 rfl 0 5 i0 (.int .u8 0) 1 1 Tryd.underlying22 hi0 hz0 hz1 hz2 rfl (by decide) (.slice (some ⟨gb, 0, none⟩) os.length cv5) os.length (os.map (Value.int .u8)) rfl HO.out ⟨wr.drew.heap.size, 0, none⟩ 1 1 [.int .u8 b] rfl rfl HNW.out (by simp [Value.oneCell']) (by unfold maxLen; omega) (by omega) (by omega) ?_)
              intro v' w6 h6 hg hb
              obtain ⟨g6, c6, rfl⟩ := owns_form h6
              obtain ⟨a1, a2, a3, a4, a5⟩ := HF.out _ w6 h6 hg (fun k hk => (hb k hk).imp id (fun h => by rw [World.size_alloc]; exact h))
              have HA : Hid _ := And.intro a3 (And.intro a4 a5)
              clear HF HO HNW HS HS2 h6 hg hb a3 a4 a5
              go_wp2
              exact ⟨⟨i + 1, os ++ [b], by omega, by go_num, HCP.out, by rw [List.length_append, HOL.out]; rfl, HA.out.1, HA.out.2.1, HA.out.2.2⟩, by simp [intOf]; omega⟩
            · obtain rfl : i = N := by omega
              rw [Nat.sub_self] at hcp
              have HF : Hid (OpPost (fun x => T x ∨ x = B) S Q bs g c most w1 R (.returned (.int .i64 0)) wr) := OpPost.done (HY.out.trans (by rw [← hcp]; rfl)) hsr hkr
              clear hsr hkr hk5r HY hcp hs5 hk5 hE5
              go_wp2
              go_ret
              exact HF.out
end Go.Proofs.YtiheajlgaehfmaaDoor
