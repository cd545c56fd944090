import Derived.Test.YtiheajlgaehfmaaDoorPpl
import Derived.Test.YtiheajlgaehfmaaDoorPtb
import Derived.Test.YtiheajlgaehfmaaDoorIsl
import Derived.WalkMore
/- The program's stream: a block's symbols. -/
namespace Go.Proofs.YtiheajlgaehfmaaDoor
open Go.RowKit

theorem rn_more (zs : List Int) (bit : Nat → Nat) (avail : Nat) : ∀ f k code, (rn zs bit avail f k code).2.1 = 0 → k + 1 ≤ (rn zs bit avail f k code).2.2 := by
  intro f
  induction f with
  | zero => intro k code h; simp [rn] at h
  | succ f ih =>
    intro k code
    rw [rn]
    split
    · split
      · split
        · exact fun _ => Nat.le_refl _
        · exact fun h => Nat.le_of_succ_le (ih _ _ h)
      · exact fun h => by simp at h
    · exact fun h => by simp at h
theorem nextS_more {zs bs : List Int} {pos x pos' : Nat} (h : errOf zs = 0) (hn : nextS zs bs pos = .ok (x, pos')) : pos + 1 ≤ pos' := by
  have e : nextOf zs bs pos = rn zs (bitFrom bs pos) (8 * bs.length - pos) 15 0 0 := (Good.of_err h).same _ (bitFrom_lt bs pos) _
  unfold nextS at hn
  split at hn
  · rename_i h0
    have := rn_more zs (bitFrom bs pos) (8 * bs.length - pos) 15 0 0 (by rw [← e]; exact h0)
    rw [← e] at this
    simp only [Except.ok.injEq, Prod.mk.injEq] at hn
    omega
  · cases hn

theorem symsS_err {lz dz bs : List Int} {most f pos : Nat} {out : List Int} {e : Int} (h : symStep lz dz bs most pos out = .error e) : symsS lz dz bs most (f + 1) pos out = .error e := by rw [symsS, h]
theorem symsS_end {lz dz bs : List Int} {most f pos p : Nat} {out o : List Int} (h : symStep lz dz bs most pos out = .ok (none, p, o)) : symsS lz dz bs most (f + 1) pos out = .ok (p, o) := by rw [symsS, h]
theorem symsS_more {lz dz bs : List Int} {most f pos p : Nat} {out o : List Int} {u : Unit} (h : symStep lz dz bs most pos out = .ok (some u, p, o)) : symsS lz dz bs most (f + 1) pos out = symsS lz dz bs most f p o := by rw [symsS, h]
theorem symStep_next {lz dz bs : List Int} {most pos : Nat} {out : List Int} {e : Int} (h : nextS lz bs pos = .error e) : symStep lz dz bs most pos out = .error e := by
  unfold symStep
  simp only [h, bind, Except.bind]
theorem symStep_end {lz dz bs : List Int} {most pos p : Nat} {out : List Int} (h : nextS lz bs pos = .ok (256, p)) : symStep lz dz bs most pos out = .ok (none, p, out) := by
  unfold symStep
  simp only [h, bind, Except.bind, if_true]
theorem symStep_byte {lz dz bs : List Int} {most pos p x : Nat} {out : List Int} (h : nextS lz bs pos = .ok (x, p)) (hx : x < 256) : symStep lz dz bs most pos out = if out.length < most then .ok (some (), p, out ++ [(x : Int)]) else .error 3 := by
  unfold symStep
  simp only [h, bind, Except.bind, show ¬ x = 256 by omega, hx, if_true, if_false]
theorem symStep_copy {lz dz bs : List Int} {most pos p x : Nat} {out : List Int} (h : nextS lz bs pos = .ok (x, p)) (hx : 256 < x) : symStep lz dz bs most pos out = match copiedS dz bs most x p out with | .error e => .error e | .ok (p', o') => .ok (some (), p', o') := by
  unfold symStep
  simp only [h, bind, Except.bind, show ¬ x = 256 by omega, show ¬ x < 256 by omega, if_false]
  cases copiedS dz bs most x p out <;> rfl
theorem litS_bd {sym : Nat} {base extra : Nat} (hl : litS (sym : Int) = some (base, extra)) : base ≤ 258 ∧ extra ≤ 5 := by
  unfold litS at hl
  split at hl
  · cases hl
  · rename_i h9
    split at hl
    · simp only [Option.some.injEq, Prod.mk.injEq] at hl
      omega
    · rename_i h8
      simp only [Option.some.injEq, Prod.mk.injEq] at hl
      have h1 : (sym : Int).toNat - 257 ≤ 27 := by omega
      have h2 : ∀ k, k ≤ 27 → litBase k ≤ 258 := by decide
      have := h2 _ h1
      have := litBits_le (sym : Int).toNat (by omega)
      omega
theorem distBaseP_pos : ∀ k, 1 ≤ distBase k := by
  intro k
  induction k with
  | zero => exact Nat.le_refl _
  | succ k ih => rw [distBase]; exact Nat.le_trans ih (Nat.le_add_right _ _)
theorem distS_bd {d : Nat} {db de : Nat} (hd4 : distS (d : Int) = some (db, de)) : 1 ≤ db ∧ db ≤ 300000 ∧ de ≤ 13 := by
  unfold distS at hd4
  split at hd4
  · cases hd4
  · simp only [Option.some.injEq, Prod.mk.injEq] at hd4
    have := distBase_le (d : Int).toNat (by omega)
    have := distBits_le (d : Int).toNat (by omega)
    have := distBaseP_pos (d : Int).toNat
    omega
theorem takeS_more {bs : List Int} {pos n x p : Nat} (h : takeS bs pos n = .ok (x, p)) : p = pos + n := by
  unfold takeS at h
  split at h
  · simp only [Except.ok.injEq, Prod.mk.injEq] at h
    omega
  · cases h
theorem BlPost.err {T : Nat → Prop} {S Q : Nat} {bs : List Int} {g : Option Addr} {c most : Nat} {l d : Value} {w w' : World} {R : Except Int (Nat × List Int)} (er : Int) (h : R = .error er) (hne : er ≠ 0) (hk : Kept T w w') : BlPost T S Q bs g c most l d w R (gaveUp er) w' := .inr ⟨er, h, hne, rfl, hk⟩
theorem BlPost.done {T : Nat → Prop} {S Q : Nat} {bs : List Int} {g : Option Addr} {c most pos : Nat} {l d : Value} {out : List Int} {w w' : World} {R : Except Int (Nat × List Int)} (h : R = .ok (pos, out)) (hs : PAt T S Q bs g c most l d pos out w') (hk : Kept T w w') : BlPost T S Q bs g c most l d w R (.returned (.tuple #[])) w' := .inl ⟨pos, out, h, rfl, hs, hk⟩
/-- Where the reader stands. -/
def posAt (Q : Nat) (w : World) : Nat := (intOf ((w.cell? ⟨Q, 1, none⟩).getD undef)).toNat
theorem PAt.posAt {T : Nat → Prop} {S Q : Nat} {bs : List Int} {g : Option Addr} {c most pos : Nat} {l d : Value} {out : List Int} {w : World} (h : PAt T S Q bs g c most l d pos out w) : posAt Q w = pos := by
  obtain ⟨v, hR, h2, ho, hnn, hp, hom⟩ := h
  unfold YtiheajlgaehfmaaDoor.posAt
  rw [h2.cell1]
  simp [intOf]
theorem PAt.bd {T : Nat → Prop} {S Q : Nat} {bs : List Int} {g : Option Addr} {c most pos : Nat} {l d : Value} {out : List Int} {w : World} (h : PAt T S Q bs g c most l d pos out w) : pos ≤ 8 * bs.length ∧ out.length ≤ most := by
  obtain ⟨v, hR, h2, ho, hnn, hp, hom⟩ := h
  exact ⟨hp, hom⟩

set_option maxRecDepth 100000 in
set_option maxHeartbeats 4000000 in
theorem coded_r {T : Nat → Prop} {S Q : Nat} {bs : List Int} {g : Option Addr} {c most pos : Nat} {l d : Value} {out : List Int} (lz dz : List Int) (LD DD : Nat) (R : Except Int (Nat × List Int)) (f : Nat) (HR : Hid (symsS lz dz bs most f pos out = R)) (hf : 8 * bs.length + 1 ≤ f + pos) (w : World) (hE : PEnv T S Q bs g c most w) (hs : PAt T S Q bs g c most l d pos out w) (hl : DecIn T w LD lz) (hd : DecIn T w DD dz) :
    Calls Tryd.prog 34 #[.pointer (some ⟨S, 0, none⟩), .pointer (some ⟨LD, 0, none⟩), .pointer (some ⟨DD, 0, none⟩)] w (BlPost T S Q bs g c most l d w R) := by
  go_enter Tryd.func34, Tryd.ntmps34
  go_wp2_with fail
  go_step3
  go_wp2_with fail
  go_step3
  go_wp2_with fail
  go_loopw [6] (fun v6 wr => ∃ (f pos : Nat) (out : List Int), Hid (symsS lz dz bs most f pos out = R) ∧ 8 * bs.length + 1 ≤ f + pos ∧ PAt T S Q bs g c most l d pos out wr ∧ Kept T w wr) (fun _ wr => 8 * bs.length - posAt Q wr)
  case atStart => exact ⟨f, pos, out, HR, hf, hs, Kept.refl _ _⟩
  case round =>
    clear HR hf hs pos out f
    obtain ⟨f, pos, out, HR, hf, hs, hk⟩ := hrel
    have hEr := hE.kept hk
    have hlr := hl.kept hk
    have hdr := hd.kept hk
    have hbd := hs.bd
    have hpa := hs.posAt
    have hbig := hEr.big
    obtain ⟨f, rfl⟩ : ∃ f', f = f' + 1 := ⟨f - 1, by omega⟩
    have HP : Hid (posAt Q wr = pos) := hpa
    have HN : Hid _ := symbol_s lz LD wr hEr hs hlr
    clear hpa
    go_wp2_with fail
    refine Calls.mono HN.out ?_
    clear HN hs
    rintro e w1 (⟨x, p1, h1, hx, rfl, hs1, hk1⟩ | ⟨er, h1, hne, rfl, hk1⟩)
    rotate_left
    · have HF : Hid (BlPost T S Q bs g c most l d w R (gaveUp er) w1) := BlPost.err er (HR.out.symm.trans (symsS_err (symStep_next h1))) hne (hk.trans hk1)
      clear HR hE hEr hl hlr hd hdr hk hk1 h1
      go_wp2
      exact ⟨rfl, HF.out⟩
    have hm1 := nextS_more hl.ok h1
    have hE1 := hEr.kept hk1
    have hd1 := hdr.kept hk1
    have hk01 := hk.trans hk1
    have hbd1 := hs1.bd
    clear hEr hlr hdr hk hk1
    by_cases hxb : x < 256
    · -- a byte
      have hxz : (x : Int) < 256 := by omega
      have hcv : IntKind.u8.wrap (x : Int) = (x : Int) := by simp [IntKind.wrap, IntKind.bits, IntKind.signed]; omega
      have HRm : Hid _ := room_s 1 (by omega) w1 hE1 hs1
      have HX : Hid _ := symStep_byte (dz := dz) (most := most) (out := out) h1 hxb
      clear h1
      go_wp2_with fail
      refine Calls.mono HRm.out ?_
      clear HRm
      rintro e w2 ⟨⟨q, rfl⟩, (⟨h3, rfl⟩ | ⟨h3, rfl⟩)⟩
      rotate_left
      · have HF : Hid (BlPost T S Q bs g c most l d w R (gaveUp 3) (w1.drewN q)) := BlPost.err 3 (HR.out.symm.trans (symsS_err (HX.out.trans (if_neg (by omega))))) (by omega) (hk01.drewN q)
        clear HR hE hE1 hl hd hd1 hk01 HX hs1
        go_wp2
        exact ⟨rfl, HF.out⟩
      · obtain ⟨v, hR, h2, ho, hnn, hp, hom⟩ := hs1
        obtain ⟨gv, cv, rfl⟩ := owns_form ho
        obtain ⟨i0, hi0, hz0, hz1, hz2⟩ := info_parts Tryd.info5
        have c1 : (w1.drewN q).cell? ⟨S, 1, none⟩ = some (.slice gv out.length cv) := hR.cell (i := 1) rfl
        have HO : Hid ((w1.drewN q).ownsRow 0 5 1 (.slice gv out.length cv) out.length (out.map (Value.int .u8))) := ho
        have HY : Hid (symsS lz dz bs most f p1 (out ++ [(x : Int)]) = R) := by
          show _ = _
          rw [← HR.out]
          exact (symsS_more (HX.out.trans (if_pos (by omega)))).symm
        have HF : Hid (∀ (o : Obj) (v' : Value) (w6 : World), w6.ownsRow 0 5 1 v' (out.length + 1) (out.map (Value.int .u8) ++ [.int .u8 (x : Int)]) → ((w1.drewN q).alloc o).grownBy w6 (Value.slice gv out.length cv).ownBlock → (∀ k, v'.ownBlock = some k → (Value.slice gv out.length cv).ownBlock = some k ∨ w1.heap.size + 1 ≤ k) →
            w6.cell? ⟨S, 1, none⟩ = some (.slice gv out.length cv) ∧ w6.frozen? ⟨S, 1, none⟩ = false ∧ PAt T S Q bs g c most l d p1 (out ++ [(x : Int)]) (w6.setCell ⟨S, 1, none⟩ v') ∧ Kept T w (w6.setCell ⟨S, 1, none⟩ v')) := by
          intro o v' w6 h6 hg hb
          have hE2 := (hE1.kept ((Kept.refl T w1).drewN q)).kept ((Kept.refl T (w1.drewN q)).alloc hE1.lt o)
          exact p_push (news := [(x : Int)]) (w0 := w) (w := (w1.drewN q).alloc o) hE2.lt hE.nS (hR.alloc _) (h2.alloc _) ((show (w1.drewN q).ownsRow 0 5 1 _ _ _ from ho).alloc _) hnn hp (by simp; omega) ((hk01.drewN q).alloc hE1.lt _) (by simpa using h6) hg (fun k hk => (hb k hk).imp id (fun h => by rw [World.size_alloc]; exact h))
        clear HR HX hE1 hd1 hR h2 ho hnn hp hk01 hl hd hE
        go_wp2_with (at_builtin; refine wpList_append_own2 _ rfl (.tmp 39) (.tmp 42) 22 rfl 0 5 i0 (.int .u8 0) 1 1 Tryd.underlying22 hi0 hz0 hz1 hz2 rfl (by decide) _ _ _ rfl ((show (w1.drewN _).ownsRow 0 5 1 _ _ _ from HO.out).alloc _) ⟨w1.heap.size, 0, none⟩ 1 1 [.int .u8 (x : Int)] rfl rfl (cell_one_new _ _ _) (by simp [Value.oneCell']) (by unfold maxLen; omega) (by omega) (by omega) ?_)
        intro v' w6 h6 hg hb
        obtain ⟨g6, c6, rfl⟩ := owns_form h6
        obtain ⟨a1, a2, a3, a4⟩ := HF.out _ _ w6 h6 hg hb
        have HA : Hid _ := And.intro a3 a4
        have HPA : Hid (posAt Q (w6.setCell ⟨S, 1, none⟩ (.slice g6 (out.length + 1) c6)) = p1) := a3.posAt
        clear HF HO h6 hg hb a3 a4
        go_wp2
        exact ⟨⟨f, p1, _, HY.out, by omega, HA.out.1, HA.out.2⟩, by rw [HPA.out, HP.out]; omega⟩
    · by_cases hx6 : x = 256
      · subst hx6
        have HF : Hid (BlPost T S Q bs g c most l d w R (.returned (.tuple #[])) w1) := BlPost.done (HR.out.symm.trans (symsS_end (symStep_end h1))) hs1 hk01
        clear HR hE hE1 hl hd hd1 hk01 hs1 h1
        go_wp2
        exact ⟨rfl, _, results_none rfl _ _ _, HF.out⟩
      · have hx6z : (((x : Int)) == 256) = false := by simp; omega
        have hxbz : ¬ (x : Int) < 256 := by omega
        have HX : Hid _ := symStep_copy (dz := dz) (most := most) (out := out) h1 (by omega)
        have HL : Hid _ := plit_r (tabRes (litS (x : Int))) (x : Int) rfl w1
        clear h1 hl
        go_wp2_with fail
        refine Calls.mono HL.out ?_
        rintro e w2 ⟨rfl, rfl⟩
        clear HL
        cases hlt : litS (x : Int) with
        | none =>
          have HF : Hid (BlPost T S Q bs g c most l d w R (gaveUp 12) w2) := BlPost.err 12 (HR.out.symm.trans (symsS_err (HX.out.trans (by rw [copiedS_none hlt])))) (by omega) hk01
          simp only [tabRes]
          clear HR hE hE1 hd hd1 hk01 hs1 HX hlt
          go_wp2_with fail
          refine (told_no _ _ _ _).mono ?_
          rintro e w3 ⟨rfl, rfl⟩
          go_wp2
          exact ⟨rfl, HF.out⟩
        | some be =>
          obtain ⟨b1, x1⟩ := be
          have hb1 := litS_bd hlt
          simp only [tabRes]
          have HT : Hid _ := told_s b1 x1 (by omega) (by omega) w2 hE1 hs1
          go_wp2_with fail
          refine Calls.mono HT.out ?_
          clear HT hs1
          rintro e w3 (⟨y1, p2, h2, hy1, rfl, hs3, hk3⟩ | ⟨h2, rfl, hk3⟩)
          rotate_left
          · have HF : Hid (BlPost T S Q bs g c most l d w R (gaveUp 10) w3) := BlPost.err 10 (HR.out.symm.trans (symsS_err (HX.out.trans (by rw [copiedS_take hlt h2])))) (by omega) (hk01.trans hk3)
            clear HR hE hE1 hd hd1 hk01 HX hlt h2 hk3
            go_wp2
            exact ⟨rfl, HF.out⟩
          have hE3 := hE1.kept hk3
          have hd3 := hd1.kept hk3
          have hk03 := hk01.trans hk3
          have HN : Hid _ := symbol_s dz DD w3 hE3 hs3 hd3
          clear hE1 hd1 hk01 hk3
          go_wp2_with fail
          refine Calls.mono HN.out ?_
          clear HN hs3
          rintro e w4 (⟨z, p3, h3, hz, rfl, hs4, hk4⟩ | ⟨er, h3, hne, rfl, hk4⟩)
          rotate_left
          · have HF : Hid (BlPost T S Q bs g c most l d w R (gaveUp er) w4) := BlPost.err er (HR.out.symm.trans (symsS_err (HX.out.trans (by rw [copiedS_next hlt h2 h3])))) hne (hk03.trans hk4)
            clear HR hE hE3 hd hd3 hk03 HX hlt h2 h3 hk4
            go_wp2
            exact ⟨rfl, HF.out⟩
          have hE4 := hE3.kept hk4
          have hk04 := hk03.trans hk4
          have hm3 := nextS_more hd.ok h3
          have HD : Hid _ := pdist_r (tabRes (distS (z : Int))) (z : Int) rfl w4
          clear hE3 hd3 hk03 hk4
          go_wp2_with fail
          refine Calls.mono HD.out ?_
          rintro e w5 ⟨rfl, rfl⟩
          clear HD
          cases hdt : distS (z : Int) with
          | none =>
            have HF : Hid (BlPost T S Q bs g c most l d w R (gaveUp 12) w5) := BlPost.err 12 (HR.out.symm.trans (symsS_err (HX.out.trans (by rw [copiedS_dist hlt h2 h3 hdt])))) (by omega) hk04
            simp only [tabRes]
            clear HR hE hE4 hd hk04 hs4 HX hlt h2 h3 hdt
            go_wp2_with fail
            refine (told_no _ _ _ _).mono ?_
            rintro e w6 ⟨rfl, rfl⟩
            go_wp2
            exact ⟨rfl, HF.out⟩
          | some be2 =>
            obtain ⟨b2, x2⟩ := be2
            have hb2 := distS_bd hdt
            simp only [tabRes]
            have HT : Hid _ := told_s b2 x2 (by omega) (by omega) w5 hE4 hs4
            go_wp2_with fail
            refine Calls.mono HT.out ?_
            clear HT hs4
            rintro e w6 (⟨y2, p4, h5, hy2, rfl, hs6, hk6⟩ | ⟨h5, rfl, hk6⟩)
            rotate_left
            · have HF : Hid (BlPost T S Q bs g c most l d w R (gaveUp 10) w6) := BlPost.err 10 (HR.out.symm.trans (symsS_err (HX.out.trans (by rw [copiedS_take2 hlt h2 h3 hdt h5])))) (by omega) (hk04.trans hk6)
              clear HR hE hE4 hd hk04 HX hlt h2 h3 hdt h5 hk6
              go_wp2
              exact ⟨rfl, HF.out⟩
            have hE6 := hE4.kept hk6
            have hk06 := hk04.trans hk6
            have hm2 := takeS_more h2
            have hm5 := takeS_more h5
            have HC : Hid _ := copiedS_all (most := most) (out := out) hlt h2 h3 hdt h5
            have HA : Hid _ := again_s (b1 + y1) (b2 + y2) (by omega) (by omega) (by omega) w6 hE6 hs6
            clear hE4 hk04 hk6 hlt h2 h3 hdt h5 hs6
            go_wp2_with fail
            refine Calls.mono HA.out ?_
            clear HA
            rintro e w7 (⟨g1, g2, rfl, hs7, hk7⟩ | ⟨g1, rfl, hk7⟩ | ⟨g1, g2, rfl, hk7⟩)
            · have HY : Hid (symsS lz dz bs most f p4 (copyS (b2 + y2) (b1 + y1) out) = R) := by
                show _ = _
                rw [← HR.out]
                exact (symsS_more (u := ()) (HX.out.trans (by rw [HC.out, if_neg g1, if_neg g2]))).symm
              have HA : Hid _ := And.intro hs7 (hk06.trans hk7)
              have HPA : Hid (posAt Q w7 = p4) := hs7.posAt
              have hbd7 := hs7.bd
              clear HR HX HC hE hE6 hd hk06 hk7 hs7
              go_wp2
              exact ⟨⟨f, p4, _, HY.out, by omega, HA.out.1, HA.out.2⟩, by rw [HPA.out, HP.out]; omega⟩
            · have HF : Hid (BlPost T S Q bs g c most l d w R (gaveUp 12) w7) := BlPost.err 12 (HR.out.symm.trans (symsS_err (HX.out.trans (by rw [HC.out, if_pos g1])))) (by omega) (hk06.trans hk7)
              clear HR HX HC hE hE6 hd hk06 hk7
              go_wp2
              exact ⟨rfl, HF.out⟩
            · have HF : Hid (BlPost T S Q bs g c most l d w R (gaveUp 3) w7) := BlPost.err 3 (HR.out.symm.trans (symsS_err (HX.out.trans (by rw [HC.out, if_neg g1, if_pos g2])))) (by omega) (hk06.trans hk7)
              clear HR HX HC hE hE6 hd hk06 hk7
              go_wp2
              exact ⟨rfl, HF.out⟩
end Go.Proofs.YtiheajlgaehfmaaDoor
