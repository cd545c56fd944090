import Derived.Test.YtiheajlgaehfmaaDoorIcd
import Derived.Test.YtiheajlgaehfmaaDoorPlc
import Derived.Test.YtiheajlgaehfmaaDoorPdh
import Derived.Test.YtiheajlgaehfmaaDoorPrd
import Derived.Test.YtiheajlgaehfmaaDoorPfx
import Derived.Deep.OwnRows
/- The document's stream: a dynamic block. -/
namespace Go.Proofs.YtiheajlgaehfmaaDoor
open Go.RowKit

def orderV : List Int := [16, 17, 18, 0, 8, 7, 9, 6, 10, 5, 11, 4, 12, 3, 13, 2, 14, 1, 15]
set_option maxRecDepth 100000 in
set_option maxHeartbeats 1000000 in
theorem order_in (w : World) : Calls Tryd.prog 63 #[] w fun e w' => e = .returned (.slice (some ⟨w.heap.size, 0, none⟩) 19 19) ∧ w' = w.alloc (.cells (orderV.map (Value.int .i64)).toArray 3) := by
  go_enter Tryd.func63, Tryd.ntmps63
  go_wp2
  go_ret
  exact ⟨rfl, rfl⟩

def dynD (bs : List Int) (most : Nat) (out : List Int) (x : Except Int (List Int × List Int × Nat)) : Except Int (Nat × List Int) := match x with
  | .error e => .error e
  | .ok (lz, dz, p) => symsS lz dz bs most (8 * bs.length + 1) p out
theorem dynH_1 {bs : List Int} {pos : Nat} {e : Int} (h : takeS bs pos 5 = .error e) : dynH bs pos = .error e := by unfold dynH; rw [h]
theorem dynH_2 {bs : List Int} {pos a p1 : Nat} {e : Int} (h : takeS bs pos 5 = .ok (a, p1)) (h2 : takeS bs p1 5 = .error e) : dynH bs pos = .error e := by unfold dynH; simp only [h, h2]
theorem dynH_3 {bs : List Int} {pos a p1 b p2 : Nat} {e : Int} (h : takeS bs pos 5 = .ok (a, p1)) (h2 : takeS bs p1 5 = .ok (b, p2)) (h3 : takeS bs p2 4 = .error e) : dynH bs pos = .error e := by unfold dynH; simp only [h, h2, h3]
theorem dynH_4 {bs : List Int} {pos a p1 b p2 c p3 : Nat} (h : takeS bs pos 5 = .ok (a, p1)) (h2 : takeS bs p1 5 = .ok (b, p2)) (h3 : takeS bs p2 4 = .ok (c, p3)) : dynH bs pos = if 286 < 257 + a ∨ 30 < 1 + b then .error 12 else dynT bs a b c p3 := by unfold dynH; simp only [h, h2, h3]

theorem made19 : madeCells #[.int .i64 0] 19 = ((List.replicate 19 (0 : Int)).map (Value.int .i64)).toArray := by rw [made_repC 19 0]; rfl
section
variable {T : Nat → Prop} {S Q : Nat} {bs : List Int} {g : Option Addr} {c most pos : Nat} {out : List Int} {w w' : World} {L : Nat} {cs : Array Value}
theorem apart3 (hs : StrAt T S Q bs g c most pos out w) (hL : Row w L 3 cs) : S ≠ L ∧ Q ≠ L ∧ ∀ u : Value, Row w S 50 #[.pointer (some ⟨Q, 0, none⟩), u, .int .i64 (most : Int)] → u.ownBlock ≠ some L := by
  obtain ⟨v, hR, h2, ho, hnn, hp⟩ := hs
  refine ⟨fun e => ?_, fun e => ?_, fun u hu => ?_⟩
  · subst e
    have := (show w.heap[S]? = _ from hR).symm.trans hL
    simp at this
  · subst e
    have := (show w.heap[Q]? = _ from h2).symm.trans hL
    simp at this
  · have := (show w.heap[S]? = _ from hR).symm.trans hu
    simp at this
    rw [← this]
    exact row_ne ho hL (by decide)
/-- A row of ints is kept too. -/
theorem with_blk (hE : Env T S Q bs g c most w) (hs : StrAt T S Q bs g c most pos out w) (hL : Row w L 3 cs) : Env (fun k => T k ∨ k = L) S Q bs g c most w ∧ StrAt (fun k => T k ∨ k = L) S Q bs g c most pos out w := by
  obtain ⟨a1, a2, a3⟩ := apart3 hs hL
  obtain ⟨v, hR, h2, ho, hnn, hp⟩ := hs
  refine ⟨⟨fun k h => ?_, ?_, ?_, hE.bytes.mono (fun k h => .inl h), hE.are, hE.len, hE.cap, hE.nil, hE.big⟩, v, hR, h2, ho, fun k hk h => ?_, hp⟩
  · rcases h with h | rfl
    · exact hE.lt k h
    · exact hL.lt
  · rintro (h | h)
    · exact hE.nS h
    · exact a1 h
  · rintro (h | h)
    · exact hE.nQ h
    · exact a2 h
  · rcases h with h | rfl
    · exact hnn k hk h
    · exact a3 v hR hk
theorem str_setL (hs : StrAt T S Q bs g c most pos out w) (hL : Row w L 3 cs) (p : Nat) (x : Value) : StrAt T S Q bs g c most pos out (w.setCell ⟨L, p, none⟩ x) := by
  obtain ⟨a1, a2, a3⟩ := apart3 hs hL
  obtain ⟨v, hR, h2, ho, hnn, hp⟩ := hs
  have hk : Kept (fun k => k ≠ L) w (w.setCell ⟨L, p, none⟩ x) := (Kept.refl _ w).setCell (p := ⟨L, p, none⟩) (fun h => h rfl) x
  exact ⟨v, hR.kept hk a1, h2.kept hk a2, owns_kept ho hk (fun k e e' => a3 v hR (e' ▸ e)), hnn, hp⟩
end
theorem rowL_set {W : World} {B : Nat} {xs : List Int} (h : Row W B 3 (xs.map (Value.int .i64)).toArray) (i : Nat) (v : Int) : Row (W.setCell ⟨B, i, none⟩ (.int .i64 v)) B 3 ((xs.set i v).map (Value.int .i64)).toArray := by
  have := h.set i (.int .i64 v)
  rw [List.setIfInBounds_toArray, ← List.map_set] at this
  exact this
theorem rowL_cell {W : World} {B : Nat} {xs : List Int} (h : Row W B 3 (xs.map (Value.int .i64)).toArray) (i : Nat) (hi : i < xs.length) : W.cell? ⟨B, i, none⟩ = some (.int .i64 (xs[i]?.getD 0)) :=
  h.cell (by simp [List.getElem?_map, List.getElem?_eq_getElem hi])
theorem order_eq : ∀ i, i < 19 → orderV[i]?.getD 0 = ((orderL[i]?.getD 0 : Nat) : Int) := by decide
theorem dynD_cl {bs : List Int} {most : Nat} {out : List Int} {a b c pos : Nat} {e : Int} (h : clS bs (4 + c) 0 pos (List.replicate 19 0) = .error e) : dynD bs most out (dynT bs a b c pos) = .error e := by
  unfold dynT; rw [h]; rfl
def rowR (a : Nat) (x : Except Int (Nat × List Int)) : Except Int (List Int × List Int × Nat) := match x with
  | .error e => .error e
  | .ok (pos, row) => splitS a pos row
theorem dynT_go {bs : List Int} {a b c pos p : Nat} {cl : List Int} (h : clS bs (4 + c) 0 pos (List.replicate 19 0) = .ok (p, cl)) : dynT bs a b c pos = if fullB cl = false then .error 11 else rowR a (rowS cl bs (257 + a + (1 + b)) (8 * bs.length + 1) p []) := by
  unfold dynT
  rw [h]
  dsimp only
  cases rowS cl bs (257 + a + (1 + b)) (8 * bs.length + 1) p [] <;> rfl

theorem full_err0 {cl : List Int} (h : ¬ fullB cl = false) : errOf cl = 0 := by
  unfold fullB at h
  by_cases h0 : errOf cl = 0
  · exact h0
  · simp [h0] at h
/-- All that exists is kept, but for the stream's own. -/
theorem all_T {T : Nat → Prop} {S Q : Nat} {bs : List Int} {g : Option Addr} {c most pos : Nat} {out : List Int} {w : World} (hE : Env T S Q bs g c most w) (hs : StrAt T S Q bs g c most pos out w) :
    ∃ TA : Nat → Prop, (∀ k, T k → TA k) ∧ Env TA S Q bs g c most w ∧ StrAt TA S Q bs g c most pos out w ∧ ∀ (b : Nat) (t : TypeId) (cs : Array Value), Row w b t cs → t ≠ 50 → t ≠ 48 → t ≠ 5 → TA b := by
  obtain ⟨v, hR, h2, ho, hnn, hp⟩ := hs
  have hsub : ∀ k, T k → k < w.heap.size ∧ k ≠ S ∧ k ≠ Q ∧ v.ownBlock ≠ some k := fun k h => ⟨hE.lt k h, fun e => hE.nS (e ▸ h), fun e => hE.nQ (e ▸ h), fun e => hnn k e h⟩
  refine ⟨fun k => k < w.heap.size ∧ k ≠ S ∧ k ≠ Q ∧ v.ownBlock ≠ some k, hsub, ⟨fun k h => h.1, fun h => h.2.1 rfl, fun h => h.2.2.1 rfl, hE.bytes.mono hsub, hE.are, hE.len, hE.cap, hE.nil, hE.big⟩, ⟨v, hR, h2, ho, fun k e h => h.2.2.2 e, hp⟩, fun b t cs hb n1 n2 n3 => ⟨hb.lt, fun e => ?_, fun e => ?_, row_ne ho hb n3⟩⟩
  · subst e
    have := (show w.heap[b]? = _ from hR).symm.trans hb
    simp at this
    exact n1 this.2.symm
  · subst e
    have := (show w.heap[b]? = _ from h2).symm.trans hb
    simp at this
    exact n2 this.2.symm

set_option maxRecDepth 100000 in
set_option maxHeartbeats 8000000 in
theorem dynamic_in {T : Nat → Prop} {S Q : Nat} {bs : List Int} {g : Option Addr} {c most pos : Nat} {out : List Int} (R : Except Int (Nat × List Int)) (HR : Hid (dynS bs most pos out = R)) (w : World) (hE : Env T S Q bs g c most w) (hs : StrAt T S Q bs g c most pos out w) :
    Calls Tryd.prog 42 #[.pointer (some ⟨S, 0, none⟩)] w (OpPost T S Q bs g c most w R) := by
  obtain ⟨i0, hi0, hz0, hz1, hz2⟩ := info_parts Tryd.info3
  have HD : Hid (dynD bs most out (dynH bs pos) = R) := by show _ = _; rw [← HR.out, dyn_head]; cases dynH bs pos <;> rfl
  clear HR
  have hbig := hE.big
  obtain ⟨gv, cv, s0, -, -, -⟩ := hs.out_cells
  have HT : Hid _ := take_s 5 (by omega) w hE hs
  go_enter Tryd.func42, Tryd.ntmps42
  go_wp2_with fail
  refine Calls.mono HT.out ?_
  clear HT s0
  rintro e w1 (⟨x1, p1, h1, hx1, rfl, hs1, hk1⟩ | ⟨h1, rfl, hk1⟩)
  rotate_left
  · have HF : Hid (OpPost T S Q bs g c most w R (.returned (.int .i64 10)) w1) := OpPost.err 10 (by rw [← HD.out, dynH_1 h1]; rfl) (by omega) hk1
    clear HD hE hs hk1 h1
    go_wp2
    go_ret
    exact HF.out
  have hE1 := hE.kept hk1
  obtain ⟨gv, cv, s0, -, -, -⟩ := hs1.out_cells
  have HT : Hid _ := take_s 5 (by omega) w1 hE1 hs1
  go_wp2_with fail
  refine Calls.mono HT.out ?_
  clear HT s0
  rintro e w2 (⟨x2, p2, h2, hx2, rfl, hs2, hk2⟩ | ⟨h2, rfl, hk2⟩)
  rotate_left
  · have HF : Hid (OpPost T S Q bs g c most w R (.returned (.int .i64 10)) w2) := OpPost.err 10 (by rw [← HD.out, dynH_2 h1 h2]; rfl) (by omega) (hk1.trans hk2)
    clear HD hE hs hk1 h1 hE1 hs1 hk2 h2
    go_wp2
    go_ret
    exact HF.out
  have hE2 := hE1.kept hk2
  obtain ⟨gv, cv, s0, -, -, -⟩ := hs2.out_cells
  have HT : Hid _ := take_s 4 (by omega) w2 hE2 hs2
  go_wp2_with fail
  refine Calls.mono HT.out ?_
  clear HT s0
  rintro e w3 (⟨x3, p3, h3, hx3, rfl, hs3, hk3⟩ | ⟨h3, rfl, hk3⟩)
  rotate_left
  · have HF : Hid (OpPost T S Q bs g c most w R (.returned (.int .i64 10)) w3) := OpPost.err 10 (by rw [← HD.out, dynH_3 h1 h2 h3]; rfl) (by omega) ((hk1.trans hk2).trans hk3)
    clear HD hE hs hk1 h1 hE1 hs1 hk2 h2 hE2 hs2 hk3 h3
    go_wp2
    go_ret
    exact HF.out
  have hk03 := (hk1.trans hk2).trans hk3
  have hE3 := hE.kept hk03
  have HH : Hid _ := dynH_4 h1 h2 h3
  have hc1 : IntKind.i64.wrap (x1 : Int) = (x1 : Int) := wrap_i64_of (by omega) (by omega)
  have hc2 : IntKind.i64.wrap (x2 : Int) = (x2 : Int) := wrap_i64_of (by omega) (by omega)
  have hc3 : IntKind.i64.wrap (x3 : Int) = (x3 : Int) := wrap_i64_of (by omega) (by omega)
  have hw1 : IntKind.i64.wrap ((257 : Int) + (x1 : Int)) = (257 : Int) + (x1 : Int) := wrap_i64_of (by omega) (by omega)
  have hw2 : IntKind.i64.wrap ((1 : Int) + (x2 : Int)) = (1 : Int) + (x2 : Int) := wrap_i64_of (by omega) (by omega)
  clear hk1 hk2 hk3 hE hE1 hE2 hs hs1 hs2 h1 h2
  by_cases hA : 286 < 257 + x1
  · have HF : Hid (OpPost T S Q bs g c most w R (.returned (.int .i64 12)) w3) := OpPost.err 12 (by rw [← HD.out, HH.out, if_pos (.inl hA)]; rfl) (by omega) hk03
    have t1 : (286 : Int) < (257 : Int) + (x1 : Int) := by omega
    clear HD HH hk03 hE3 hs3 h3
    go_wp2
    go_ret
    exact HF.out
  have t1 : ¬ ((286 : Int) < (257 : Int) + (x1 : Int)) := by omega
  by_cases hB : 30 < 1 + x2
  · have HF : Hid (OpPost T S Q bs g c most w R (.returned (.int .i64 12)) w3) := OpPost.err 12 (by rw [← HD.out, HH.out, if_pos (.inr hB)]; rfl) (by omega) hk03
    have t2 : (30 : Int) < (1 : Int) + (x2 : Int) := by omega
    clear HD HH hk03 hE3 hs3 h3
    go_wp2
    go_ret
    exact HF.out
  have t2 : ¬ ((30 : Int) < (1 : Int) + (x2 : Int)) := by omega
  have HO : Hid _ := order_in w3
  go_wp2_with fail
  refine Calls.mono HO.out ?_
  clear HO
  rintro e w4 ⟨rfl, hw4⟩
  have HX : Hid (dynD bs most out (dynT bs x1 x2 x3 p3) = R) := by show _ = _; rw [← HD.out, HH.out, if_neg (by omega)]
  have hx16 : x3 < 16 := takeS_lt hE3.are (by omega) h3
  clear HD HH h3
  have hz4 : w4.heap.size = w3.heap.size + 1 := by rw [hw4]; simp
  have r4 : Row w4 w3.heap.size 3 (orderV.map (Value.int .i64)).toArray := hw4 ▸ Row.new w3 3 _
  have hk34 : Kept (fun k => k < w3.heap.size) w3 w4 := hw4 ▸ (Kept.refl _ w3).alloc (fun k h => h) _
  clear hw4
  have hmk : (Instr.makeSlice 32 (.int .i64 19) (.int .i64 19)).run Tryd.prog w4 = .ok (.slice (some ⟨w4.heap.size, 0, none⟩) 19 19) (w4.alloc (.cells (madeCells #[.int .i64 0] 19) 3)) := run_make_row' (P := Tryd.prog) 32 3 (.int .i64 0) 8 Tryd.underlying32 Tryd.info3 rfl .i64 .i64 19 (by omega) (by omega) w4
  rw [made19] at hmk
  obtain ⟨w5, HW5⟩ : ∃ w5, Hid (w4.alloc (.cells ((List.replicate 19 (0 : Int)).map (Value.int .i64)).toArray 3) = w5) := ⟨_, rfl⟩
  obtain ⟨OB, HOB⟩ : ∃ OB, Hid (w3.heap.size = OB) := ⟨_, rfl⟩
  obtain ⟨L, HL⟩ : ∃ L, Hid (w4.heap.size = L) := ⟨_, rfl⟩
  rw [HW5.out, HL.out] at hmk
  rw [HOB.out] at r4
  have hk45 : Kept (fun k => k < w4.heap.size) w4 w5 := HW5.out ▸ (Kept.refl _ w4).alloc (fun k h => h) _
  have hLO : L = OB + 1 := by rw [← HL.out, ← HOB.out]; exact hz4
  have hz5 : w5.heap.size = OB + 2 := by rw [← HW5.out, World.size_alloc, hz4, HOB.out]
  have rL : Row w5 L 3 ((List.replicate 19 (0 : Int)).map (Value.int .i64)).toArray := by rw [← HL.out, ← HW5.out]; exact Row.new w4 3 _
  have rO : Row w5 OB 3 (orderV.map (Value.int .i64)).toArray := r4.kept hk45 r4.lt
  have hk35 : Kept (fun k => k < w3.heap.size) w3 w5 := hk34.trans (hk45.mono (fun k (h : k < w3.heap.size) => by show k < _; omega))
  obtain ⟨hSl, hQl⟩ := hs3.lts
  obtain ⟨T1, hT1⟩ : ∃ T1 : Nat → Prop, T1 = fun k => T k ∨ k = OB := ⟨_, rfl⟩
  have hTT : ∀ k, T k → T1 k := fun k h => by rw [hT1]; exact .inl h
  have hTB : ∀ k, T1 k → k < OB + 1 := fun k h => by rw [hT1] at h; rcases h with h | h; have := hE3.lt k h; have := HOB.out; omega; omega
  have hE5 : Env T1 S Q bs g c most w5 := hE3.more (hk35.mono (fun k h => hE3.lt k h)) hTT (fun k h => by have := hTB k h; omega) (fun h => by rw [hT1] at h; rcases h with h | h; exact hE3.nS h; have := HOB.out; omega) (fun h => by rw [hT1] at h; rcases h with h | h; exact hE3.nQ h; have := HOB.out; omega)
  have hs5 : StrAt T1 S Q bs g c most p3 out w5 := (hs3.more (T' := T1) (fun k h hl => by rw [hT1] at h; rcases h with h | h; exact h; have := HOB.out; omega)).low hk35
  have hOT : T1 OB := by rw [hT1]; exact .inr rfl
  have hk05 : Kept T w w5 := hk03.trans (hk35.mono (fun k h => hE3.lt k h))
  have HFIN : Hid (∀ R e w', OpPost T1 S Q bs g c most w5 R e w' → OpPost T S Q bs g c most w R e w') := fun R e w' h => OpPost.mono h hTT hk05
  have HLO : Hid (L = OB + 1) := hLO
  have HZ5 : Hid (w5.heap.size = OB + 2) := hz5
  clear hT1 hk34 hk45 hk35 r4 hE3 hs3 hk03 hk05 hTT hz4 HW5 hSl hQl hLO hz5
  rw [HOB.out]
  clear HOB
  have hw4c : IntKind.i64.wrap ((4 : Int) + (x3 : Int)) = (4 : Int) + (x3 : Int) := wrap_i64_of (by omega) (by omega)
  obtain ⟨RC, HRC⟩ : ∃ RC, Hid (clS bs (4 + x3) 0 p3 (List.replicate 19 0) = RC) := ⟨_, rfl⟩
  go_wp2_with fail
  go_loopw [11] (fun v11 wr => ∃ (i pp : Nat) (ls : List Int), v11 = .int .i64 (i : Int) ∧ i ≤ 4 + x3 ∧ Hid (clS bs (4 + x3 - i) i pp ls = RC) ∧ ls.length = 19 ∧ Row wr L 3 (ls.map (Value.int .i64)).toArray ∧ StrAt T1 S Q bs g c most pp out wr ∧ Kept T1 w5 wr) (fun v11 _ => 4 + x3 - (intOf v11).toNat)
  case atStart => exact ⟨0, p3, _, rfl, by omega, HRC, by simp, rL, hs5, Kept.refl _ _⟩
  case round =>
    obtain ⟨i, pp, ls, rfl, hile, HCL, hll, hRL, hs, hk⟩ := hrel
    have hEr := hE5.kept hk
    have hwi : IntKind.i64.wrap ((i : Int) + 1) = (i : Int) + 1 := wrap_i64_of (by omega) (by omega)
    by_cases hlt : i < 4 + x3
    · have t3 : (i : Int) < (4 : Int) + (x3 : Int) := by omega
      obtain ⟨hE2, hs2⟩ := with_blk hEr hs hRL
      obtain ⟨gv, cv, s0, -, -, -⟩ := hs.out_cells
      have HT : Hid _ := take_s 3 (by omega) wr hE2 hs2
      have hrO := rO.kept hk hOT
      clear hs hs2
      go_wp2_with fail
      refine Calls.mono HT.out ?_
      clear HT s0
      rintro e w6 (⟨x, p6, h6, hx6, rfl, hs6, hk6⟩ | ⟨h6, rfl, hk6⟩)
      rotate_left
      · have HF : Hid (OpPost T S Q bs g c most w R (.returned (.int .i64 10)) w6) := HFIN.out _ _ _ (OpPost.err 10 (by rw [← HX.out]; exact dynD_cl (by rw [HRC.out, ← HCL.out, show 4 + x3 - i = (4 + x3 - (i + 1)) + 1 by omega]; exact clS_err h6)) (by omega) (hk.trans (hk6.mono (fun k h => .inl h))))
        clear HX HRC HCL hE5 hEr hE2 hk hk6 h6 hs5 hrO hRL HFIN
        go_wp2
        go_ret
        exact HF.out
      have hRL6 := hRL.kept hk6 (.inr rfl)
      have hrO6 := hrO.kept hk6 (.inl hOT)
      have hs6' : StrAt T1 S Q bs g c most p6 out w6 := hs6.more (fun k h _ => .inl h)
      have hk06 := hk.trans (hk6.mono (fun k h => .inl h))
      have hol : orderL[i]?.getD 0 < 19 := order_lt i (by omega)
      have HCL2 : Hid (clS bs (4 + x3 - (i + 1)) (i + 1) p6 (ls.set (orderL[i]?.getD 0) (x : Int)) = RC) := by show _ = _; rw [← HCL.out, show 4 + x3 - i = (4 + x3 - (i + 1)) + 1 by omega, clS_more h6]
      have co := rowL_cell hrO6 i (by show i < 19; omega)
      rw [order_eq i (by omega)] at co
      generalize orderL[i]?.getD 0 = od at hol HCL2 co
      have cL := rowL_cell hRL6 od (by omega)
      have fL := hRL6.frozen od
      have hcx : IntKind.i64.wrap (x : Int) = (x : Int) := wrap_i64_of (by omega) (by omega)
      have ti : (i : Int) < 19 := by omega
      have tod : (od : Int) < 19 := by omega
      have HS7 : Hid (StrAt T1 S Q bs g c most p6 out (w6.setCell ⟨L, od, none⟩ (.int .i64 (x : Int)))) := str_setL hs6' hRL6 od _
      have HR7 : Hid (Row (w6.setCell ⟨L, od, none⟩ (.int .i64 (x : Int))) L 3 ((ls.set od (x : Int)).map (Value.int .i64)).toArray) := rowL_set hRL6 od x
      have HK7 : Hid (Kept T1 w5 (w6.setCell ⟨L, od, none⟩ (.int .i64 (x : Int)))) := hk06.setCell (p := ⟨L, od, none⟩) (fun h => by have := hTB L h; have := HLO.out; omega) _
      clear hRL6 hrO6 hs6' hs6 hk6 hk06 hE2 hEr hRL hrO h6 HCL hs5 hE5 HFIN hk
      go_wp2
      exact ⟨⟨i + 1, p6, _, by go_num, by omega, HCL2, by simp [hll], HR7.out, HS7.out, HK7.out⟩, by simp [intOf]; omega⟩
    · obtain rfl : i = 4 + x3 := by omega
      have t3 : ¬ (((4 + x3 : Nat) : Int) < (4 : Int) + (x3 : Int)) := by omega
      have hcl : clS bs (4 + x3) 0 p3 (List.replicate 19 0) = .ok (pp, ls) := by rw [HRC.out, ← HCL.out, Nat.sub_self]; rfl
      have HX2 : Hid _ := (congrArg (dynD bs most out) (dynT_go (a := x1) (b := x2) hcl)).symm.trans HX.out
      clear HX HRC HCL hcl
      have hIL : IntsIn (fun k => k = L) wr (.slice (some ⟨L, 0, none⟩) ls.length 19) ls := .inr ⟨L, 0, 19, rfl, rfl, fun j hj => by rw [Nat.zero_add]; exact rowL_cell hRL j hj⟩
      rw [hll] at hIL
      have HFu : Hid (Calls Tryd.prog 64 #[.slice (some ⟨L, 0, none⟩) 19 19] wr fun e w' => e = .returned (.bool (fullB ls)) ∧ w' = wr) := by have := refFull_any (fun k => k = L) (some ⟨L, 0, none⟩) 19 ls wr (hll ▸ hIL); rw [hll] at this; exact this
      have HCo : Hid _ := coded_in (fun k => k = L) (some ⟨L, 0, none⟩) 19 ls wr (fun k h => h ▸ hRL.lt) (hll ▸ hIL)
      rw [hll] at HCo
      clear hIL
      go_wp2_with fail
      refine Calls.mono HFu.out ?_
      clear HFu
      rintro e w6 ⟨rfl, hw6⟩
      subst hw6
      by_cases hfu : fullB ls = false
      · have HF : Hid (OpPost T S Q bs g c most w R (.returned (.int .i64 11)) w6) := HFIN.out _ _ _ (OpPost.err 11 (by rw [← HX2.out, if_pos hfu]; rfl) (by omega) hk)
        rw [hfu]
        clear HX2 HCo hk hs hEr hRL hE5 hs5 rO rL HFIN
        go_wp2
        go_ret
        exact HF.out
      have he0 := full_err0 hfu
      have hfu1 : fullB ls = true := by simpa using hfu
      rw [hfu1]
      have HX3 : Hid (dynD bs most out (rowR x1 (rowS ls bs (257 + x1 + (1 + x2)) (8 * bs.length + 1) pp [])) = R) := by show _ = _; rw [← HX2.out, if_neg hfu]
      clear HX2 hfu hfu1
      go_wp2_with fail
      refine Calls.mono HCo.out ?_
      clear HCo
      rintro e w7 ⟨hb7, vc, rfl, -, hcodes⟩
      obtain ⟨GC, hg1, hg2, rfl, hRG⟩ := hcodes he0
      rw [he0]
      obtain ⟨w8, HW8⟩ : ∃ w8, Hid (w7.alloc (.cells #[.slice (some ⟨L, 0, none⟩) 19 19, .slice (some ⟨GC, 0, none⟩) ls.length ls.length] 70) = w8) := ⟨_, rfl⟩
      obtain ⟨B14, HB14⟩ : ∃ B14, Hid (w7.heap.size = B14) := ⟨_, rfl⟩
      have hk78 : Kept (fun k => k < w7.heap.size) w7 w8 := HW8.out ▸ (Kept.refl _ w7).alloc (fun k h => h) _
      have b14 : Two w8 B14 70 (.slice (some ⟨L, 0, none⟩) 19 19) (.slice (some ⟨GC, 0, none⟩) ls.length ls.length) := by rw [← HB14.out, ← HW8.out]; exact Two.new w7 70 _ _
      have hk68 : Kept (fun k => k < w6.heap.size) w6 w8 := (Kept.of_below hb7 (fun _ h => h)).trans (hk78.mono (fun k (h : k < w6.heap.size) => by have := hb7.size; show k < _; omega))
      have hs8 : StrAt T1 S Q bs g c most pp out w8 := hs.low hk68
      have hk58 : Kept T1 w5 w8 := hk.trans (hk68.mono (fun k h => hEr.lt k h))
      have hE8 := hE5.kept hk58
      have hRL8 := hRL.kept hk68 hRL.lt
      have hRG8 : Row w8 GC 51 (u32s (codesOf ls)) := hRG.kept hk78 hRG.lt
      obtain ⟨TA, hTA, hEA, hsA, hAll⟩ := all_T hE8 hs8
      have hcA : CodeIn TA w8 (.slice (some ⟨L, 0, none⟩) 19 19) (.slice (some ⟨GC, 0, none⟩) ls.length ls.length) ls :=
        ⟨he0, ⟨some ⟨L, 0, none⟩, 19, by rw [hll], .inr ⟨L, 0, 19, rfl, hAll L 3 _ hRL8 (by decide) (by decide) (by decide), fun j hj => by rw [Nat.zero_add]; exact rowL_cell hRL8 j hj⟩⟩, ⟨GC, rfl, hRG8, hAll GC 51 _ hRG8 (by decide) (by decide) (by decide)⟩⟩
      obtain ⟨RR, HRR⟩ : ∃ RR, Hid (rowS ls bs (257 + x1 + (1 + x2)) (8 * bs.length + 1) pp [] = RR) := ⟨_, rfl⟩
      have HRo : Hid _ := row_in ls _ _ (257 + x1 + (1 + x2)) (by omega) RR (8 * bs.length + 1) HRR (by omega) w8 hEA hsA hcA
      rw [show ((257 + x1 + (1 + x2) : Nat) : Int) = (257 : Int) + (x1 : Int) + ((1 : Int) + (x2 : Int)) by omega] at HRo
      have hwa : IntKind.i64.wrap ((257 : Int) + (x1 : Int) + ((1 : Int) + (x2 : Int))) = (257 : Int) + (x1 : Int) + ((1 : Int) + (x2 : Int)) := wrap_i64_of (by omega) (by omega)
      have d0 := b14.cell0
      have d1 := b14.cell1
      rw [hll] at d1 HRo HW8
      clear hs hk hEr hRL hRL8 hRG hRG8 hk78 hk68 hb7 b14 hsA hcA hs8
      go_wp2_with fail
      rw [HW8.out, HB14.out]
      refine Calls.mono HRo.out ?_
      clear HRo d0 d1 HW8 HB14
      rintro e w9 (⟨p9, row, v9, e9, rfl, ho9, hs9, hk9⟩ | ⟨er, e9, hne, rfl, hk9⟩)
      rotate_left
      · have HF : Hid (OpPost T S Q bs g c most w R (.returned (.int .i64 er)) w9) := HFIN.out _ _ _ (OpPost.err er (by rw [← HX3.out, HRR.out, e9]; rfl) hne (hk58.trans (hk9.mono hTA)))
        have t4 : (er != 0) = true := by simpa using hne
        clear HX3 HRR e9 hE5 hs5 rO rL HFIN hk58 hk9 hE8 hEA
        go_wp2
        go_ret
        exact HF.out
      have hlen : row.length = 257 + x1 + (1 + x2) := rowS_len _ _ _ _ _ (HRR.out.trans e9) (by simp)
      have HX4 : Hid (dynD bs most out (splitS x1 p9 row) = R) := by show _ = _; rw [← HX3.out, HRR.out, e9]; rfl
      have hs9' : StrAt T1 S Q bs g c most p9 out w9 := hs9.more (fun k h _ => hTA k h)
      have hk59 := hk58.trans (hk9.mono hTA)
      have hE9 := hE5.kept hk59
      obtain ⟨gv9, cv9, rfl⟩ := owns_form ho9
      obtain ⟨gb, cap, cur, hve, hbg, hgg, hnc, hcm, hcs, hct⟩ : ∃ gb cap cur, (Value.slice gv9 row.length cv9) = .slice (some ⟨gb, 0, none⟩) row.length cap ∧ w8.heap.size ≤ gb ∧ w9.heap[gb]? = some (.cells cur 3 (0, 0)) ∧ row.length ≤ cap ∧ cap ≤ maxLen ∧ cur.size = cap * 1 ∧ cur.toList.take (row.length * 1) = row.map (Value.int .i64) := by
        rcases ho9.2 with ⟨_, h9⟩ | h9
        · omega
        · exact h9
      simp only [Value.slice.injEq, true_and] at hve
      obtain ⟨rfl, rfl⟩ := hve
      have hcell : ∀ j, j < row.length → w9.cell? ⟨gb, j, none⟩ = some (.int .i64 (row[j]?.getD 0)) := by
        intro j hj
        have := ho9.cells (g := gb) rfl j (.int .i64 (row[j]?.getD 0)) (by simp [hj])
        rwa [Go.WideShapes.add_plain, Nat.zero_add] at this
      have c256 := hcell 256 (by omega)
      have hgl : gb < w9.heap.size := (Array.getElem?_eq_some_iff.1 hgg).1
      have hi1 : IntsIn (fun k => k = gb) w9 (.slice (some ⟨gb, 0, none⟩) (row.take (257 + x1)).length cv9) (row.take (257 + x1)) :=
        .inr ⟨gb, 0, cv9, rfl, rfl, fun j hj => by
          have hj' : j < 257 + x1 ∧ j < row.length := by rw [List.length_take] at hj; omega
          rw [Nat.zero_add, hcell j hj'.2, List.getElem?_take_of_lt hj'.1]⟩
      have hi2 : IntsIn (fun k => k = gb) w9 (.slice (some ⟨gb, 257 + x1, none⟩) (row.drop (257 + x1)).length (cv9 - (257 + x1))) (row.drop (257 + x1)) :=
        .inr ⟨gb, 257 + x1, cv9 - (257 + x1), rfl, rfl, fun j hj => by
          have hj' : 257 + x1 + j < row.length := by simp at hj; omega
          rw [hcell (257 + x1 + j) hj', List.getElem?_drop]⟩
      have hl1 : (row.take (257 + x1)).length = 257 + x1 := by simp; omega
      have hl2 : (row.drop (257 + x1)).length = 1 + x2 := by simp; omega
      clear HX3 HRR e9 hs9 hk9 hk58 hE8 hEA ho9 hcs hct hcell hAll hTA
      have tl : (256 : Int) < (row.length : Int) := by omega
      by_cases h256 : row[256]?.getD 0 = 0
      · have HF : Hid (OpPost T S Q bs g c most w R (.returned (.int .i64 12)) w9) := HFIN.out _ _ _ (OpPost.err 12 (by rw [← HX4.out, splitS, if_pos h256]; rfl) (by omega) hk59)
        rw [h256] at c256
        clear HX4 hE5 hs5 rO rL HFIN hk59 hE9 hi1 hi2 hs9'
        go_wp2
        go_ret
        exact HF.out
      have HX5 : Hid (dynD bs most out (if errOf (row.take (257 + x1)) ≠ 0 then .error (errOf (row.take (257 + x1))) else if errOf (row.drop (257 + x1)) ≠ 0 then .error (errOf (row.drop (257 + x1))) else .ok (row.take (257 + x1), row.drop (257 + x1), p9)) = R) := by show _ = _; rw [← HX4.out, splitS, if_neg h256]
      clear HX4
      have t5 : ((row[256]?.getD 0 : Int) == 0) = false := by simpa using h256
      obtain ⟨r256, hr256⟩ : ∃ r256, row[256]?.getD 0 = r256 := ⟨_, rfl⟩
      rw [hr256] at c256 t5
      obtain ⟨za, hza⟩ : ∃ za, row.take (257 + x1) = za := ⟨_, rfl⟩
      obtain ⟨zb, hzb⟩ : ∃ zb, row.drop (257 + x1) = zb := ⟨_, rfl⟩
      rw [hza] at hi1 hl1 HX5
      rw [hzb] at hi2 hl2 HX5
      clear hza hzb hr256 h256
      have HC1 : Hid _ := coded_in (fun k => k = gb) (some ⟨gb, 0, none⟩) cv9 za w9 (fun k h => h ▸ hgl) hi1
      rw [hl1] at HC1
      have tc : (257 : Int) + (x1 : Int) ≤ (cv9 : Int) := by omega
      have tn : ((257 : Int) + (x1 : Int)).toNat = 257 + x1 := by omega
      go_wp2_with fail
      refine Calls.mono HC1.out ?_
      clear HC1
      rintro e w10 ⟨hb10, vc1, rfl, ⟨gx, cx, rfl⟩, hcodes1⟩
      obtain ⟨er1, her1⟩ : ∃ er1, errOf za = er1 := ⟨_, rfl⟩
      rw [her1] at HX5 hcodes1 ⊢
      obtain ⟨w11, HW11⟩ : ∃ w11, Hid (w10.alloc (.cells #[.slice (some ⟨gb, 0, none⟩) (257 + x1) cv9, .slice gx cx cx] 70) = w11) := ⟨_, rfl⟩
      obtain ⟨B17, HB17⟩ : ∃ B17, Hid (w10.heap.size = B17) := ⟨_, rfl⟩
      have hk1011 : Kept (fun k => k < w10.heap.size) w10 w11 := HW11.out ▸ (Kept.refl _ w10).alloc (fun k h => h) _
      have hk911 : Kept (fun k => k < w9.heap.size) w9 w11 := (Kept.of_below hb10 (fun _ h => h)).trans (hk1011.mono (fun k (h : k < w9.heap.size) => by have := hb10.size; show k < _; omega))
      have b17 : Two w11 B17 70 (.slice (some ⟨gb, 0, none⟩) (257 + x1) cv9) (.slice gx cx cx) := by rw [← HB17.out, ← HW11.out]; exact Two.new w10 70 _ _
      have hk511 := hk59.trans (hk911.mono (fun k h => hE9.lt k h))
      have hs11 := hs9'.low hk911
      have hi2' := hi2.kept (hk911.mono (fun k (h : k = gb) => h ▸ hgl))
      have hi1' := hi1.kept (hk911.mono (fun k (h : k = gb) => h ▸ hgl))
      have hgl11 : gb < w11.heap.size := Nat.lt_of_lt_of_le hgl hk911.size
      have hgg11 : Row w11 gb 3 cur := (show Row w9 gb 3 cur from hgg).kept hk911 hgl
      by_cases he1 : er1 = 0
      rotate_left
      · have HF : Hid (OpPost T S Q bs g c most w R (.returned (.int .i64 er1)) w11) := HFIN.out _ _ _ (OpPost.err er1 (by rw [← HX5.out, if_pos he1]; rfl) he1 hk511)
        have t6 : (er1 != 0) = true := by simpa using he1
        rw [← HW11.out] at HF
        clear HX5 hE5 hs5 rO rL HFIN hk59 hE9 hi1 hi2 hs9' hk1011 hk911 b17 hk511 hs11 hi2' hi1' hgg11 hb10 hcodes1 hgg
        go_wp2
        go_ret
        exact HF.out
      subst he1
      obtain ⟨GC1, hg11, hg12, hvc1, hRG1⟩ := hcodes1 rfl
      simp only [Value.slice.injEq] at hvc1
      obtain ⟨rfl, rfl, -⟩ := hvc1
      have hRG1' : Row w11 GC1 51 (u32s (codesOf za)) := hRG1.kept hk1011 hg12
      have HC2 : Hid _ := coded_in (fun k => k = gb) (some ⟨gb, 257 + x1, none⟩) (cv9 - (257 + x1)) zb w11 (fun k h => h ▸ hgl11) hi2'
      rw [hl2] at HC2
      have HX6 : Hid (dynD bs most out (if errOf zb ≠ 0 then .error (errOf zb) else .ok (za, zb, p9)) = R) := by have h9 := HX5.out; rw [if_neg (show ¬ ((0 : Int) ≠ 0) by simp)] at h9; exact h9
      clear HX5 hi1 hi2 hs9' hE9 hk59 hk911 hk1011 hb10 hRG1 hg12 hg11 hcodes1 hgg
      go_wp2_with fail
      rw [HW11.out, HB17.out]
      refine Calls.mono HC2.out ?_
      clear HC2 HW11 HB17
      rintro e w12 ⟨hb12, vc2, rfl, ⟨gy, cy, rfl⟩, hcodes2⟩
      obtain ⟨er2, her2⟩ : ∃ er2, errOf zb = er2 := ⟨_, rfl⟩
      rw [her2] at HX6 hcodes2 ⊢
      obtain ⟨w13, HW13⟩ : ∃ w13, Hid (w12.alloc (.cells #[.slice (some ⟨gb, 257 + x1, none⟩) (1 + x2) (cv9 - (257 + x1)), .slice gy cy cy] 70) = w13) := ⟨_, rfl⟩
      obtain ⟨B18, HB18⟩ : ∃ B18, Hid (w12.heap.size = B18) := ⟨_, rfl⟩
      have hk1213 : Kept (fun k => k < w12.heap.size) w12 w13 := HW13.out ▸ (Kept.refl _ w12).alloc (fun k h => h) _
      have hk1113 : Kept (fun k => k < w11.heap.size) w11 w13 := (Kept.of_below hb12 (fun _ h => h)).trans (hk1213.mono (fun k (h : k < w11.heap.size) => by have := hb12.size; show k < _; omega))
      have b18 : Two w13 B18 70 (.slice (some ⟨gb, 257 + x1, none⟩) (1 + x2) (cv9 - (257 + x1))) (.slice gy cy cy) := by rw [← HB18.out, ← HW13.out]; exact Two.new w12 70 _ _
      have b17' := b17.kept hk1113 b17.lt
      have hE11 := hE5.kept hk511
      have hk513 := hk511.trans (hk1113.mono (fun k h => hE11.lt k h))
      have hs13 := hs11.low hk1113
      have hE13 := hE5.kept hk513
      have hi2'' := hi2'.kept (hk1113.mono (fun k (h : k = gb) => h ▸ hgl11))
      have hi1'' := hi1'.kept (hk1113.mono (fun k (h : k = gb) => h ▸ hgl11))
      have hgg13 : Row w13 gb 3 cur := hgg11.kept hk1113 hgl11
      have hRG13 := hRG1'.kept hk1113 hRG1'.lt
      by_cases he2 : er2 = 0
      rotate_left
      · have HF : Hid (OpPost T S Q bs g c most w R (.returned (.int .i64 er2)) w13) := HFIN.out _ _ _ (OpPost.err er2 (by rw [← HX6.out, if_pos he2]; rfl) he2 hk513)
        have t7 : (er2 != 0) = true := by simpa using he2
        rw [← HW13.out] at HF
        clear HX6 hE5 hs5 rO rL HFIN hk1213 hk1113 b18 b17 b17' hE11 hk513 hs13 hE13 hi2'' hi1'' hgg13 hRG13 hk511 hs11 hi2' hi1' hgg11 hRG1' hb12 hcodes2
        go_wp2
        go_ret
        exact HF.out
      subst he2
      obtain ⟨GC2, hg21, hg22, hvc2, hRG2⟩ := hcodes2 rfl
      simp only [Value.slice.injEq] at hvc2
      obtain ⟨rfl, rfl, -⟩ := hvc2
      have hRG23 : Row w13 GC2 51 (u32s (codesOf zb)) := hRG2.kept hk1213 hg22
      have HX7 : Hid (symsS za zb bs most (8 * bs.length + 1) p9 out = R) := by have h9 := HX6.out; rw [if_neg (show ¬ ((0 : Int) ≠ 0) by simp)] at h9; exact h9
      obtain ⟨TB, hTBs, hEB, hsB, hAllB⟩ := all_T hE13 hs13
      have hgT := hAllB gb 3 cur hgg13 (by decide) (by decide) (by decide)
      have hcA1 : CodeIn TB w13 (.slice (some ⟨gb, 0, none⟩) (257 + x1) cv9) (.slice (some ⟨GC1, 0, none⟩) (257 + x1) (257 + x1)) za :=
        ⟨her1, ⟨some ⟨gb, 0, none⟩, cv9, by rw [hl1], hi1''.mono (fun k (h : k = gb) => h ▸ hgT)⟩, ⟨GC1, by rw [hl1], hRG13, hAllB GC1 51 _ hRG13 (by decide) (by decide) (by decide)⟩⟩
      have hcA2 : CodeIn TB w13 (.slice (some ⟨gb, 257 + x1, none⟩) (1 + x2) (cv9 - (257 + x1))) (.slice (some ⟨GC2, 0, none⟩) (1 + x2) (1 + x2)) zb :=
        ⟨her2, ⟨some ⟨gb, 257 + x1, none⟩, cv9 - (257 + x1), by rw [hl2], hi2''.mono (fun k (h : k = gb) => h ▸ hgT)⟩, ⟨GC2, by rw [hl2], hRG23, hAllB GC2 51 _ hRG23 (by decide) (by decide) (by decide)⟩⟩
      have HSy : Hid _ := symbols_in za zb _ _ _ _ R (8 * bs.length + 1) HX7 (by omega) w13 hEB hsB hcA1 hcA2
      have HF : Hid (∀ e w', OpPost TB S Q bs g c most w13 R e w' → OpPost T S Q bs g c most w R e w') := fun e w' h => HFIN.out _ _ _ (OpPost.mono h hTBs hk513)
      have k0 := b17'.cell0
      have k1 := b17'.cell1
      rw [← HW13.out] at k0 k1
      clear HX6 HX7 hE5 hs5 rO rL HFIN hk1213 hk1113 b18 b17 b17' hE11 hk513 hs13 hE13 hi2'' hi1'' hgg13 hRG13 hk511 hs11 hi2' hi1' hgg11 hRG1' hb12 hcodes2 hEB hsB hcA1 hcA2 hAllB hTBs hRG2 hRG23 hgT
      go_wp2_with fail
      rw [HW13.out]
      refine Calls.mono HSy.out ?_
      clear HSy k0 k1 HW13 HB18
      intro e w14 h14
      have HF2 : Hid (OpPost T S Q bs g c most w R e w14) := HF.out _ _ h14
      rcases h14 with ⟨p14, o14, -, rfl, -, -⟩ | ⟨er14, -, -, rfl, -⟩
      · clear HF
        go_wp2
        go_ret
        exact HF2.out
      · clear HF
        go_wp2
        go_ret
        exact HF2.out
end Go.Proofs.YtiheajlgaehfmaaDoor
