import Derived.Test.YtinbilbgipfemaaDoorChd
import Derived.Test.YtinbilbgipfemaaDoorFxdM
import Derived.Test.YtinbilbgipfemaaDoorTabM
import Derived.Laws.EntriesVeiled
import Derived.Test.YtinbilbgipfemaaDoorWay
/- The way with the codes that fit best. -/
namespace Go.Proofs.YtinbilbgipfemaaDoor
open Go.RowKit

theorem headOf_ok {zl zd : List Int} {H : List Fd} (h : HeadOf zl zd H) (hl : zl.length = 286) (hd : zd.length = 30) : (∀ f ∈ H, FdOk f) ∧ H.length ≤ 2000 := by
  obtain ⟨ps, cl, c, rfl, hrow, hB⟩ := h.ex
  have h1 := trimN_le zl 257 zl.length
  have h2 := trimN_le zd 1 zd.length
  have hcl : cl.length = 19 := by have := hB.len; rw [frq_length] at this; exact this
  have htop : ∀ i : Nat, 0 ≤ cl[i]?.getD 0 ∧ cl[i]?.getD 0 ≤ 7 := fun i => by
    by_cases h : i < 19
    · have := hB.top i (by rw [frq_length]; exact h)
      omega
    · rw [List.getElem?_eq_none (by omega)]
      simp
  have hlen : LenOk cl 19 := ⟨hB.right, by omega, by omega, fun i => by have := htop i; omega⟩
  have hM := manyN_le cl 19
  have hpl : ps.length ≤ 316 := by
    have := rowT_more hrow
    rw [List.length_map, List.length_append, List.length_take, List.length_take] at this
    simp only [List.length_nil] at this
    omega
  constructor
  · intro f hf
    simp only [headL, List.mem_append] at hf
    rcases hf with (hf | hf) | hf
    · simp only [head3, List.mem_cons, List.not_mem_nil, or_false] at hf
      rcases hf with rfl | rfl | rfl
      · exact ⟨by show _ - _ < _; omega, by show 5 ≤ 32; omega⟩
      · exact ⟨by show _ - _ < _; omega, by show 5 ≤ 32; omega⟩
      · exact ⟨by show _ - _ < _; omega, by show 4 ≤ 32; omega⟩
    · simp only [lenLs, List.mem_map] at hf
      obtain ⟨i, _, rfl⟩ := hf
      have := htop (ordI i)
      exact ⟨by show Int.toNat _ < _; omega, by show 3 ≤ 32; omega⟩
    · simp only [psF, List.mem_flatMap] at hf
      obtain ⟨p, hp, hf⟩ := hf
      have hok := rowT_ok hrow p hp
      simp only [List.mem_cons, List.not_mem_nil, or_false] at hf
      rcases hf with rfl | rfl
      · exact getD_ok (codesF_ok hlen) (by rw [codesF_length]; omega)
      · have hbN := bitsN_le' p.1
        have h2 : (2 : Int) ^ bitsN p.1 ≤ 2 ^ 7 := by
          have := Nat.pow_le_pow_right (n := 2) (by omega) hbN
          exact_mod_cast this
        exact ⟨by show Int.toNat _ < _; omega, by show bitsN _ ≤ 32; omega⟩
  · have hps : ∀ l : List (Int × Int), (psF cl l).length = 2 * l.length := by
      intro l
      induction l with
      | nil => rfl
      | cons y ys ih =>
        have e : psF cl (y :: ys) = [(codesF cl)[y.1.toNat]?.getD (0, 0), (y.2.toNat, bitsN y.1)] ++ psF cl ys := rfl
        rw [e, List.length_append, ih]
        simp only [List.length_cons, List.length_nil]
        omega
    rw [headL, List.length_append, List.length_append, hps]
    simp only [head3, lenLs, List.length_cons, List.length_nil, List.length_map, List.length_range]
    omega
/-- Lengths and a head that fit. -/
structure DynOf (fl fd zl zd : List Int) (head : List Fd) : Prop where
  bl : ∃ c, Best fl zl 15 c
  bd : ∃ c, Best fd zd 15 c
  hd : HeadOf zl zd head
theorem best_top {fs ls : List Int} {limit : Nat} {c : Int} (h : Best fs ls limit c) (hl : limit ≤ 15) : ∀ z ∈ ls, 0 ≤ z ∧ z ≤ 15 := by
  intro z hz
  obtain ⟨i, hi, rfl⟩ := List.getElem_of_mem hz
  have := h.top i (by rw [← h.len]; exact hi)
  rw [List.getElem?_eq_getElem hi] at this
  simp only [Option.getD_some] at this
  omega

set_option maxRecDepth 100000 in
set_option maxHeartbeats 2000000 in
theorem dynamic_any (S : Nat → Prop) (K : Nat) (tx : Value) (last : Bool) (its : List It) (fl fd : List Int) (ext : Nat) (w : World) (hS : ∀ k, S k → k < w.heap.size) (hB : BlkAt S w K tx last its fl fd ext) (hO : OrdAt w) :
    Calls Tryd.prog 37 #[.pointer (some ⟨K, 0, none⟩)] w fun e w' => ∃ v zl zd head, e = .returned v ∧ DynOf fl fd zl zd head ∧ CodedWay S K 2 last head zl zd its (3 + costR fl zl + costR fd zd + ext + widF head) w v w' := by
  have hb0 : Below w.heap.size w (w.alloc (.cells #[.int .i64 0, .nilFunc] 58)) := (Below.refl _ w).alloc (Nat.le_refl _) _
  have r0 := Row.new w 58 #[.int .i64 0, .nilFunc]
  generalize hw0 : w.alloc (.cells #[.int .i64 0, .nilFunc] 58) = w0 at hb0 r0
  have l0 := r0.lt
  have hS0 : ∀ k, S k → k < w0.heap.size := fun k h => by have := hS k h; omega
  have HBK0 : Hid (BlkAt S w0 K tx last its fl fd ext) := hB.kept (Kept.of_below hb0 hS)
  have HO0 : Hid (OrdAt w0) := hO.kept (Kept.of_below (S := fun k => k < w.heap.size) hb0 (fun _ h => h)) hO.1
  obtain ⟨⟨ia, ic, LB, DB, g1, g2, g3, g4, g5, g6⟩, hsk, q1, q2, q3, q4, q5⟩ := HBK0.out
  have k3 := g1.cell (i := 3) rfl
  have k4 := g1.cell (i := 4) rfl
  have hKl := g1.lt
  have HQ : Hid (fl.length = 286 ∧ fd.length = 30) := ⟨q1, q2⟩
  have SB : Hid (Below w0.heap.size w0 w0.drew) := (Below.refl _ w0).drew
  have H1 : Hid (Calls Tryd.prog 59 #[.slice (some ⟨LB, 0, none⟩) fl.length fl.length, .int .i64 15] w0.drew _) := fitting_any S (some ⟨LB, 0, none⟩) fl.length 15 fl w0.drew hS0 (IntsIn.of_row (w := w0.drew) g5 g3) (by omega) (by omega) (by omega) q3 (by omega)
  have HID : Hid (IntsIn S w0 (.slice (some ⟨DB, 0, none⟩) fd.length fd.length) fd) := IntsIn.of_row g6 g4
  have HBB : Hid (Below w.heap.size w w0) := hb0
  clear hB hO hb0 q1 q2 g1 g2 g5 g6
  go_enter Tryd.func37, Tryd.ntmps37
  go_wp2_with fail
  clear hw0
  refine wp_region_M (fun wx : World => Below w0.heap.size w0 wx) (fun _ => true) 12 rfl (by kernel_rfl) ?_
  refine wpM_held 0 (v := .pointer (some ⟨K, 0, none⟩)) rfl (by kernel_rfl) (by kernel_rfl) rfl (fun _ _ _ h => h) rfl (by rintro wx hx; go_simp <;> rfl) SB.out ?_
  refine wpM_held 1 (v := .pointer (some ⟨K, 0, none⟩)) rfl (by kernel_rfl) (by kernel_rfl) rfl (fun _ _ _ h => h) rfl (by rintro wx hx; go_simp <;> rfl) SB.out ?_
  refine wpM_held 2 (v := .pointer (some ⟨K, 3, none⟩)) rfl (by kernel_rfl) (by kernel_rfl) rfl (fun _ _ _ h => h) rfl (by rintro wx hx; go_simp <;> rfl) SB.out ?_
  refine wpM_held 3 (v := .slice (some ⟨LB, 0, none⟩) fl.length fl.length) rfl (by kernel_rfl) (by kernel_rfl) rfl (fun _ _ _ h => h) rfl (by rintro wx hx; have hc := (hx.cell (p := ⟨K, 3, none⟩) hKl).trans k3; go_simp <;> rfl) SB.out ?_
  refine wpM_held 5 (v := .pointer (some ⟨K, 0, none⟩)) rfl (by kernel_rfl) (by kernel_rfl) rfl (fun _ _ _ h => h) rfl (by rintro wx hx; go_simp <;> rfl) SB.out ?_
  refine wpM_held 6 (v := .pointer (some ⟨K, 0, none⟩)) rfl (by kernel_rfl) (by kernel_rfl) rfl (fun _ _ _ h => h) rfl (by rintro wx hx; go_simp <;> rfl) SB.out ?_
  refine wpM_held 7 (v := .pointer (some ⟨K, 4, none⟩)) rfl (by kernel_rfl) (by kernel_rfl) rfl (fun _ _ _ h => h) rfl (by rintro wx hx; go_simp <;> rfl) SB.out ?_
  refine wpM_held 8 (v := .slice (some ⟨DB, 0, none⟩) fd.length fd.length) rfl (by kernel_rfl) (by kernel_rfl) rfl (fun _ _ _ h => h) rfl (by rintro wx hx; have hc := (hx.cell (p := ⟨K, 4, none⟩) hKl).trans k4; go_simp <;> rfl) SB.out ?_
  refine wpM_one 4 rfl (by kernel_rfl) rfl ?_
  go_wp2_with fail
  refine H1.out.mono ?_
  clear H1
  rintro e w1 ⟨GL, zl, cl, rfl, hBl, hRl, hb1, hGL⟩
  have hb01 : Below w0.heap.size w0 w1 := SB.out.trans hb1
  have H2 : Hid (Calls Tryd.prog 59 #[.slice (some ⟨DB, 0, none⟩) fd.length fd.length, .int .i64 15] w1 _) := fitting_any S (some ⟨DB, 0, none⟩) fd.length 15 fd w1 (fun k h => by have := hS0 k h; have := hb01.size; omega) (HID.out.kept (Kept.of_below hb01 hS0)) (by omega) (by omega) (by have := HQ.out; omega) q4 (by have := HQ.out; omega)
  go_wp2_with fail
  refine ⟨fun _ => hb01, ?_⟩
  refine wpM_one 9 rfl (by kernel_rfl) rfl ?_
  go_wp2_with fail
  refine H2.out.mono ?_
  clear H2
  rintro e w2 ⟨GD, zd, cd, rfl, hBd, hRd, hb2, hGD⟩
  have hb02 : Below w0.heap.size w0 w2 := hb01.trans (hb2.mono hb01.size)
  go_wp2_with fail
  refine ⟨fun _ => hb02, ?_⟩
  refine wpM_one 10 rfl (by kernel_rfl) rfl ?_
  go_wp2_with fail
  refine ⟨fun _ => hb02, ?_⟩
  refine wpM_one 11 rfl (by kernel_rfl) rfl ?_
  go_wp2_with fail
  refine ⟨fun _ => hb02, ?_⟩
  refine wpM_done (by kernel_rfl) ?_
  have s1 := hb01.size
  have s2 := hb2.size
  have hRl2 := hRl.below hb2 hRl.lt
  have lL := hRl2.lt
  have lD := hRd.lt
  have hGL' : w0.heap.size ≤ GL := hGL
  obtain ⟨S2, hS2⟩ : ∃ S2 : Nat → Prop, S2 = fun k => S k ∨ (w0.heap.size ≤ k ∧ k < w2.heap.size) := ⟨_, rfl⟩
  have hS2w : ∀ k, S2 k → k < w2.heap.size := by
    rw [hS2]
    rintro k (h | h)
    · have := hS0 k h; omega
    · exact h.2
  have hIl : IntsIn S2 w2 (.slice (some ⟨GL, 0, none⟩) zl.length fl.length) zl := IntsIn.of_row hRl2 (by rw [hS2]; exact .inr ⟨hGL', lL⟩)
  have hId : IntsIn S2 w2 (.slice (some ⟨GD, 0, none⟩) zd.length fd.length) zd := IntsIn.of_row hRd (by rw [hS2]; exact .inr ⟨by omega, lD⟩)
  have HLn : Hid (zl.length = fl.length ∧ zd.length = fd.length) := ⟨hBl.len, hBd.len⟩
  have HO2 : OrdAt w2 := HO0.out.kept (Kept.of_below (S := fun k => k < w0.heap.size) hb02 (fun _ h => h)) HO0.out.1
  have H3 : Hid (Calls Tryd.prog 60 #[.slice (some ⟨GL, 0, none⟩) fl.length fl.length, .slice (some ⟨GD, 0, none⟩) fd.length fd.length] w2 fun e w' => ∃ g c H, e = .returned (.slice g H.length c) ∧ HeadOf zl zd H ∧ w'.ownsRow w2.heap.size 79 2 (.slice g H.length c) H.length (fcells H) ∧ Below w2.heap.size w2 w') := by
    have := codesHead_any S2 (some ⟨GL, 0, none⟩) (some ⟨GD, 0, none⟩) fl.length fd.length zl zd w2 hS2w hIl hId (by have := HLn.out; have := HQ.out; omega) (by have := HLn.out; have := HQ.out; omega) (by have := HLn.out; omega) (by have := HLn.out; omega) HO2
    rw [HLn.out.1, HLn.out.2] at this
    exact this
  have HDD : Hid ((∃ c, Best fl zl 15 c) ∧ (∃ c, Best fd zd 15 c) ∧ (∀ z ∈ zl, 0 ≤ z ∧ z ≤ 15) ∧ ∀ z ∈ zd, 0 ≤ z ∧ z ≤ 15) := ⟨⟨_, hBl⟩, ⟨_, hBd⟩, best_top hBl (by omega), best_top hBd (by omega)⟩
  have HII : Hid (IntsIn S2 w2 (.slice (some ⟨GL, 0, none⟩) zl.length fl.length) zl ∧ IntsIn S2 w2 (.slice (some ⟨GD, 0, none⟩) zd.length fd.length) zd) := ⟨hIl, hId⟩
  have r2 : Row w2 w.heap.size 58 #[.int .i64 0, .nilFunc] := r0.below hb02 l0
  have HS2 : Hid (S2 = fun k => S k ∨ (w0.heap.size ≤ k ∧ k < w2.heap.size)) := hS2
  clear hS2 hIl hId hBl hBd hRl hRd hRl2 hb1 hb2 hb01 HO2 k3 k4 HID SB
  go_wp2_with fail
  refine H3.out.mono ?_
  clear H3
  rintro e w3 ⟨gh, ch, head, rfl, hHO, hoH, hb3⟩
  have hok := headOf_ok hHO (by have := HLn.out; have := HQ.out; omega) (by have := HLn.out; have := HQ.out; omega)
  have s3 := hb3.size
  have hb03 : Below w0.heap.size w0 w3 := hb02.trans (hb3.mono (by omega))
  obtain ⟨S3, hS3⟩ : ∃ S3 : Nat → Prop, S3 = fun k => S k ∨ (w0.heap.size ≤ k ∧ k < w3.heap.size) := ⟨_, rfl⟩
  have hS23 : ∀ k, S2 k → S3 k := by
    rw [hS3, HS2.out]
    rintro k (h | h)
    · exact .inl h
    · exact .inr ⟨h.1, by omega⟩
  have hS3w : ∀ k, S3 k → k < w3.heap.size := by
    rw [hS3]
    rintro k (h | h)
    · have := hS0 k h; omega
    · exact h.2
  have hk23 : Kept S2 w2 w3 := Kept.of_below hb3 hS2w
  have hIl3 := (HII.out.1.kept hk23).mono hS23
  have hId3 := (HII.out.2.kept hk23).mono hS23
  have hF3 : FldIn S3 w3 gh head := by
    rcases hoH.2 with ⟨e, h0⟩ | ⟨g, cap, cur, e, hb, hgb, _, _, _, htake⟩
    · exact .inl (List.eq_nil_of_length_eq_zero h0)
    · simp only [Value.slice.injEq] at e
      obtain ⟨rfl, _, rfl⟩ := e
      refine .inr ⟨g, 0, rfl, by rw [hS3]; exact .inr ⟨by omega, (Array.getElem?_eq_some_iff.1 hgb).1⟩, fun j f hf => ?_⟩
      have h2 := fcells_at head j f hf
      have c0 := hoH.cells (g := g) rfl (j * 2) _ h2.1
      have c1 := hoH.cells (g := g) rfl (j * 2 + 1) _ h2.2
      rw [Go.WideShapes.add_plain] at c0 c1
      rw [Nat.zero_add] at c0 c1 ⊢
      exact ⟨c0, c1⟩
  obtain ⟨⟨ia3, ic3, LB3, DB3, g1, g2, g3', g4', g5, g6⟩, _, q1, q2, q3', q4', q5'⟩ := HBK0.out.kept (Kept.of_below hb03 hS0)
  have hSS : ∀ k, S k → S3 k := fun k h => by rw [hS3]; exact .inl h
  obtain ⟨size, HSI⟩ : ∃ size : Int, Hid (3 + costR fl zl + costR fd zd + ext + widF head = size) := ⟨_, rfl⟩
  have H4 : Hid (Calls Tryd.prog 56 #[.pointer (some ⟨K, 0, none⟩), .int .u32 2, .slice gh head.length ch, .slice (some ⟨GL, 0, none⟩) fl.length fl.length, .slice (some ⟨GD, 0, none⟩) fd.length fd.length] w3 fun e w' => ∃ v, e = .returned v ∧ CodedWay S K 2 last head zl zd its size w0 v w' ∧ Below w3.heap.size w3 w') := by
    have := coded_any S3 K 2 tx (.slice ia3 its.length ic3) last (some ⟨LB3, 0, none⟩) (some ⟨DB3, 0, none⟩) gh (some ⟨GL, 0, none⟩) (some ⟨GD, 0, none⟩) fl.length fd.length ch fl.length fd.length fl fd zl zd head ext (costR fl zl) (costR fd zd) size w3 hS3w g1 (IntsIn.of_row g5 (hSS _ g3')) (IntsIn.of_row g6 (hSS _ g4')) hIl3 hId3 hF3 (by omega) (by omega) (by have := HLn.out; omega) (by have := HLn.out; omega) hok.2 hok.1 rfl rfl (costR_bd _ _ q3' HDD.out.2.2.1 (by omega)) (costR_bd _ _ q4' HDD.out.2.2.2 (by omega)) q5' HSI.out.symm
    rw [HLn.out.1, HLn.out.2] at this
    refine Calls.mono this ?_
    rintro e w' ⟨v, rfl, hv⟩
    have hbv := hv
    obtain ⟨_, _, _, _, _, _, _, _, _, _, _, _, hbv⟩ := hbv
    rw [hS3] at hF3 hIl3 hId3
    rw [HLn.out.1] at hIl3
    rw [HLn.out.2] at hId3
    refine ⟨v, rfl, codedWay_of hS0 HBK0.out hb03 hv ⟨gh, ch, rfl, hF3⟩ ⟨some ⟨GL, 0, none⟩, fl.length, by rw [HLn.out.1], by rw [HLn.out.1]; exact hIl3⟩ ⟨some ⟨GD, 0, none⟩, fd.length, by rw [HLn.out.2], by rw [HLn.out.2]; exact hId3⟩, hbv⟩
  have r3 : Row w3 w.heap.size 58 #[.int .i64 0, .nilFunc] := r2.below hb3 r2.lt
  have HDO : Hid (DynOf fl fd zl zd head) := ⟨HDD.out.1, HDD.out.2.1, hHO⟩
  clear hF3 hIl3 hId3 hoH g1 g2 g5 g6 r2 hb3 hb02 hb03 hk23 q1 q2 hHO hok
  go_wp2_with fail
  refine H4.out.mono ?_
  clear H4
  rintro e w4 ⟨v, rfl, hv, hb4⟩
  have r4 := r3.below hb4 r3.lt
  have d0 := r4.cell (i := 0) rfl
  have d1 := r4.cell (i := 1) rfl
  have f0 := r4.frozen 0
  have f1 := r4.frozen 1
  have HV : Hid (CodedWay S K 2 last head zl zd its size w0 v w4) := hv
  obtain ⟨Bk, Bn, Bh, Bl, Bd, rfl, -, -⟩ := hv
  clear hb4 r3
  go_wp2
  have hRe := (r4.set 0 (.int .i64 size)).set 1 (.func (.func 70) #[] #[.pointer (some ⟨Bk, 0, none⟩), .pointer (some ⟨Bn, 0, none⟩), .pointer (some ⟨Bh, 0, none⟩), .pointer (some ⟨Bl, 0, none⟩), .pointer (some ⟨Bd, 0, none⟩)])
  refine bodyPost_ret (results_cell_row rfl _ _ w.heap.size 58 _ (0, 0) _ rfl hRe Tryd.underlying58 rfl (by kernel_rfl)) rfl ⟨_, zl, zd, head, rfl, HDO.out, ?_⟩
  rw [HSI.out]
  exact codedWay_end hS HBB.out l0 HV.out
end Go.Proofs.YtinbilbgipfemaaDoor
/- slices.MinFunc of ways. -/
namespace Go.Proofs.YtinbilbgipfemaaDoor
open Go.RowKit

/-- A way: its size, its closure's function and what that holds. -/
structure Wy where
  size : Int
  fn : Nat
  caps : Array Value
def Wy.f (x : Wy) : Value := .func (.func x.fn) #[] x.caps
def Wy.val (x : Wy) : Value := .agg #[.int .i64 x.size, .func (.func x.fn) #[] x.caps]
def wcells (ws : List Wy) : List Value := ws.flatMap fun x => [.int .i64 x.size, .func (.func x.fn) #[] x.caps]
theorem wcells_cons (x : Wy) (ws : List Wy) : wcells (x :: ws) = .int .i64 x.size :: .func (.func x.fn) #[] x.caps :: wcells ws := rfl
theorem wcells_at (ws : List Wy) (j : Nat) (x : Wy) (h : ws[j]? = some x) : (wcells ws)[j * 2]? = some (.int .i64 x.size) ∧ (wcells ws)[j * 2 + 1]? = some (.func (.func x.fn) #[] x.caps) := by
  induction ws generalizing j with
  | nil => simp at h
  | cons y ys ih =>
    cases j with
    | zero =>
      simp only [List.getElem?_cons_zero, Option.some.injEq] at h
      subst h
      exact ⟨rfl, rfl⟩
    | succ j =>
      have := ih j (by simpa using h)
      rw [wcells_cons, show (j + 1) * 2 = j * 2 + 1 + 1 by omega]
      exact this
theorem cmpZ_neg (a b : Int) : cmpZ a b < 0 ↔ a < b := by
  unfold cmpZ
  split
  · constructor <;> intro _ <;> omega
  · split <;> constructor <;> intro _ <;> omega

set_option maxRecDepth 100000 in
set_option maxHeartbeats 1000000 in
theorem wless_any (a b : Wy) (w : World) : Calls Tryd.prog 39 #[.agg #[.int .i64 a.size, .func (.func a.fn) #[] a.caps], .agg #[.int .i64 b.size, .func (.func b.fn) #[] b.caps]] w fun e w' => e = .returned (.int .i64 (cmpZ a.size b.size)) ∧ Below w.heap.size w w' := by
  obtain ⟨sa, fa, ca⟩ := a
  obtain ⟨sb, fb, cb⟩ := b
  simp only
  generalize hw1 : (w.alloc (.cells #[.int .i64 sa, .func (.func fa) #[] ca] 58)).alloc (.cells #[.int .i64 sb, .func (.func fb) #[] cb] 58) = w1
  have hB : Below w.heap.size w w1 := by subst hw1; exact ((Below.refl _ w).alloc (Nat.le_refl _) _).alloc (by simp) _
  have r1 : Row w1 w.heap.size 58 #[.int .i64 sa, .func (.func fa) #[] ca] := by subst hw1; exact (Row.new w 58 _).alloc _
  have r2 : Row w1 (w.heap.size + 1) 58 #[.int .i64 sb, .func (.func fb) #[] cb] := by
    subst hw1
    have := Row.new (w.alloc (.cells #[.int .i64 sa, .func (.func fa) #[] ca] 58)) 58 #[.int .i64 sb, .func (.func fb) #[] cb]
    rw [World.size_alloc] at this
    exact this
  have c1 := r1.cell (i := 0) rfl
  have c2 := r2.cell (i := 0) rfl
  have HC : Hid (Calls Tryd.prog 40 #[.int .i64 sa, .int .i64 sb] w1 fun e w' => e = .returned (.int .i64 (cmpZ sa sb)) ∧ w' = w1) := compare_r (cmpZ sa sb) sa sb rfl w1
  go_enter Tryd.func39, Tryd.ntmps39
  go_wp2_with fail
  refine HC.out.mono ?_
  clear HC hw1
  rintro e w' ⟨rfl, rfl⟩
  go_wp2
  go_ret
  exact ⟨rfl, hB⟩

set_option maxRecDepth 100000 in
set_option maxHeartbeats 2000000 in
theorem minF_any (G c : Nat) (ws : List Wy) (w : World) (h1 : 1 ≤ ws.length) (h3 : ws.length ≤ 3) (hG : ∀ j x, ws[j]? = some x → w.cell? ⟨G, j * 2, none⟩ = some (.int .i64 x.size) ∧ w.cell? ⟨G, j * 2 + 1, none⟩ = some (.func (.func x.fn) #[] x.caps)) :
    Calls Tryd.prog 38 #[.slice (some ⟨G, 0, none⟩) ws.length c, .func (.func 39) #[] #[]] w fun e w' => ∃ x, x ∈ ws ∧ e = .returned x.val ∧ (∀ y ∈ ws, x.size ≤ y.size) ∧ Below w.heap.size w w' := by
  obtain ⟨x0, hx0⟩ : ∃ x, ws[0]? = some x := ⟨_, List.getElem?_eq_getElem h1⟩
  have hGl : G < w.heap.size := World.block_lt_of_cell? _ _ (hG 0 x0 hx0).1
  have HG : Hid (∀ j x, ws[j]? = some x → w.cell? ⟨G, j * 2, none⟩ = some (.int .i64 x.size) ∧ w.cell? ⟨G, j * 2 + 1, none⟩ = some (.func (.func x.fn) #[] x.caps)) := hG
  obtain ⟨g0, g1⟩ := hG 0 x0 hx0
  simp only [Nat.zero_mul, Nat.zero_add] at g0 g1
  have HX0 : Hid (ws[0]? = some x0) := hx0
  clear hx0 hG
  obtain ⟨s0, f0, c0⟩ := x0
  simp only at g0 g1
  generalize hw1 : w.alloc (.cells #[.int .i64 0, .nilFunc] 58) = w1
  have hB1 : Below w.heap.size w w1 := by subst hw1; exact (Below.refl _ w).alloc (Nat.le_refl _) _
  have r1 : Row w1 w.heap.size 58 #[.int .i64 0, .nilFunc] := by subst hw1; exact Row.new w 58 _
  have z1 : w1.heap.size = w.heap.size + 1 := by subst hw1; simp
  have e0 := (hB1.cell (p := ⟨G, 0, none⟩) hGl).trans g0
  have e1 := (hB1.cell (p := ⟨G, 1, none⟩) hGl).trans g1
  generalize hw2 : w1.alloc (.cells #[.int .i64 s0, .func (.func f0) #[] c0] 58) = w2
  have hB2 : Below w.heap.size w w2 := by subst hw2; exact hB1.alloc hB1.size _
  have r2 : Row w2 w.heap.size 58 #[.int .i64 0, .nilFunc] := by subst hw2; exact r1.alloc _
  have rm : Row w2 (w.heap.size + 1) 58 #[.int .i64 s0, .func (.func f0) #[] c0] := by
    subst hw2
    have := Row.new w1 58 #[.int .i64 s0, .func (.func f0) #[] c0]
    rw [z1] at this
    exact this
  have t0 : ¬ ((ws.length : Int) < 1) := by omega
  have HZ1 : Hid (w1.heap.size = w.heap.size + 1) := z1
  clear g0 g1
  go_enter Tryd.func38, Tryd.ntmps38
  go_wp2_with fail
  clear hw1 hw2 e0 e1
  clear HZ1
  go_loopw [6] (fun v6 wr => ∃ (i : Nat) (x : Wy), i ≤ ws.length ∧ v6 = .int .i64 (i : Int) ∧ Hid (x ∈ ws ∧ ∀ y ∈ ws.take i, x.size ≤ y.size) ∧ Row wr (w.heap.size + 1) 58 #[.int .i64 x.size, .func (.func x.fn) #[] x.caps] ∧ Row wr w.heap.size 58 #[.int .i64 0, .nilFunc] ∧ Below w.heap.size w wr) (fun v6 _ => ws.length - (intOf v6).toNat)
  case atStart => exact ⟨1, ⟨s0, f0, c0⟩, h1, rfl, ⟨List.mem_of_getElem? HX0.out, fun y hy => by
    rw [take_snoc (k := 0) HX0.out] at hy
    simp only [List.take_zero, List.nil_append, List.mem_singleton] at hy
    subst hy
    exact Int.le_refl _⟩, rm, r2, hB2⟩
  case round =>
    clear rm r2 hB2 hB1 r1
    obtain ⟨i, ⟨sx, fx, cx⟩, hi, rfl, HX, rM, rR, hB⟩ := hrel
    simp only at rM
    by_cases hlt : i < ws.length
    · obtain ⟨⟨sy, fy, cy⟩, hy⟩ : ∃ y, ws[i]? = some y := ⟨_, List.getElem?_eq_getElem hlt⟩
      obtain ⟨y0, y1⟩ := HG.out i _ hy
      simp only at y0 y1
      replace y0 := (hB.cell (p := ⟨G, i * 2, none⟩) hGl).trans y0
      replace y1 := (hB.cell (p := ⟨G, i * 2 + 1, none⟩) hGl).trans y1
      have hMr := rM.lt
      have hGr : G < wr.heap.size := World.block_lt_of_cell? _ _ y0
      have m0 := rM.cell (i := 0) rfl
      have m1 := rM.cell (i := 1) rfl
      have SB : Hid (Below wr.heap.size wr wr.drew) := (Below.refl _ wr).drew
      have HL : Hid (Calls Tryd.prog 39 #[.agg #[.int .i64 sy, .func (.func fy) #[] cy], .agg #[.int .i64 sx, .func (.func fx) #[] cx]] wr.drew fun e w' => e = .returned (.int .i64 (cmpZ sy sx)) ∧ Below wr.heap.size wr w') := (wless_any ⟨sy, fy, cy⟩ ⟨sx, fx, cx⟩ wr.drew).mono (by
        rintro e w' ⟨rfl, hb⟩
        exact ⟨rfl, SB.out.trans hb⟩)
      have HT : Hid (∀ z ∈ ws.take (i + 1), z ∈ ws.take i ∨ z = ⟨sy, fy, cy⟩) := fun z hz => by
        rw [take_snoc hy] at hz
        simpa using hz
      have HY : Hid (ws[i]? = some ⟨sy, fy, cy⟩) := hy
      clear hy
      go_wp2_with fail
      refine wp_region_M (fun wx : World => Below wr.heap.size wr wx) (fun _ => true) 8 rfl (by kernel_rfl) ?_
      refine wpM_held 0 (v := ?_) rfl (by kernel_rfl) (by kernel_rfl) rfl (fun _ _ _ h => h) rfl (by rintro wx hx; go_simp <;> rfl) SB.out ?_
      refine wpM_held 1 (v := ?_) rfl (by kernel_rfl) (by kernel_rfl) rfl (fun _ _ _ h => h) rfl (by rintro wx hx; go_simp <;> rfl) SB.out ?_
      refine wpM_held 2 (v := ?_) rfl (by kernel_rfl) (by kernel_rfl) rfl (fun _ _ _ h => h) rfl (by rintro wx hx; go_simp <;> rfl) SB.out ?_
      refine wpM_held 3 (v := .pointer (some ⟨G, i * 2, none⟩)) rfl (by kernel_rfl) (by kernel_rfl) rfl (fun _ _ _ h => h) rfl (by rintro wx hx; go_simp <;> rfl) SB.out ?_
      refine wpM_held 4 (v := .agg #[.int .i64 sy, .func (.func fy) #[] cy]) rfl (by kernel_rfl) (by kernel_rfl) rfl (fun _ _ _ h => h) rfl (by rintro wx hx; have hc := (hx.cell (p := ⟨G, i * 2, none⟩) hGr).trans y0; have hd := (hx.cell (p := ⟨G, i * 2 + 1, none⟩) hGr).trans y1; go_simp <;> rfl) SB.out ?_
      refine wpM_held 5 (v := .agg #[.int .i64 sx, .func (.func fx) #[] cx]) rfl (by kernel_rfl) (by kernel_rfl) rfl (fun _ _ _ h => h) rfl (by rintro wx hx; have hc := (hx.cell (p := ⟨w.heap.size + 1, 0, none⟩) hMr).trans m0; have hd := (hx.cell (p := ⟨w.heap.size + 1, 1, none⟩) hMr).trans m1; go_simp <;> rfl) SB.out ?_
      refine wpM_one 6 rfl (by kernel_rfl) rfl ?_
      go_wp2_with fail
      refine HL.out.mono ?_
      clear HL
      rintro e w' ⟨rfl, hb⟩
      go_wp2_with fail
      refine ⟨fun _ => hb, ?_⟩
      refine wpM_one 7 rfl (by kernel_rfl) rfl ?_
      go_wp2_with fail
      refine ⟨fun _ => hb, ?_⟩
      refine wpM_done (by kernel_rfl) ?_
      have rM' := rM.below hb hMr
      have rR' := rR.below hb rR.lt
      have hB' := hB.trans (hb.mono hB.size)
      have n0 := rM'.cell (i := 0) rfl
      have n1 := rM'.cell (i := 1) rfl
      have f0' := rM'.frozen 0
      have f1' := rM'.frozen 1
      have u0 := (hb.cell (p := ⟨G, i * 2, none⟩) hGr).trans y0
      have u1 := (hb.cell (p := ⟨G, i * 2 + 1, none⟩) hGr).trans y1
      clear rM rR hB hb y0 y1 m0 m1
      have hcz := cmpZ_neg sy sx
      generalize cmpZ sy sx = cz at hcz ⊢
      by_cases hc : cz < 0
      · have hlt' : sy < sx := hcz.1 hc
        have HE : Hid ((⟨sy, fy, cy⟩ : Wy) ∈ ws ∧ ∀ z ∈ ws.take (i + 1), sy ≤ z.size) := ⟨List.mem_of_getElem? HY.out, fun z hz => by
          rcases HT.out z hz with h | h
          · have := HX.out.2 z h; omega
          · subst h; exact Int.le_refl _⟩
        have HRo : Hid (Row ((w'.setCell ⟨w.heap.size + 1, 0, none⟩ (.int .i64 sy)).setCell ⟨w.heap.size + 1, 1, none⟩ (.func (.func fy) #[] cy)) (w.heap.size + 1) 58 #[.int .i64 sy, .func (.func fy) #[] cy] ∧ Row ((w'.setCell ⟨w.heap.size + 1, 0, none⟩ (.int .i64 sy)).setCell ⟨w.heap.size + 1, 1, none⟩ (.func (.func fy) #[] cy)) w.heap.size 58 #[.int .i64 0, .nilFunc] ∧ Below w.heap.size w ((w'.setCell ⟨w.heap.size + 1, 0, none⟩ (.int .i64 sy)).setCell ⟨w.heap.size + 1, 1, none⟩ (.func (.func fy) #[] cy))) := by
          have hk : Kept (fun q => q ≠ w.heap.size + 1) w' ((w'.setCell ⟨w.heap.size + 1, 0, none⟩ (.int .i64 sy)).setCell ⟨w.heap.size + 1, 1, none⟩ (.func (.func fy) #[] cy)) := ((Kept.refl _ w').setCell (p := ⟨w.heap.size + 1, 0, none⟩) (by simp) _).setCell (p := ⟨w.heap.size + 1, 1, none⟩) (by simp) _
          exact ⟨(rM'.set 0 _).set 1 _, rR'.kept hk (by show w.heap.size ≠ _; omega), hB'.trans ((hk.mono (fun q (h : q < w.heap.size) => by show q ≠ _; omega)).below (fun _ h => h))⟩
        clear rM' rR' hB' hcz
        go_wp2
        exact ⟨⟨i + 1, ⟨sy, fy, cy⟩, by omega, by go_num, HE, HRo.out.1, HRo.out.2.1, HRo.out.2.2⟩, by simp [intOf]; omega⟩
      · have HE : Hid ((⟨sx, fx, cx⟩ : Wy) ∈ ws ∧ ∀ z ∈ ws.take (i + 1), sx ≤ z.size) := ⟨HX.out.1, fun z hz => by
          rcases HT.out z hz with h | h
          · exact HX.out.2 z h
          · subst h
            have : ¬ sy < sx := fun h => hc (hcz.2 h)
            simp only
            omega⟩
        clear hcz
        go_wp2
        exact ⟨⟨i + 1, ⟨sx, fx, cx⟩, by omega, by go_num, HE, rM', rR', hB'⟩, by simp [intOf]; omega⟩
    · obtain rfl : i = ws.length := by omega
      rw [List.take_length] at HX
      have m0 := rM.cell (i := 0) rfl
      have m1 := rM.cell (i := 1) rfl
      have d0 := rR.cell (i := 0) rfl
      have d1 := rR.cell (i := 1) rfl
      have f0' := rR.frozen 0
      have f1' := rR.frozen 1
      go_wp2
      have hRe := (rR.set 0 (.int .i64 sx)).set 1 (.func (.func fx) #[] cx)
      refine bodyPost_ret (results_cell_row rfl _ _ w.heap.size 58 _ (0, 0) _ rfl hRe Tryd.underlying58 rfl (by kernel_rfl)) rfl ⟨⟨sx, fx, cx⟩, HX.out.1, rfl, HX.out.2, ?_⟩
      have hk : Kept (fun q => q < w.heap.size) w _ := ((Kept.of_below (S := fun q => q < w.heap.size) hB (fun _ h => h)).setCell (p := ⟨w.heap.size, 0, none⟩) (by show ¬ w.heap.size < w.heap.size; omega) (.int .i64 sx)).setCell (p := ⟨w.heap.size, 1, none⟩) (by show ¬ w.heap.size < w.heap.size; omega) (.func (.func fx) #[] cx)
      exact hk.below (fun _ h => h)
end Go.Proofs.YtinbilbgipfemaaDoor
/- The cheapest way, at the level of fixed codes. -/
namespace Go.Proofs.YtinbilbgipfemaaDoor
open Go.RowKit

theorem Tryd.info58 : (Tryd.prog.info? 58).map (fun i => (i.zero, i.size, i.bytes)) = some (some (.agg #[.int .i64 0, .nilFunc]), 2, 16) := by kernel_rfl
theorem wcells_one (ws : List Wy) : ∀ u ∈ wcells ws, u.oneCell' = true := by
  intro u hu
  simp only [wcells, List.mem_flatMap] at hu
  obtain ⟨x, _, hx⟩ := hu
  simp only [List.mem_cons, List.not_mem_nil, or_false] at hx
  rcases hx with rfl | rfl <;> rfl
end Go.Proofs.YtinbilbgipfemaaDoor
