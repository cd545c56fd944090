import Derived.Test.YtiheajlgaehfmaaDoorPrn
import Derived.Test.YtiheajlgaehfmaaDoorPlc
import Derived.Test.YtiheajlgaehfmaaDoorPdh
import Derived.Stop.RegionWithIn
/- The program's stream: the codes of a dynamic block. -/
namespace Go.Proofs.YtiheajlgaehfmaaDoor
open Go.RowKit Go.Shelf

attribute [local go_sem] Oper.semAt_some

set_option maxHeartbeats 1000000 in
theorem runs_in (S DZ : Nat) (m : Int) (w : World) :
    Calls Tryd.prog 56 #[.pointer (some ⟨S, 0, none⟩), .pointer (some ⟨DZ, 0, none⟩), .int .i64 m] w fun e w' => e = .returned (.func (.func 73) #[] #[.pointer (some ⟨w.heap.size + 1 + 1, 0, none⟩), .pointer (some ⟨w.heap.size, 0, none⟩), .pointer (some ⟨w.heap.size + 1, 0, none⟩)]) ∧
      w' = ((w.alloc (.cells #[.pointer (some ⟨S, 0, none⟩)] 37)).alloc (.cells #[.pointer (some ⟨DZ, 0, none⟩)] 40)).alloc (.cells #[.int .i64 m] 3) := by
  have hmf : ∀ (fn : Fn) (first cap : Array Value) (w : World), (Instr.makeFunc fn first cap).run Tryd.prog w = .ok (.func fn first cap) w := fun _ _ _ _ => rfl
  go_enter Tryd.func56, Tryd.ntmps56
  go_wp2
  go_ret
  exact ⟨rfl, rfl⟩

/-- What dynamicCodes answers. -/
def DcPost (T : Nat → Prop) (S Q : Nat) (bs : List Int) (g : Option Addr) (c most : Nat) (out : List Int) (w : World) (R : Except Int (List Int × List Int × Nat)) (e : Ending) (w' : World) : Prop :=
  (∃ lz dz p, R = .ok (lz, dz, p) ∧ CodesPost T S Q bs g c most out w lz dz p e w') ∨ (∃ er, R = .error er ∧ er ≠ 0 ∧ e = gaveUp er ∧ Kept T w w')

set_option maxRecDepth 100000 in
set_option maxHeartbeats 4000000 in
theorem dynamicCodes_r {T : Nat → Prop} {S Q : Nat} {bs : List Int} {g : Option Addr} {c most pos : Nat} {l d : Value} {out : List Int} (R : Except Int (List Int × List Int × Nat)) (HR : Hid (dynH bs pos = R)) (w : World) (hE : PEnv T S Q bs g c most w) (hs : PAt T S Q bs g c most l d pos out w) (hO : OrdIn T w) (hC : Cached T w l d) :
    CallsIn Fence.wide 6 Tryd.prog 36 #[.pointer (some ⟨S, 0, none⟩)] w (DcPost T S Q bs g c most out w R) := by
  have hb := hE.are
  refine callsIn_of_wp_marks Tryd.func36 rfl trivial ?_ rfl
  simp only [Tryd.ntmps36, List.size_toArray, List.length_cons, List.length_nil, Nat.reduceAdd, Nat.reduceSub, Array.replicate_succ, Array.replicate_zero, List.push_toArray, List.append_toArray, List.nil_append, List.cons_append]
  have HN : Hid _ := number_s 5 (by omega) w hE hs
  gi_wp2_with fail
  refine ⟨trivial, (callsIn_wide.2 HN.out).mono ?_⟩
  clear HN hs
  rintro e w1 (⟨a, p1, h1, ha, rfl, hs1, hk1⟩ | ⟨h1, rfl, hk1⟩)
  rotate_left
  · have HF : Hid (DcPost T S Q bs g c most out w R (gaveUp 10) w1) := .inr ⟨10, by rw [← HR.out]; unfold dynH; rw [h1], by omega, rfl, hk1⟩
    clear HR hE hO hC hk1 h1
    gi_wp2
    exact HF.out
  have hal : a < 32 := takeS_lt hb (by omega) h1
  have hE1 := hE.kept hk1
  have HN : Hid _ := number_s 5 (by omega) w1 hE1 hs1
  gi_wp2_with fail
  refine ⟨trivial, (callsIn_wide.2 HN.out).mono ?_⟩
  clear HN hs1
  rintro e w2 (⟨b, p2, h2, hb2, rfl, hs2, hk2⟩ | ⟨h2, rfl, hk2⟩)
  rotate_left
  · have HF : Hid (DcPost T S Q bs g c most out w R (gaveUp 10) w2) := .inr ⟨10, by rw [← HR.out]; unfold dynH; rw [h1]; simp only [h2], by omega, rfl, hk1.trans hk2⟩
    clear HR hE hO hC hk1 h1 hk2 h2 hE1
    gi_wp2
    exact HF.out
  have hbl : b < 32 := takeS_lt hb (by omega) h2
  have hE2 := hE1.kept hk2
  have HN : Hid _ := number_s 4 (by omega) w2 hE2 hs2
  gi_wp2_with fail
  refine ⟨trivial, (callsIn_wide.2 HN.out).mono ?_⟩
  clear HN hs2
  rintro e w3 (⟨cc, p3, h3, hc3, rfl, hs3, hk3⟩ | ⟨h3, rfl, hk3⟩)
  rotate_left
  · have HF : Hid (DcPost T S Q bs g c most out w R (gaveUp 10) w3) := .inr ⟨10, by rw [← HR.out]; unfold dynH; rw [h1]; simp only [h2, h3], by omega, rfl, (hk1.trans hk2).trans hk3⟩
    clear HR hE hO hC hk1 h1 hk2 h2 hE1 hk3 h3 hE2
    gi_wp2
    exact HF.out
  have hcl : cc < 16 := takeS_lt hb (by omega) h3
  have hk03 := (hk1.trans hk2).trans hk3
  have HX : Hid (R = if 286 < 257 + a ∨ 30 < 1 + b then .error 12 else dynT bs a b cc p3) := by
    show _ = _
    rw [← HR.out]
    unfold dynH
    rw [h1]
    simp only [h2, h3]
  clear HR h1 h2 h3 hE1 hE2 hk1 hk2 hk3 ha hb2 hc3
  by_cases hbig : 286 < 257 + a ∨ 30 < 1 + b
  · have HF : Hid (DcPost T S Q bs g c most out w R (gaveUp 12) w3) := .inr ⟨12, HX.out.trans (if_pos hbig), by omega, rfl, hk03⟩
    clear HX hE hO hC hk03 hs3
    by_cases hb1 : 286 < 257 + a
    · have t1 : (286 : Int) < 257 + (a : Int) := by omega
      gi_wp2
      exact HF.out
    · have t1 : ¬ (286 : Int) < 257 + (a : Int) := by omega
      have t2 : (30 : Int) < 1 + (b : Int) := by omega
      gi_wp2
      exact HF.out
  have t1 : ¬ (286 : Int) < 257 + (a : Int) := by omega
  have t2 : ¬ (30 : Int) < 1 + (b : Int) := by omega
  have hE3 := hE.kept hk03
  have hO3 := hO.kept hk03
  have hC3 := hC.kept hk03
  have HY : Hid (R = dynT bs a b cc p3) := HX.out.trans (if_neg hbig)
  obtain ⟨hS3, hQ3⟩ := hs3.lts
  obtain ⟨B7, hB7⟩ : ∃ B7, w3.heap.size = B7 := ⟨_, rfl⟩
  obtain ⟨w4, hw4⟩ : ∃ w4, w3.alloc (.cells #[.slice none 0 0] 32) = w4 := ⟨_, rfl⟩
  have hR4 : Row w4 B7 32 #[.slice none 0 0] := by rw [← hw4, ← hB7]; exact Row.new w3 32 _
  have hs4 : PAt T S Q bs g c most l d p3 out w4 := by rw [← hw4]; exact hs3.alloc _
  have hk4 : Kept T w3 w4 := by rw [← hw4]; exact (Kept.refl T w3).alloc hE3.lt _
  have hE4 := hE3.kept hk4
  have hO4 := hO3.kept hk4
  have hC4 := hC3.kept hk4
  have hk04 := hk03.trans hk4
  have HL : Hid (Calls Tryd.prog 57 #[.pointer (some ⟨S, 0, none⟩), .int .i64 (4 + (cc : Int))] w4 _) := lengthCodes_r (T := fun k => T k ∨ k = B7) (4 + cc) (by omega) (clS bs (4 + cc) 0 p3 (List.replicate 19 0)) rfl w4 (hE4.add hR4.lt (by omega) (by omega)) (hs4.add hR4 (by decide)) (hO4.mono (fun k hk => .inl hk))
  have HB7 : Hid (T B7 → False) := fun h => by have := hE3.lt B7 h; omega
  have HB7l : Hid (B7 = w3.heap.size) := hB7.symm
  clear hbig hs4 HX
  gi_wp2_with fail
  refine ⟨trivial, (callsIn_wide.2 HL.out).mono ?_⟩
  clear HL hw4 hB7
  rintro e w5 (⟨p4, cl, DZ, T', hcl4, hfu, hcl19, rfl, hT', hE5, hs5, hDZ, hk5⟩ | ⟨er, hcl4, hne, rfl, hk5⟩)
  rotate_left
  · have HF : Hid (DcPost T S Q bs g c most out w R (gaveUp er) w5) := by
      refine .inr ⟨er, ?_, hne, rfl, hk04.trans (hk5.mono (fun k hk => .inl hk))⟩
      rw [HY.out, dynT]
      rcases hcl4 with h | ⟨rfl, p, cl, h, hf⟩
      · rw [h]
      · rw [h]
        simp only [hf, if_true]
    clear HY hE hO hC hk03 hE3 hO3 hC3 hk4 hE4 hO4 hC4 hk04 hk5 hs3 hR4 hcl4
    gi_wp2
    exact HF.out
  have hR5 := hR4.kept hk5 (.inr rfl)
  have hk05 := hk04.trans (hk5.mono (fun k hk => .inl hk))
  have HZ : Hid (R = match rowS cl bs (257 + a + (1 + b)) (8 * bs.length + 1) p4 [] with | .error e => .error e | .ok (pos, row) => splitS a pos row) := by
    show _ = _
    rw [HY.out, dynT, hcl4]
    simp only [hfu]
    rfl
  clear HY hcl4 hk03 hE3 hO3 hC3 hk4 hE4 hO4 hC4 hk04 hk5 hs3 hR4
  gi_wp2_with fail
  refine ⟨trivial, (callsIn_wide.2 (runs_in S DZ _ w5)).mono ?_⟩
  rintro e w6 ⟨rfl, hw6⟩
  obtain ⟨hS5, hQ5⟩ := hs5.lts
  have hB5 := hR5.lt
  have hsz : w5.heap.size + 3 ≤ w6.heap.size ∧ w6.heap.size ≤ w5.heap.size + 3 := by rw [hw6]; simp
  have hb56 : Below w5.heap.size w5 w6 := by rw [hw6]; exact (((Below.refl _ w5).alloc (Nat.le_refl _) _).alloc (by simp) _).alloc (by simp; omega) _
  have x2 : w6.cell? ⟨w5.heap.size, 0, none⟩ = some (.pointer (some ⟨S, 0, none⟩)) := by
    rw [hw6]
    exact (((Row.new w5 37 #[.pointer (some ⟨S, 0, none⟩)]).alloc _).alloc _).cell rfl
  have x3 : w6.cell? ⟨w5.heap.size + 1, 0, none⟩ = some (.pointer (some ⟨DZ, 0, none⟩)) := by
    have h9 := Row.new (w5.alloc (.cells #[.pointer (some ⟨S, 0, none⟩)] 37)) 40 #[.pointer (some ⟨DZ, 0, none⟩)]
    rw [World.size_alloc] at h9
    rw [hw6]
    exact (h9.alloc _).cell rfl
  have x1 : w6.cell? ⟨w5.heap.size + 1 + 1, 0, none⟩ = some (.int .i64 ((257 + a + (1 + b) : Nat) : Int)) := by
    have h9 := Row.new ((w5.alloc (.cells #[.pointer (some ⟨S, 0, none⟩)] 37)).alloc (.cells #[.pointer (some ⟨DZ, 0, none⟩)] 40)) 3 #[.int .i64 (257 + (a : Int) + (1 + (b : Int)))]
    rw [World.size_alloc, World.size_alloc] at h9
    rw [hw6, show ((257 + a + (1 + b) : Nat) : Int) = 257 + (a : Int) + (1 + (b : Int)) by omega]
    exact h9.cell rfl
  have HW6 : Hid (w6 = ((w5.alloc (.cells #[.pointer (some ⟨S, 0, none⟩)] 37)).alloc (.cells #[.pointer (some ⟨DZ, 0, none⟩)] 40)).alloc (.cells #[.int .i64 (257 + (a : Int) + (1 + (b : Int)))] 3)) := hw6
  clear hw6
  have hB3l : w3.heap.size = B7 := HB7l.out.symm
  have hk56 : Kept T' w5 w6 := Kept.of_below hb56 hE5.lt
  have hk06 : Kept T w w6 := hk05.trans (hk56.mono (fun k hk => hT' k (.inl hk)))
  have hR6 : Row w6 B7 32 #[.slice none 0 0] := hR5.below hb56 hB5
  have hU : RSet (fun k => k < w6.heap.size ∧ k ≠ B7) S Q (w5.heap.size + 1 + 1) w5.heap.size (w5.heap.size + 1) := by
    obtain ⟨v, r1, r2, r3, r4, r5, r6⟩ := id hs5
    obtain ⟨n1, n2, n3⟩ := PAt.ne r1 r2 r3
    exact ⟨⟨by omega, by omega⟩, ⟨by omega, by omega⟩, ⟨by omega, by omega⟩, ⟨by omega, by omega⟩, ⟨by omega, by omega⟩, n1, by omega, by omega, by omega⟩
  have hDZ6 : DecIn (fun k => (k < w6.heap.size ∧ k ≠ B7) ∧ k ≠ Q) w6 DZ cl := by
    have h6 := hDZ.kept hk56
    obtain ⟨base, vd, d1, d2, d3⟩ := h6.dec
    refine ⟨h6.ok, ⟨⟨d1.lt, fun e => ?_⟩, fun e => hE5.nQ (e ▸ h6.inT)⟩, base, vd, d1, d2, fun k hk => ⟨⟨(d2.lt k hk).2, fun e => row_ne d2 hR6 (by decide) (e ▸ hk)⟩, fun e => hE5.nQ (e ▸ d3 k hk)⟩⟩
    have h9 : w6.heap[B7]? = _ := hR6
    rw [← e, show w6.heap[DZ]? = _ from d1] at h9
    simp at h9
  have hInv : RInv (fun k => k < w6.heap.size ∧ k ≠ B7) S Q bs g c (w5.heap.size + 1 + 1) w5.heap.size (w5.heap.size + 1) DZ (257 + a + (1 + b)) cl p4 w6 := by
    obtain ⟨v, r1, r2, r3, r4, r5, r6⟩ := id hs5
    exact ⟨(hb56.block Q hQ5).trans r2, r5, (r1.below hb56 hS5).cell rfl, x1, x2, x3, (hE.bytes.kept hk06).mono (fun k hk => ⟨⟨Nat.lt_of_lt_of_le (hE.lt k hk) hk06.size, fun e => HB7.out (e ▸ hk)⟩, fun e => hE.nQ (e ▸ hk)⟩), hDZ6, fun k hk => hk.1⟩
  clear x1 x2 x3
  clear HW6
  gi_wp2_with fail
  refine wpIn_range_P (F := Fence.wide) rfl (by omega) (gf := 73) (lb := #[.pointer (some ⟨w5.heap.size + 1 + 1, 0, none⟩), .pointer (some ⟨w5.heap.size, 0, none⟩), .pointer (some ⟨w5.heap.size + 1, 0, none⟩)]) rfl trivial (enters_of Tryd.func73 (by kernel_rfl) rfl)
    (runs_seq (6 - 1) (fun k => k < w6.heap.size ∧ k ≠ B7) S Q bs g c (w5.heap.size + 1 + 1) w5.heap.size (w5.heap.size + 1) DZ (257 + a + (1 + b)) p4 cl hU hb hE.len (by omega) hcl19 (rowS cl bs (257 + a + (1 + b)) (8 * bs.length + 1) p4 []) rfl w6 (fun k h => h.1) hInv)
    (fun k h => h.1) (by omega) (fun xs V V' h hk => by obtain ⟨p, e1, e2⟩ := h; exact ⟨p, e1, e2.kept hU hk⟩) (fun _ => rfl)
    (fun pre W => (∃ v, Row W B7 32 #[v] ∧ W.ownsRow w6.heap.size 3 1 v (flat pre).length ((flat pre).map (Value.int .i64))) ∧ Kept (fun k => k < w6.heap.size ∧ k ≠ B7 ∧ k ≠ Q) w6 W)
    ?stable ⟨⟨_, hR6, World.ownsRow_nil _ _ _ _⟩, Kept.refl _ _⟩
    (fun x => { tmps := #[.pointer (some ⟨S, 0, none⟩), undef, .pointer none, .pointer none, .int .i64 (257 + (a : Int)), .int .i64 (1 + (b : Int)), .int .i64 (4 + (cc : Int)), .pointer (some ⟨B7, 0, none⟩), .int .i64 x.1, .int .i64 (x.2 : Int), .pointer (some ⟨S, 0, none⟩), .int .i64 (a : Int), .int .i64 (257 + (a : Int)), .pointer (some ⟨S, 0, none⟩), .int .i64 (b : Int), .int .i64 (1 + (b : Int)), .pointer (some ⟨S, 0, none⟩), .int .i64 (cc : Int), .int .i64 (4 + (cc : Int)), .int .i64 (257 + (a : Int)), .bool (decide ((286 : Int) < 257 + (a : Int))), .bool (decide ((286 : Int) < 257 + (a : Int))), .int .i64 (1 + (b : Int)), .bool (decide ((30 : Int) < 1 + (b : Int))), .bool (decide ((286 : Int) < 257 + (a : Int)) || decide ((30 : Int) < 1 + (b : Int))), undef, .pointer (some ⟨S, 0, none⟩), .pointer (some ⟨S, 0, none⟩), .int .i64 (4 + (cc : Int)), .pointer (some ⟨DZ, 0, none⟩), .int .i64 (257 + (a : Int)), .int .i64 (1 + (b : Int)), .int .i64 (257 + (a : Int) + (1 + (b : Int))), .func (.func 73) #[] #[.pointer (some ⟨w5.heap.size + 1 + 1, 0, none⟩), .pointer (some ⟨w5.heap.size, 0, none⟩), .pointer (some ⟨w5.heap.size + 1, 0, none⟩)], .int .i64 x.1, .int .i64 (x.2 : Int), undef, undef, undef, undef, undef, undef, undef, undef, undef, undef, undef, undef, undef, undef, undef, undef, undef, undef, undef, undef, undef, undef, undef, undef, undef, undef, undef, undef, undef], defers := [] }) ?assign ?body ?done ?fail
  case stable =>
    rintro pre V V' ⟨⟨v, h1, h2⟩, h3⟩ hm
    refine ⟨⟨v, hm.block _ _ h1 (by omega) (.inl rfl), ⟨h2.1, h2.2.imp id ?_⟩⟩, h3.trans (hm.kept (fun k hk => ⟨hk.1, hk.2.2, Nat.lt_of_lt_of_le hk.1 h3.size⟩))⟩
    rintro ⟨g9, cap9, cur9, e1, e2, e3, e4⟩
    exact ⟨g9, cap9, cur9, e1, e2, hm.block _ _ e3 (by omega) (.inl rfl), e4⟩
  case assign =>
    intro l0 x W K hK
    gi_wp2
    exact hK
  case body =>
    rintro l0 pre x W ⟨⟨v, hRv, hov⟩, hkW⟩ hRx
    have hxl : (flat pre).length + x.2 ≤ 257 + a + (1 + b) := hRx
    have hws := hkW.size
    obtain ⟨i0, hi0, hz0, hz1, hz2⟩ := info_parts Tryd.info3'
    have HE : Hid (∀ (v : Value) (wr : World), Row wr B7 32 #[v] → wr.ownsRow w6.heap.size 3 1 v ((flat pre).length + x.2) ((flat pre ++ List.replicate x.2 x.1).map (Value.int .i64)) → Kept (fun k => k < w6.heap.size ∧ k ≠ B7) W wr →
        (∃ v, Row wr B7 32 #[v] ∧ wr.ownsRow w6.heap.size 3 1 v (flat (pre ++ [x])).length ((flat (pre ++ [x])).map (Value.int .i64))) ∧ Kept (fun k => k < w6.heap.size ∧ k ≠ B7 ∧ k ≠ Q) w6 wr) := by
      intro v wr h1 h2 h3
      refine ⟨⟨v, h1, ?_⟩, hkW.trans (h3.mono (fun k hk => ⟨hk.1, hk.2.1⟩))⟩
      rw [flat_snoc, List.length_append, List.length_replicate]
      exact h2
    generalize hfl : flat pre = fl at hov HE hxl
    clear hfl HZ hE hO hC hk05 hk06 hkW hInv hDZ6 hs5 hE5 hDZ hR5 hR6 hk56 hb56 hU hRx
    gi_wp2
    gi_loopw [37] (fun v37 wr => ∃ i : Nat, i ≤ x.2 ∧ v37 = .int .i64 (i : Int) ∧ (∃ v, Row wr B7 32 #[v] ∧ wr.ownsRow w6.heap.size 3 1 v (fl.length + i) ((fl ++ List.replicate i x.1).map (Value.int .i64))) ∧ KeepsFrom w6.heap.size W wr ∧ Kept (fun k => k < w6.heap.size ∧ k ≠ B7) W wr) (fun v37 _ => x.2 - (intOf v37).toNat)
    case atStart => exact ⟨0, by omega, rfl, ⟨v, hRv, by simpa using hov⟩, KeepsFrom.refl _ _, Kept.refl _ _⟩
    case round =>
      clear hRv hov v
      obtain ⟨i, hi, rfl, ⟨v, hR, ho⟩, hkf, hku⟩ := hrel
      by_cases hlt : i < x.2
      · obtain ⟨gu, cu, rfl⟩ := owns_form ho
        have cB := hR.cell (i := 0) (v := .slice gu (fl.length + i) cu) rfl
        have HO : Hid (wr.ownsRow w6.heap.size 3 1 (.slice gu (fl.length + i) cu) (fl.length + i) ((fl ++ List.replicate i x.1).map (Value.int .i64))) := ho
        have hwr := hku.size
        have HF : Hid (∀ (o : Obj) (v' : Value) (w9 : World), w9.ownsRow w6.heap.size 3 1 v' (fl.length + i + 1) ((fl ++ List.replicate i x.1).map (Value.int .i64) ++ [.int .i64 x.1]) → (wr.alloc o).grownBy w9 (Value.slice gu (fl.length + i) cu).ownBlock →
            w9.cell? ⟨B7, 0, none⟩ = some (.slice gu (fl.length + i) cu) ∧ w9.frozen? ⟨B7, 0, none⟩ = false ∧ (∃ v, Row (w9.setCell ⟨B7, 0, none⟩ v') B7 32 #[v] ∧ (w9.setCell ⟨B7, 0, none⟩ v').ownsRow w6.heap.size 3 1 v (fl.length + (i + 1)) ((fl ++ List.replicate (i + 1) x.1).map (Value.int .i64))) ∧ KeepsFrom w6.heap.size W (w9.setCell ⟨B7, 0, none⟩ v') ∧ Kept (fun k => k < w6.heap.size ∧ k ≠ B7) W (w9.setCell ⟨B7, 0, none⟩ v')) := by
          intro o v' w9 h9 hg
          have hne := row_ne ho hR (by decide)
          have hR9 : Row w9 B7 32 #[.slice gu (fl.length + i) cu] := (hg.block _ (by rw [World.size_alloc]; have := hR.lt; omega) (fun e => hne e.symm)).trans (hR.alloc _)
          have hko : KeepsOthers wr w9 := (KeepsOthers.alloc wr _).trans (KeepsOthers.of_grownBy hg (fun j o hj ho' => owns_cells (ho.alloc _) j o hj ho'))
          have hk9 : Kept (fun k => k < w6.heap.size ∧ k ≠ B7) wr w9 := ((Kept.refl _ wr).alloc (fun k hk => by have := hk.1; omega) _).grown hg (fun k hk => by rw [World.size_alloc]; have := hk.1; omega) (fun r e hr => by have := (ho.lt r e).1; have := hr.1; omega)
          have hne' := row_ne h9 hR9 (by decide)
          refine ⟨hR9.cell rfl, hR9.frozen 0, ⟨v', by simpa using hR9.set 0 v', ?_⟩, hkf.trans ((hko.trans (KeepsOthers.setCell _ _ _)).from _), (hku.trans hk9).setCell (p := ⟨B7, 0, none⟩) (by simp) _⟩
          have h10 := owns_kept h9 ((Kept.refl (fun k => k ≠ B7) w9).setCell (p := ⟨B7, 0, none⟩) (by simp) v') (fun k hk e => hne' (e ▸ hk))
          rw [List.replicate_succ', ← List.append_assoc, List.map_append]
          exact h10
        clear hR ho hkf hku HE
        gi_wp2_with (gi_at_builtin; refine wpListIn_append_own2 _ rfl (.tmp 39) (.tmp 41) 32 rfl w6.heap.size 3 i0 (.int .i64 0) 1 8 Tryd.underlying32 hi0 hz0 hz1 hz2 rfl (by decide) _ _ _ rfl (HO.out.alloc _) ⟨wr.heap.size, 0, none⟩ 1 1 [.int .i64 x.1] rfl rfl (cell_one_new _ _ _) (by simp [Value.oneCell']) (by unfold maxLen; omega) (by omega) (by simp; omega) ?_)
        intro v' w9 h9 hg _
        obtain ⟨g9, c9, rfl⟩ := owns_form h9
        obtain ⟨a1, a2, a3, a4, a5⟩ := HF.out _ _ w9 (by simpa using h9) hg
        have HA : Hid _ := And.intro a3 (And.intro a4 a5)
        clear HF HO h9 hg a3 a4 a5
        gi_wp2
        exact ⟨⟨i + 1, by omega, by go_num, HA.out.1, HA.out.2.1, HA.out.2.2⟩, by simp [intOf]; omega⟩
      · obtain rfl : i = x.2 := by omega
        have HX : Hid _ := And.intro hkf (And.intro hku (HE.out v wr hR ho hku))
        clear hR ho hkf hku HE
        gi_wp2
        exact ⟨HX.out.1, HX.out.2.1, HX.out.2.2⟩
  case done =>
    rintro D xs W hD ⟨p5, hrow, hIW⟩ ⟨⟨v, hRv, hov⟩, hkW⟩ hK
    have hlen := rowS_len _ _ _ _ _ hrow (by simp)
    have HZ2 : Hid (R = splitS a p5 (flat xs)) := by
      show _ = _
      rw [HZ.out, hrow]
    have hDW : D < W.heap.size := (Array.getElem?_eq_some_iff.1 hK).1
    have hk0W : Kept T w W := hk06.trans (hkW.mono (fun k hk => ⟨Nat.lt_of_lt_of_le (hE.lt k hk) hk06.size, fun e => HB7.out (e ▸ hk), fun e => hE.nQ (e ▸ hk)⟩))
    have hEW : PEnv (fun k => T k ∧ k ≠ D) S Q bs g c most W := by
      have := hE.kept hk0W
      exact ⟨fun k hk => this.lt k hk.1, fun h => this.nS h.1, fun h => this.nQ h.1, this.bytes.mono (fun k hk => ⟨hk, fun e => by have := hE.lt k hk; have := hk06.size; omega⟩), this.are, this.len, this.cap, this.nil, this.big⟩
    have hsW : PAt (fun k => T k ∧ k ≠ D) S Q bs g c most l d p5 out W := by
      obtain ⟨v5, r1, r2, r3, r4, r5, r6⟩ := hs5
      obtain ⟨n1, n2, n3⟩ := PAt.ne r1 r2 r3
      have hko : ∀ k, v5.ownBlock = some k → k ≠ B7 := fun k hk e => row_ne r3 hR5 (by decide) (e ▸ hk)
      have k5W : Kept (fun k => k < w5.heap.size ∧ k ≠ B7 ∧ k ≠ Q) w5 W := (Kept.of_below hb56 (fun k hk => hk.1)).trans (hkW.mono (fun k hk => ⟨by have := hk.1; omega, hk.2⟩))
      exact ⟨v5, r1.kept k5W ⟨hS5, by omega, n1⟩, hIW.rd, owns_kept r3 k5W (fun k hk => ⟨(r3.lt k hk).2, hko k hk, fun e => n3 (e ▸ hk)⟩), fun k hk hT => r4 k hk (hT' k (.inl hT.1)), hIW.hp, r6⟩
    have hCW : Cached (fun k => T k ∧ k ≠ D) W l d := (hC.kept hk0W).mono (fun k hk => ⟨hk, fun e => by have := hE.lt k hk; have := hk06.size; omega⟩)
    obtain ⟨hSW, hQW⟩ := hsW.lts
    generalize hfl : flat xs = row at hov hlen HZ2
    obtain ⟨gv, cv, rfl⟩ := owns_form hov
    obtain ⟨gb, cap, cur, hve, hbg, hgg, hnc, hcm, hcs, hct⟩ : ∃ gb cap cur, (Value.slice gv row.length cv) = .slice (some ⟨gb, 0, none⟩) row.length cap ∧ w6.heap.size ≤ gb ∧ W.heap[gb]? = some (.cells cur 3 (0, 0)) ∧ row.length ≤ cap ∧ cap ≤ maxLen ∧ cur.size = cap * 1 ∧ cur.toList.take (row.length * 1) = row.map (Value.int .i64) := by
      rcases hov.2 with ⟨_, h9⟩ | h9
      · omega
      · exact h9
    simp only [Value.slice.injEq, true_and] at hve
    obtain ⟨rfl, rfl⟩ := hve
    have hcell : ∀ j, j < row.length → W.cell? ⟨gb, j, none⟩ = some (.int .i64 (row[j]?.getD 0)) := by
      intro j hj
      have := hov.cells (g := gb) rfl j (.int .i64 (row[j]?.getD 0)) (by simp [hj])
      rwa [Go.WideShapes.add_plain, Nat.zero_add] at this
    have cB := hRv.cell (i := 0) (v := .slice (some ⟨gb, 0, none⟩) row.length cv) rfl
    have c256 := hcell 256 (by omega)
    have hgl : gb < W.heap.size := (Array.getElem?_eq_some_iff.1 hgg).1
    have hBl := hRv.lt
    have HD : Hid (∀ w9, Below W.heap.size W w9 → w9.heap[D]? = some (.deferred (some []))) := fun w9 h9 => (h9.block D hDW).trans hK
    have HErr : Hid (∀ er w9, Below W.heap.size W w9 → R = .error er → er ≠ 0 → DcPost T S Q bs g c most out w R (gaveUp er) (w9.putObj D (.deferred none))) := by
      intro er w9 h9 he hne
      refine .inr ⟨er, he, hne, rfl, (hk0W.trans (Kept.of_below h9 (fun k hk => (hE.kept hk0W).lt k hk))).trans (Kept.putObj _ D _ (fun h => ?_))⟩
      have := hE.lt D h
      have := hk06.size
      omega
    have hi1 : IntsIn (· < W.heap.size) W (.slice (some ⟨gb, 0, none⟩) (row.take (257 + a)).length cv) (row.take (257 + a)) :=
      .inr ⟨gb, 0, cv, rfl, hgl, fun j hj => by
        have hj' : j < 257 + a ∧ j < row.length := by rw [List.length_take] at hj; omega
        rw [Nat.zero_add, hcell j hj'.2, List.getElem?_take_of_lt hj'.1]⟩
    have hi2 : IntsIn (· < W.heap.size) W (.slice (some ⟨gb, 257 + a, none⟩) (row.drop (257 + a)).length (cv - (257 + a))) (row.drop (257 + a)) :=
      .inr ⟨gb, 257 + a, cv - (257 + a), rfl, hgl, fun j hj => by
        have hj' : 257 + a + j < row.length := by simp at hj; omega
        rw [hcell (257 + a + j) hj', List.getElem?_drop]⟩
    have hl1 : (row.take (257 + a)).length = 257 + a := by simp; omega
    have hl2 : (row.drop (257 + a)).length = 1 + b := by simp; omega
    by_cases h256 : row[256]?.getD 0 = 0
    · have HF : Hid _ := HErr.out 12 W (Below.refl _ _) (by rw [HZ2.out, splitS, if_pos h256]) (by omega)
      have HK := HD.out W (Below.refl _ _)
      rw [h256] at c256
      clear HZ HZ2 hE hO hC hk05 hk06 hkW hInv hDZ6 hs5 hE5 hDZ hR5 hR6 hk56 hb56 hU hIW hov hRv hrow hk0W hEW hsW hCW HErr HD hi1 hi2 hcell hgg hct hK
      gi_wp2
      exact ⟨by simp, .inl ⟨_, _, rfl, run_takeDeferred HK, HF.out⟩⟩
    have t5 : ((row[256]?.getD 0 : Int) == 0) = false := by simpa using h256
    have HN1 : Hid (Calls Tryd.prog 55 #[.slice (some ⟨gb, 0, none⟩) (257 + a) cv] W fun e w' => Below W.heap.size W w' ∧ ((errOf (row.take (257 + a)) ≠ 0 ∧ e = .returned (.tuple #[.pointer none, .int .i64 (errOf (row.take (257 + a)))])) ∨ (errOf (row.take (257 + a)) = 0 ∧ ∃ D, e = .returned (.tuple #[.pointer (some ⟨D, 0, none⟩), .int .i64 0]) ∧ W.heap.size ≤ D ∧ DecAt W.heap.size (row.take (257 + a)) 15 D w'))) := by
      have := new_any (· < W.heap.size) (some ⟨gb, 0, none⟩) cv (row.take (257 + a)) W (fun _ h => h) hi1
      rw [hl1] at this
      exact this
    have HC1 : Hid (∀ w9, Below W.heap.size W w9 → w9.cell? ⟨B7, 0, none⟩ = some (.slice (some ⟨gb, 0, none⟩) row.length cv) ∧ Calls Tryd.prog 55 #[.slice (some ⟨gb, 257 + a, none⟩) (1 + b) (cv - (257 + a))] w9 fun e w' => Below w9.heap.size w9 w' ∧ ((errOf (row.drop (257 + a)) ≠ 0 ∧ e = .returned (.tuple #[.pointer none, .int .i64 (errOf (row.drop (257 + a)))])) ∨ (errOf (row.drop (257 + a)) = 0 ∧ ∃ D, e = .returned (.tuple #[.pointer (some ⟨D, 0, none⟩), .int .i64 0]) ∧ w9.heap.size ≤ D ∧ DecAt w9.heap.size (row.drop (257 + a)) 15 D w'))) := by
      intro w9 h9
      refine ⟨(hRv.below h9 hBl).cell rfl, ?_⟩
      have := new_any (· < w9.heap.size) (some ⟨gb, 257 + a, none⟩) (cv - (257 + a)) (row.drop (257 + a)) w9 (fun _ h => h) ((hi2.kept (Kept.of_below h9 (fun _ h => h))).mono (fun k (h : k < _) => Nat.lt_of_lt_of_le h h9.size))
      rw [hl2] at this
      exact this
    have HFin : Hid (∀ LD DD w8 w9, Below W.heap.size W w8 → Below w8.heap.size w8 w9 → errOf (row.take (257 + a)) = 0 → errOf (row.drop (257 + a)) = 0 → W.heap.size ≤ LD → DecAt W.heap.size (row.take (257 + a)) 15 LD w8 → w8.heap.size ≤ DD → DecAt w8.heap.size (row.drop (257 + a)) 15 DD w9 →
        DcPost T S Q bs g c most out w R (.returned (.tuple #[.pointer (some ⟨LD, 0, none⟩), .pointer (some ⟨DD, 0, none⟩)])) (w9.putObj D (.deferred none))) := by
      intro LD DD w8 w9 b8 b9 o1 o2 hLD d1 hDD d2
      have b89 : Below W.heap.size W w9 := b8.trans (b9.mono b8.size)
      have hE9 := hEW.below hSW hQW b89
      have hs9 := hsW.below b89
      have hL8 : DecIn (upTo (fun k => T k ∧ k ≠ D) W w8) w8 LD (row.take (257 + a)) := d1.decIn o1 (Nat.le_refl _) hLD
      have hL9 : DecIn (upTo (fun k => T k ∧ k ≠ D) W w9) w9 LD (row.take (257 + a)) := by
        refine (hL8.kept (Kept.of_below b9 (fun k hk => hk.elim (fun h => ?_) (fun h => h.2)))).mono (fun k hk => hk.imp id (fun h => ⟨h.1, Nat.lt_of_lt_of_le h.2 b9.size⟩))
        exact Nat.lt_of_lt_of_le (hEW.lt k h) b8.size
      have hD9 : DecIn (upTo (fun k => T k ∧ k ≠ D) W w9) w9 DD (row.drop (257 + a)) := d2.decIn o2 b8.size hDD
      have hC9 : Cached (upTo (fun k => T k ∧ k ≠ D) W w9) w9 l d := (hCW.kept (Kept.of_below b89 hEW.lt)).mono (fun k hk => .inl hk)
      have hDn : ¬ upTo (fun k => T k ∧ k ≠ D) W w9 D := fun h => h.elim (fun h => h.2 rfl) (fun h => by omega)
      have kD : Kept (upTo (fun k => T k ∧ k ≠ D) W w9) w9 (w9.putObj D (.deferred none)) := Kept.putObj _ D _ hDn
      have hD9o := HD.out w9 b89
      have hs10 : PAt (upTo (fun k => T k ∧ k ≠ D) W w9) S Q bs g c most l d p5 out (w9.putObj D (.deferred none)) := by
        obtain ⟨v5, r1, r2, r3, r4, r5, r6⟩ := hs9
        have kN : Kept (fun k => k ≠ D) w9 (w9.putObj D (.deferred none)) := Kept.putObj _ D _ (by simp)
        have nS : S ≠ D := fun e => by rw [← e, show w9.heap[S]? = _ from r1] at hD9o; simp at hD9o
        have nQ : Q ≠ D := fun e => by rw [← e, show w9.heap[Q]? = _ from r2] at hD9o; simp at hD9o
        refine ⟨v5, r1.kept kN nS, r2.kept kN nQ, owns_kept r3 kN (fun k hk e => ?_), r4, r5, r6⟩
        rcases r3.2 with ⟨rfl, _⟩ | ⟨g5, _, _, rfl, _, hg5, _⟩
        · simp [Value.ownBlock] at hk
        · simp only [Value.ownBlock, Option.some.injEq] at hk
          rw [← e, ← hk, hg5] at hD9o
          simp at hD9o
      refine .inl ⟨_, _, p5, by rw [HZ2.out, splitS, if_neg h256, if_neg (fun h => h o1), if_neg (fun h => h o2)], ?_⟩
      refine ⟨_, LD, DD, l, d, fun k hk => .inl ⟨hk, fun e => by have := hE.lt k hk; have := hk06.size; omega⟩, rfl, hE9.kept kD, hs10, hL9.kept kD, hD9.kept kD, hC9.kept kD, (hk0W.trans (Kept.of_below b89 (fun k hk => (hE.kept hk0W).lt k hk))).trans (Kept.putObj _ D _ (fun h => by have := hE.lt D h; have := hk06.size; omega))⟩
    have HE1 : Hid (∀ w9, Below W.heap.size W w9 → errOf (row.take (257 + a)) ≠ 0 → DcPost T S Q bs g c most out w R (gaveUp (errOf (row.take (257 + a)))) (w9.putObj D (.deferred none))) := fun w9 h9 hne =>
      HErr.out _ w9 h9 (by rw [HZ2.out, splitS, if_neg h256, if_pos hne]) hne
    have HE2 : Hid (∀ w9, Below W.heap.size W w9 → errOf (row.take (257 + a)) = 0 → errOf (row.drop (257 + a)) ≠ 0 → DcPost T S Q bs g c most out w R (gaveUp (errOf (row.drop (257 + a)))) (w9.putObj D (.deferred none))) := fun w9 h9 h0 hne =>
      HErr.out _ w9 h9 (by rw [HZ2.out, splitS, if_neg h256, if_neg (fun h => h h0), if_pos hne]) hne
    clear HZ HZ2 hE hO hC hk05 hk06 hkW hInv hDZ6 hs5 hE5 hDZ hR5 hR6 hk56 hb56 hU hIW hov hRv hrow hk0W hEW hsW hCW HErr hi1 hi2 hcell hgg hct hK
    generalize errOf (row.take (257 + a)) = e1 at *
    generalize errOf (row.drop (257 + a)) = e2 at *
    gi_wp2_with fail
    refine ⟨trivial, (callsIn_wide.2 HN1.out).mono ?_⟩
    clear HN1
    rintro e w8 ⟨hb8, (⟨hne, rfl⟩ | ⟨ho1, LD, rfl, hLD, hd1⟩)⟩
    · have HF : Hid _ := HE1.out w8 hb8 hne
      have HK := HD.out w8 hb8
      clear HE1 HE2 HFin HC1 HD hb8
      gi_wp2_with fail
      refine ⟨trivial, (callsIn_wide.2 (needD_err _ _ hne _)).mono ?_⟩
      rintro e w9 ⟨rfl, rfl⟩
      gi_wp2
      exact ⟨by simp, .inl ⟨_, _, rfl, run_takeDeferred HK, HF.out⟩⟩
    gi_wp2_with fail
    refine ⟨trivial, (callsIn_wide.2 (needD_ok _ _)).mono ?_⟩
    rintro e w8' ⟨rfl, hw8⟩
    subst hw8
    obtain ⟨cB8, hcall⟩ := HC1.out _ hb8
    have HN2 : Hid _ := hcall
    clear HC1 hcall cB
    gi_wp2_with fail
    refine ⟨trivial, (callsIn_wide.2 HN2.out).mono ?_⟩
    clear HN2
    rintro e w9 ⟨hb9, (⟨hne, rfl⟩ | ⟨ho2, DD, rfl, hDD, hd2⟩)⟩
    · have HF : Hid _ := HE2.out w9 (hb8.trans (hb9.mono hb8.size)) ho1 hne
      have HK := HD.out w9 (hb8.trans (hb9.mono hb8.size))
      clear HE1 HE2 HFin HD hb8 hb9
      gi_wp2_with fail
      refine ⟨trivial, (callsIn_wide.2 (needD_err _ _ hne _)).mono ?_⟩
      rintro e w10 ⟨rfl, rfl⟩
      gi_wp2
      exact ⟨by simp, .inl ⟨_, _, rfl, run_takeDeferred HK, HF.out⟩⟩
    have HF : Hid _ := HFin.out LD DD _ w9 hb8 hb9 ho1 ho2 hLD hd1 hDD hd2
    have HK := HD.out w9 (hb8.trans (hb9.mono hb8.size))
    clear HE1 HE2 HFin HD hb8 hb9 hd1 hd2
    gi_wp2_with fail
    refine ⟨trivial, (callsIn_wide.2 (needD_ok _ _)).mono ?_⟩
    rintro e w10 ⟨rfl, rfl⟩
    gi_wp2
    refine ⟨by simp, .inl ⟨_, _, rfl, run_takeDeferred HK, ?_⟩⟩
    exact ⟨_, by simp [results, Tryd.f36, go_sem], HF.out⟩
  case fail =>
    rintro D er pre W hD ⟨hr, hne⟩ ⟨_, hkW⟩ hK
    have HF : Hid (DcPost T S Q bs g c most out w R (gaveUp er) (W.putObj D (.deferred none))) := by
      refine .inr ⟨er, by rw [HZ.out, hr], hne, rfl, ?_⟩
      refine (hk06.trans (hkW.mono (fun k hk => ⟨Nat.lt_of_lt_of_le (hE.lt k hk) hk06.size, fun e => HB7.out (e ▸ hk), fun e => hE.nQ (e ▸ hk)⟩))).trans (Kept.putObj _ D _ (fun h => ?_))
      have := hE.lt D h
      have := hk06.size
      omega
    clear HZ hE hO hC hk05 hk06 hkW hInv hDZ6 hs5 hE5 hDZ hR5 hR6 hk56 hb56 hU
    gi_wp2
    exact ⟨by simp, .inl ⟨_, _, rfl, run_takeDeferred hK, HF.out⟩⟩
end Go.Proofs.YtiheajlgaehfmaaDoor
