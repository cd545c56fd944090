import Derived.Test.YtiheajlgaehfmaaDoorIbl
import Derived.Test.YtiheajlgaehfmaaDoorPin
import Derived.Test.YtiheajlgaehfmaaDoorPszM
import Derived.Test.YtiheajlgaehfmaaDoorPszM
import Derived.BigQuiet
import Derived.Deep.QuietTactic
/- The document's Inflate. -/
namespace Go.Proofs.YtiheajlgaehfmaaDoor
open Go.RowKit

def inflR (x : Except Int (Nat × List Int)) : Except Int (List Int × Nat) := match x with
  | .error e => .error e
  | .ok (pos, out) => .ok (out, (pos + 7) / 8)
theorem inflS_fuel (bs : List Int) (most : Nat) : inflateS bs (most : Int) = inflR (inflS bs most (8 * bs.length + 1) 0 []) := by
  unfold inflateS
  rw [if_neg (by omega), Int.toNat_natCast]
  cases inflS bs most (8 * bs.length + 1) 0 [] <;> rfl

set_option maxRecDepth 100000 in
set_option maxHeartbeats 4000000 in
theorem refInflate_some (a : Option Addr) (cap : Nat) (bs : List Int) (most : Nat) (hmost : most ≤ 65536) (w : World) (hb : AreBytes bs) (hl : bs.length ≤ 140737488351232) (hI : BytesIn (fun k => k < w.heap.size) w (.slice a bs.length cap) bs) (hcap : bs.length ≤ cap) (hnil : a = none → cap = 0) :
    Calls Tryd.prog 8 #[.slice a bs.length cap, .int .i64 (most : Int)] w (InPost w (inflateS bs (most : Int))) := by
  obtain ⟨w1, HW⟩ : ∃ w1, Hid ((w.alloc (.cells #[.slice a bs.length cap, .int .i64 0] 48)).alloc (.cells #[.pointer (some ⟨w.heap.size, 0, none⟩), .slice none 0 0, .int .i64 (most : Int)] 50) = w1) := ⟨_, rfl⟩
  obtain ⟨Q, HQ⟩ : ∃ Q, Hid (w.heap.size = Q) := ⟨_, rfl⟩
  obtain ⟨S, HS⟩ : ∃ S, Hid (w.heap.size + 1 = S) := ⟨_, rfl⟩
  have hsz : w1.heap.size = w.heap.size + 2 := by rw [← HW.out]; simp
  have hkw : Kept (fun k => k < w.heap.size) w w1 := HW.out ▸ ((Kept.refl _ w).alloc (fun k h => h) _).alloc (fun k (h : k < _) => by simp; omega) _
  have hQ2 : Two w1 Q 48 (.slice a bs.length cap) (.int .i64 0) := by rw [← HQ.out, ← HW.out]; exact (Two.new w 48 _ _).alloc _
  have hRS : Row w1 S 50 #[.pointer (some ⟨Q, 0, none⟩), .slice none 0 0, .int .i64 (most : Int)] := by
    have := Row.new (w.alloc (.cells #[.slice a bs.length cap, .int .i64 0] 48)) 50 #[.pointer (some ⟨w.heap.size, 0, none⟩), .slice none 0 0, .int .i64 (most : Int)]
    rw [World.size_alloc] at this
    rw [← HS.out, ← HW.out, ← HQ.out]
    exact this
  have hE1 : Env (fun k => k < w.heap.size) S Q bs a cap most w1 := ⟨fun k (h : k < _) => by omega, fun (h : S < _) => by have := HS.out; omega, fun (h : Q < _) => by have := HQ.out; omega, hI.kept hkw, hb, hl, hcap, hnil, hmost⟩
  have hs1 : StrAt (fun k => k < w.heap.size) S Q bs a cap most 0 [] w1 := ⟨.slice none 0 0, hRS, hQ2, World.ownsRow_nil _ _ _ _, fun k h => by simp [Value.ownBlock] at h, by omega⟩
  have HKW : Hid (Kept (fun k => k < w.heap.size) w w1) := hkw
  obtain ⟨RI, HRI⟩ : ∃ RI, Hid (inflS bs most (8 * bs.length + 1) 0 [] = RI) := ⟨_, rfl⟩
  have HRE : Hid (∀ er, RI = .error er → inflateS bs (most : Int) = .error er) := fun er h => by rw [inflS_fuel, HRI.out, h]; rfl
  have HRO : Hid (∀ p o, RI = .ok (p, o) → inflateS bs (most : Int) = .ok (o, (p + 7) / 8)) := fun p o h => by rw [inflS_fuel, HRI.out, h]; rfl
  obtain ⟨T, hT⟩ : ∃ T : Nat → Prop, T = fun k => k < w.heap.size := ⟨_, rfl⟩
  rw [← hT] at hE1 hs1 HKW
  have HEr : Hid (∀ er w', RI = .error er → er ≠ 0 → Kept T w1 w' → InPost w (inflateS bs (most : Int)) (.returned (.tuple #[.slice none 0 0, .int .i64 0, .int .i64 er])) w') := by
    intro er w' h hne hk
    refine ⟨(HKW.out.trans hk).below (fun k h => by rw [hT]; exact h), .inl ⟨er, HRE.out er h, hne, rfl⟩⟩
  have HOk : Hid (∀ p o w' g' c', RI = .ok (p, o) → o.length ≤ 65536 → p ≤ 8 * bs.length → w'.ownsRow 0 5 1 (.slice g' o.length c') o.length (o.map (Value.int .u8)) → Kept T w1 w' → InPost w (inflateS bs (most : Int)) (.returned (.tuple #[.slice g' o.length c', .int .i64 (((p + 7) / 8 : Nat) : Int), .int .i64 0])) w') := by
    intro p o w' g' c' h ho hp how hk
    exact ⟨(HKW.out.trans hk).below (fun k h => by rw [hT]; exact h), .inr ⟨o, (p + 7) / 8, g', c', HRO.out p o h, ho, by omega, rfl, bytesIn_of_owns _ how (fun k e => (how.lt k e).2)⟩⟩
  have HIE : Hid (inflateS bs (most : Int) = inflateS bs (most : Int)) := rfl
  generalize inflateS bs (most : Int) = RF at HEr HOk ⊢
  clear hkw hsz hRS hQ2 HRE HRO HKW hI hT HIE
  go_enter Tryd.func8, Tryd.ntmps8
  go_wp2_with fail
  rw [HW.out, HS.out]
  clear HW HS HQ
  go_loopw [9] (fun _ wr => ∃ (f pos : Nat) (out : List Int), Hid (inflS bs most f pos out = RI) ∧ 8 * bs.length + 1 ≤ f + pos ∧ out.length ≤ most ∧ StrAt T S Q bs a cap most pos out wr ∧ Kept T w1 wr) (fun _ wr => 8 * bs.length - posAt Q wr)
  case atStart => exact ⟨8 * bs.length + 1, 0, [], HRI, by omega, by simp, hs1, Kept.refl _ _⟩
  case round =>
    clear hs1 HRI
    obtain ⟨f, pos, out, HR, hf, hol, hs, hk⟩ := hrel
    have hEr := hE1.kept hk
    obtain ⟨hpa, hpb⟩ := hs.posAt
    obtain ⟨f, rfl⟩ : ∃ f', f = f' + 1 := ⟨f - 1, by omega⟩
    have HP : Hid (posAt Q wr = pos) := hpa
    obtain ⟨gv, cv, s0, -, -, -⟩ := hs.out_cells
    have HT : Hid _ := take_s 1 (by omega) wr hEr hs
    clear hpa
    go_wp2_with fail
    refine Calls.mono HT.out ?_
    clear HT s0
    rintro e w2 (⟨x1, p1, h1, hx1, rfl, hs2, hk2⟩ | ⟨h1, rfl, hk2⟩)
    rotate_left
    · have HF : Hid (InPost w RF (.returned (.tuple #[.slice none 0 0, .int .i64 0, .int .i64 10])) w2) := HEr.out 10 w2 (HR.out.symm.trans (inflS_err (headS_1 h1))) (by omega) (hk.trans hk2)
      clear HR hE1 hEr hs hk hk2 h1 HEr HOk
      go_wp2
      exact bodyPost_ret (v := .tuple #[.slice none 0 0, .int .i64 0, .int .i64 10]) (by simp [results, Tryd.f8, go_sem]) rfl HF.out
    have hE2 := hEr.kept hk2
    obtain ⟨gv, cv, s0, -, -, -⟩ := hs2.out_cells
    have HT : Hid _ := take_s 2 (by omega) w2 hE2 hs2
    go_wp2_with fail
    refine Calls.mono HT.out ?_
    clear HT s0
    rintro e w3 (⟨x2, p2, h2, hx2, rfl, hs3, hk3⟩ | ⟨h2, rfl, hk3⟩)
    rotate_left
    · have HF : Hid (InPost w RF (.returned (.tuple #[.slice none 0 0, .int .i64 0, .int .i64 10])) w3) := HEr.out 10 w3 (HR.out.symm.trans (inflS_err (headS_2 h1 h2))) (by omega) ((hk.trans hk2).trans hk3)
      clear HR hE1 hEr hs hk hk2 h1 HEr HOk hE2 hs2 hk3 h2
      go_wp2
      exact bodyPost_ret (v := .tuple #[.slice none 0 0, .int .i64 0, .int .i64 10]) (by simp [results, Tryd.f8, go_sem]) rfl HF.out
    have hk03 := (hk.trans hk2).trans hk3
    have hE3 := hE1.kept hk03
    have hx4 : x2 < 4 := takeS_lt hE1.are (by omega) h2
    have hx2' : x1 < 2 := takeS_lt hE1.are (by omega) h1
    obtain ⟨RB, HRB⟩ : ∃ RB, Hid (blockS bs most x2 p2 out = RB) := ⟨_, rfl⟩
    have HBk : Hid _ := block_in x2 hx4 RB HRB w3 hE3 hs3
    have HH : Hid _ := headS_3 (most := most) (out := out) h1 h2
    have m1 := takeS_more h1
    have m2 := takeS_more h2
    clear hk hk2 hk3 hEr hE2 hs hs2 h1 h2
    go_wp2_with fail
    refine Calls.mono HBk.out ?_
    clear HBk
    rintro e w4 (⟨p4, o4, e4, rfl, hs4, hk4⟩ | ⟨er, e4, hne, rfl, hk4⟩)
    rotate_left
    · have HF : Hid (InPost w RF (.returned (.tuple #[.slice none 0 0, .int .i64 0, .int .i64 er])) w4) := HEr.out er w4 (HR.out.symm.trans (inflS_err (by rw [HH.out, HRB.out, e4]))) hne (hk03.trans hk4)
      have t1 : (er != 0) = true := by simpa using hne
      clear HR hE1 hs3 hk03 hk4 e4 HEr HOk HRB HH hE3 m1 m2
      go_wp2
      exact bodyPost_ret (v := .tuple #[.slice none 0 0, .int .i64 0, .int .i64 er]) (by simp [results, Tryd.f8, go_sem]) rfl HF.out
    have hk04 := hk03.trans hk4
    have hO4 : o4.length ≤ most := by
      have := (sized_block bs hE1.are x2 p2 out most p4 o4 (HRB.out.trans e4)).2.1
      omega
    have hH4 : headS bs most pos out = .ok (decide (x1 = 1), p4, o4) := by rw [HH.out, HRB.out, e4]
    have hp4 := headS_more hH4
    obtain ⟨hq4, hq5⟩ := hs4.posAt
    rcases (by omega : x1 = 1 ∨ x1 = 0) with rfl | rfl
    · have hRI : RI = .ok (p4, o4) := HR.out.symm.trans (inflS_last (by simpa using hH4))
      obtain ⟨gv, cv, k0, k1, -, -⟩ := hs4.out_cells
      have q1 : w4.cell? ⟨Q, 1, none⟩ = some (.int .i64 (p4 : Int)) := by
        obtain ⟨v, r1, r2, r3, r4, r5⟩ := hs4
        exact r2.cell1
      have hl5 := hE1.len
      have HF : Hid (∀ n, InPost w RF (.returned (.tuple #[.slice gv o4.length cv, .int .i64 (((p4 + 7) / 8 : Nat) : Int), .int .i64 0])) (w4.drewN n)) := by
        intro n
        obtain ⟨v, r1, r2, r3, r4, r5⟩ := hs4
        have e1 : v = .slice gv o4.length cv := by
          have := r1.cell (i := 1) (v := v) rfl
          rw [k1] at this
          exact (Option.some.inj this).symm
        rw [e1] at r3
        exact HOk.out p4 o4 (w4.drewN n) gv cv hRI (by omega) hq5 (show (w4.drewN n).ownsRow 0 5 1 _ _ _ from r3) (hk04.trans ((Kept.refl T w4).drewN n))
      have HT : Hid (((p4 : Int) + 7) / 8 = (((p4 + 7) / 8 : Nat) : Int)) := by show _ = _; omega
      clear HR hE1 hs3 hk03 hk4 e4 HEr HOk HRB HH hE3 m1 m2 hH4 hp4 hq4 hs4 hk04 hRI
      go_wp2_with fail
      go_quiet (fail)
      go_wp2
      refine bodyPost_ret (v := .tuple #[.slice gv o4.length cv, .int .i64 (((p4 + 7) / 8 : Nat) : Int), .int .i64 0]) ?_ rfl (HF.out _)
      rw [← HT.out]
      simp [results, Tryd.f8, go_sem]
    · have HN : Hid (inflS bs most f p4 o4 = RI) := (inflS_more (by simpa using hH4)).symm.trans HR.out
      have HM : Hid (8 * bs.length - posAt Q w4 < 8 * bs.length - posAt Q wr) := by have := HP.out; show _ < _; omega
      have HST : Hid _ := hs4
      have HK : Hid _ := hk04
      have hf4 : 8 * bs.length + 1 ≤ f + p4 := by omega
      clear HR e4 HEr HOk HRB HH hE3 m1 m2 hH4 hs3 hk03 hk4 hs4 hk04 hE1 hq4
      go_wp2
      exact ⟨⟨f, p4, o4, HN, hf4, hO4, HST.out, HK.out⟩, HM.out⟩

set_option maxHeartbeats 1000000 in
theorem refInflate_arg (v : Value) (most : Int) (hm : most < 0) (w : World) : Calls Tryd.prog 8 #[v, .int .i64 most] w fun e w' => e = .returned (.tuple #[.slice none 0 0, .int .i64 0, .int .i64 1]) ∧ w' = w := by
  go_enter Tryd.func8, Tryd.ntmps8
  go_wp2
  exact bodyPost_ret (v := .tuple #[.slice none 0 0, .int .i64 0, .int .i64 1]) (by simp [results, Tryd.f8, go_sem]) rfl ⟨rfl, rfl⟩
/-- Inflate of the document. -/
theorem refInflate_any (a : Option Addr) (cap : Nat) (bs : List Int) (most : Int) (hmost : most ≤ 65536) (w : World) (hb : AreBytes bs) (hl : bs.length ≤ 140737488351232) (hI : BytesIn (fun k => k < w.heap.size) w (.slice a bs.length cap) bs) (hcap : bs.length ≤ cap) (hnil : a = none → cap = 0) :
    Calls Tryd.prog 8 #[.slice a bs.length cap, .int .i64 most] w (InPost w (inflateS bs most)) := by
  by_cases h : most < 0
  · refine (refInflate_arg _ most h w).mono ?_
    rintro e w' ⟨rfl, rfl⟩
    exact ⟨Below.refl _ _, .inl ⟨1, by rw [inflateS, if_pos h], by omega, rfl⟩⟩
  · obtain ⟨m, rfl⟩ : ∃ m : Nat, most = m := ⟨most.toNat, by omega⟩
    exact refInflate_some a cap bs m (by omega) w hb hl hI hcap hnil
end Go.Proofs.YtiheajlgaehfmaaDoor
