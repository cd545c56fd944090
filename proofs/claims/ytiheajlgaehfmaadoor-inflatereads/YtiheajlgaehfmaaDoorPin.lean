import Derived.Test.YtiheajlgaehfmaaDoorPrd
/- Inflate of the program: what the bytes tell, how many were taken, or the first error. -/
namespace Go.Proofs.YtiheajlgaehfmaaDoor
open Go.RowKit

/-- The table of the order, at its place. -/
def OrdAt (w : World) : Prop := 0 < w.heap.size ∧ ∀ j, j < 19 → w.cell? ⟨0, j, none⟩ = some (.int .i64 ((orderL[j]?.getD 0 : Nat) : Int))
theorem OrdAt.below {w w' : World} (h : OrdAt w) (hb : Below w.heap.size w w') : OrdAt w' := ⟨Nat.lt_of_lt_of_le h.1 hb.size, fun j hj => (hb.cell (p := ⟨0, j, none⟩) h.1).trans (h.2 j hj)⟩

/-- What Inflate answers: an error, or bytes and how many were taken. -/
def InPost (w : World) (R : Except Int (List Int × Nat)) (e : Ending) (w' : World) : Prop :=
  Below w.heap.size w w' ∧ ((∃ er, R = .error er ∧ er ≠ 0 ∧ e = .returned (.tuple #[.slice none 0 0, .int .i64 0, .int .i64 er])) ∨
    (∃ out took g c, R = .ok (out, took) ∧ out.length ≤ 65536 ∧ took ≤ 140737488351232 ∧ e = .returned (.tuple #[.slice g out.length c, .int .i64 (took : Int), .int .i64 0]) ∧ BytesIn (fun k => k < w'.heap.size) w' (.slice g out.length c) out))

set_option maxHeartbeats 1000000 in
theorem inflate_arg (v : Value) (most : Int) (hm : most < 0) (w : World) : Calls Tryd.prog 7 #[v, .int .i64 most] w fun e w' => e = .returned (.tuple #[.slice none 0 0, .int .i64 0, .int .i64 1]) ∧ w' = w := by
  go_enter Tryd.func7, Tryd.ntmps7
  go_wp2
  exact bodyPost_ret (v := .tuple #[.slice none 0 0, .int .i64 0, .int .i64 1]) (by simp [results, Tryd.f7, go_sem]) rfl ⟨rfl, rfl⟩

set_option maxRecDepth 100000 in
set_option maxHeartbeats 4000000 in
theorem inflate_some (a : Option Addr) (cap : Nat) (bs : List Int) (most : Nat) (hmost : most ≤ 65536) (w : World) (hb : AreBytes bs) (hl : bs.length ≤ 140737488351232) (hI : BytesIn (fun k => k < w.heap.size) w (.slice a bs.length cap) bs) (hO : OrdAt w) :
    Calls Tryd.prog 7 #[.slice a bs.length cap, .int .i64 (most : Int)] w (InPost w (inflateS bs (most : Int))) := by
  have HR : Hid (inflateS bs (most : Int) = match inflS bs most (8 * bs.length + 1) 0 [] with | .error e => .error e | .ok (pos, out) => .ok (out, (pos + 7) / 8)) := by
    show _ = _
    rw [inflateS, if_neg (by omega), Int.toNat_natCast]
    cases inflS bs most (8 * bs.length + 1) 0 [] <;> rfl
  generalize inflateS bs (most : Int) = R at HR
  have HN : Hid _ := newReader_any (fun k => k < w.heap.size) a cap bs w (by omega) hI
  go_enter Tryd.func7, Tryd.ntmps7
  go_wp2_with fail
  refine Calls.mono HN.out ?_
  clear HN
  rintro e w1 ⟨Q, g, c, rfl, hQ, h2, hown, hb1⟩
  have hQ1 := h2.lt
  obtain ⟨S, hS⟩ : ∃ S, w1.heap.size = S := ⟨_, rfl⟩
  obtain ⟨w2, hw2⟩ : ∃ w2, w1.alloc (.cells #[.pointer (some ⟨Q, 0, none⟩), .slice none 0 0, .int .i64 (most : Int), .pointer none, .pointer none] 42) = w2 := ⟨_, rfl⟩
  have hb12 : Below w1.heap.size w1 w2 := by rw [← hw2]; exact (Below.refl _ w1).alloc (Nat.le_refl _) _
  have hR2 : Row w2 S 42 #[.pointer (some ⟨Q, 0, none⟩), .slice none 0 0, .int .i64 (most : Int), .pointer none, .pointer none] := by rw [← hw2, ← hS]; exact Row.new w1 42 _
  have h22 : Two w2 Q 63 (.slice g bs.length c) (.int .i64 0) := (hb12.block Q hQ1).trans h2
  have hcapn : bs.length ≤ c ∧ (g = none → c = 0) := by
    rcases hown.2 with ⟨e, h0⟩ | ⟨g', cap', cur', e, _, _, h3, _⟩
    · simp only [Value.slice.injEq] at e
      omega
    · simp only [Value.slice.injEq] at e
      obtain ⟨rfl, _, rfl⟩ := e
      exact ⟨h3, fun h => by cases h⟩
  have hbQ : ∀ k, (Value.slice g bs.length c).ownBlock = some k → k ≠ Q := fun k hk e => row_ne hown (show Row w1 Q 63 _ from h2) (by decide) (e ▸ hk)
  have hE : PEnv (fun k => k < S ∧ k ≠ Q) S Q bs g c most w2 := by
    refine ⟨fun k hk => ?_, by simp, by simp, ?_, hb, hl, hcapn.1, hcapn.2, hmost⟩
    · have := hb12.size
      have := hk.1
      omega
    · exact (bytesIn_of_owns (fun k => k < S ∧ k ≠ Q) hown (fun k hk => ⟨by have := (hown.lt k hk).2; omega, hbQ k hk⟩)).kept (Kept.of_below hb12 (fun k hk => by have := hk.1; omega))
  have hs : PAt (fun k => k < S ∧ k ≠ Q) S Q bs g c most (.pointer none) (.pointer none) 0 [] w2 := ⟨_, hR2, h22, World.ownsRow_nil _ _ _ _, fun k hk => by simp [Value.ownBlock] at hk, by omega, by simp⟩
  have hO2 := (hO.below hb1).below hb12
  have hOi : OrdIn (fun k => k < S ∧ k ≠ Q) w2 := ⟨⟨by have := hb1.size; have := hO.1; omega, by have := hO.1; omega⟩, hO2.2⟩
  have HRd : Hid _ := read_r (inflS bs most (8 * bs.length + 1) 0 []) (8 * bs.length + 1) rfl (by omega) w2 hE hs hOi (.inl ⟨rfl, rfl⟩)
  have hb02 : Below w.heap.size w w2 := hb1.trans (hb12.mono hb1.size)
  have hS1 := hS
  clear hown hR2 h22 h2 hbQ hE hs hO2 hOi hI hO hb12
  go_wp2_with fail
  refine Calls.mono HRd.out ?_
  clear HRd hw2
  rintro e w3 (⟨p, o, T', l', d', hr, rfl, hs3, hk3⟩ | ⟨er, hr, hne, rfl, hk3⟩)
  rotate_left
  · have HF : Hid (InPost w R (.returned (.tuple #[.slice none 0 0, .int .i64 0, .int .i64 er])) w3) := by
      refine ⟨hb02.trans (hk3.below (fun k hk => ⟨by have := hb1.size; omega, by omega⟩)), .inl ⟨er, ?_, hne, rfl⟩⟩
      rw [HR.out, hr]
    have t1 : (er != 0) = true := by simpa using hne
    clear HR hk3 hr hb02
    go_wp2
    exact bodyPost_ret (v := .tuple #[.slice none 0 0, .int .i64 0, .int .i64 er]) (by simp [results, Tryd.f7, go_sem]) rfl HF.out
  · obtain ⟨hpd, hod⟩ := hs3.bd
    obtain ⟨gv, cv, c0, c1, -⟩ := hs3.cells
    have hlf : ∀ n, Calls Tryd.prog 22 #[.pointer (some ⟨Q, 0, none⟩)] (w3.drewN n) fun e w' => e = .returned (.int .i64 (8 * bs.length - p : Int)) ∧ ∃ m, w' = (w3.drewN n).drewN m := by
      intro n
      obtain ⟨v, r1, r2, r3, r4, r5, r6⟩ := hs3
      exact left_any Q g bs.length c p (w3.drewN n) (by omega) hpd (r2.drewN n)
    have HF : Hid (∀ n, InPost w R (.returned (.tuple #[.slice gv o.length cv, .int .i64 (((p + 7) / 8 : Nat) : Int), .int .i64 0])) (w3.drewN n)) := by
      intro n
      refine ⟨(hb02.trans (hk3.below (fun k hk => ⟨by have := hb1.size; omega, by omega⟩))).trans ⟨rfl, rfl, rfl, Nat.le_refl _, fun _ _ => rfl⟩, .inr ⟨o, (p + 7) / 8, gv, cv, by rw [HR.out, hr], by omega, by omega, rfl, ?_⟩⟩
      obtain ⟨v, r1, r2, r3, r4, r5, r6⟩ := hs3
      have e1 : v = .slice gv o.length cv := by
        have := r1.cell (i := 1) (v := v) rfl
        rw [c1] at this
        exact (Option.some.inj this).symm
      rw [e1] at r3
      exact bytesIn_of_owns _ (show (w3.drewN n).ownsRow 0 5 1 _ _ _ from r3) (fun k hk => (r3.lt k hk).2)
    have HT : Hid ((bs.length : Int) - (8 * bs.length - p : Int) / 8 = (((p + 7) / 8 : Nat) : Int)) := by show _ = _; omega
    clear HR hk3 hr hb02 hs3
    go_wp2_with fail
    go_quiet ((go_at_call 22; exact Calls.quiet_of (hlf _)))
    go_wp2
    refine bodyPost_ret (v := .tuple #[.slice gv o.length cv, .int .i64 (((p + 7) / 8 : Nat) : Int), .int .i64 0]) ?_ rfl (HF.out _)
    rw [← HT.out]
    simp [results, Tryd.f7, go_sem]
/-- Inflate of the program. -/
theorem inflate_any (a : Option Addr) (cap : Nat) (bs : List Int) (most : Int) (hmost : most ≤ 65536) (w : World) (hb : AreBytes bs) (hl : bs.length ≤ 140737488351232) (hI : BytesIn (fun k => k < w.heap.size) w (.slice a bs.length cap) bs) (hO : OrdAt w) :
    Calls Tryd.prog 7 #[.slice a bs.length cap, .int .i64 most] w (InPost w (inflateS bs most)) := by
  by_cases h : most < 0
  · refine (inflate_arg _ most h w).mono ?_
    rintro e w' ⟨rfl, rfl⟩
    exact ⟨Below.refl _ _, .inl ⟨1, by rw [inflateS, if_pos h], by omega, rfl⟩⟩
  · obtain ⟨m, rfl⟩ : ∃ m : Nat, most = m := ⟨most.toNat, by omega⟩
    exact inflate_some a cap bs m (by omega) w hb hl hI hO
end Go.Proofs.YtiheajlgaehfmaaDoor
