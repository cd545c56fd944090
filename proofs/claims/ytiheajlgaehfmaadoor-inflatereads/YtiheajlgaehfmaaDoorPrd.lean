import Derived.Test.YtiheajlgaehfmaaDoorPdc
import Derived.Defers
import Derived.Recover
/- The program's stream: read: all blocks; who gives up is caught. -/
namespace Go.Proofs.YtiheajlgaehfmaaDoor
open Go.RowKit

/-! ### nothing goes back -/
theorem nextS_ge {zs bs : List Int} {pos x p : Nat} (h : nextS zs bs pos = .ok (x, p)) : pos ≤ p := by
  unfold nextS at h
  split at h
  · simp only [Except.ok.injEq, Prod.mk.injEq] at h
    omega
  · cases h
theorem copiedS_ge {dz bs : List Int} {most sym pos p : Nat} {out o : List Int} (h : copiedS dz bs most sym pos out = .ok (p, o)) : pos ≤ p := by
  cases hl : litS (sym : Int) with
  | none => rw [copiedS_none hl] at h; cases h
  | some be =>
    obtain ⟨b1, x1⟩ := be
    cases h2 : takeS bs pos x1 with
    | error e => rw [copiedS_take hl h2] at h; cases h
    | ok r2 =>
      obtain ⟨x, p2⟩ := r2
      cases h3 : nextS dz bs p2 with
      | error e => rw [copiedS_next hl h2 h3] at h; cases h
      | ok r3 =>
        obtain ⟨dd, p3⟩ := r3
        cases h4 : distS (dd : Int) with
        | none => rw [copiedS_dist hl h2 h3 h4] at h; cases h
        | some de =>
          obtain ⟨b2, x2⟩ := de
          cases h5 : takeS bs p3 x2 with
          | error e => rw [copiedS_take2 hl h2 h3 h4 h5] at h; cases h
          | ok r5 =>
            obtain ⟨y, p4⟩ := r5
            rw [copiedS_all hl h2 h3 h4 h5] at h
            have := takeS_more h2
            have := nextS_ge h3
            have := takeS_more h5
            split at h
            · cases h
            · split at h
              · cases h
              · simp only [Except.ok.injEq, Prod.mk.injEq] at h
                omega
theorem symStep_ge {lz dz bs : List Int} {most pos p : Nat} {out o : List Int} {u : Option Unit} (h : symStep lz dz bs most pos out = .ok (u, p, o)) : pos ≤ p := by
  cases hn : nextS lz bs pos with
  | error e => rw [symStep_next hn] at h; cases h
  | ok r =>
    obtain ⟨x, p1⟩ := r
    have hg := nextS_ge hn
    by_cases hx : x < 256
    · rw [symStep_byte hn hx] at h
      split at h
      · simp only [Except.ok.injEq, Prod.mk.injEq] at h
        omega
      · cases h
    · by_cases hx6 : x = 256
      · subst hx6
        rw [symStep_end hn] at h
        simp only [Except.ok.injEq, Prod.mk.injEq] at h
        omega
      · rw [symStep_copy hn (by omega)] at h
        split at h
        · cases h
        · rename_i p' o' hc
          simp only [Except.ok.injEq, Prod.mk.injEq] at h
          have := copiedS_ge hc
          omega
theorem symsS_ge {lz dz bs : List Int} {most : Nat} : ∀ (f pos p : Nat) (out o : List Int), symsS lz dz bs most f pos out = .ok (p, o) → pos ≤ p := by
  intro f
  induction f with
  | zero => intro pos p out o h; simp [symsS] at h
  | succ f ih =>
    intro pos p out o h
    cases hs : symStep lz dz bs most pos out with
    | error e => rw [symsS_err hs] at h; cases h
    | ok r =>
      obtain ⟨u, p1, o1⟩ := r
      have hg := symStep_ge hs
      cases u with
      | none =>
        rw [symsS_end hs] at h
        simp only [Except.ok.injEq, Prod.mk.injEq] at h
        omega
      | some u =>
        rw [symsS_more hs] at h
        have := ih _ _ _ _ h
        omega
theorem plainS_ge {bs : List Int} {most pos p : Nat} {out o : List Int} (h : plainS bs most pos out = .ok (p, o)) : pos ≤ p := by
  unfold plainS at h
  split at h
  · cases h
  · rename_i n p1 h1
    have := takeS_more h1
    split at h
    · cases h
    · rename_i m p2 h2
      have := takeS_more h2
      split at h
      · cases h
      · split at h
        · cases h
        · split at h
          · cases h
          · rename_i b p3 h3
            unfold bytesS at h3
            split at h3
            · simp only [Except.ok.injEq, Prod.mk.injEq] at h3 h
              omega
            · cases h3
theorem clS_ge {bs : List Int} : ∀ (k i pos p : Nat) (l cl : List Int), clS bs k i pos l = .ok (p, cl) → pos ≤ p := by
  intro k
  induction k with
  | zero =>
    intro i pos p l cl h
    simp only [clS, Except.ok.injEq, Prod.mk.injEq] at h
    omega
  | succ k ih =>
    intro i pos p l cl h
    cases ht : takeS bs pos 3 with
    | error e => rw [clS_err ht] at h; cases h
    | ok r =>
      obtain ⟨x, p1⟩ := r
      rw [clS_more ht] at h
      have := takeS_more ht
      have := ih _ _ _ _ _ h
      omega
theorem rowStep_ge {cz bs : List Int} {many pos p : Nat} {l l' : List Int} (h : rowStep cz bs many pos l = .ok (p, l')) : pos ≤ p := by
  cases hn : nextS cz bs pos with
  | error e => rw [rowStep_next hn] at h; cases h
  | ok r =>
    obtain ⟨x, p1⟩ := r
    have hg := nextS_ge hn
    by_cases hx : x < 16
    · rw [rowStep_one hn hx] at h
      simp only [Except.ok.injEq, Prod.mk.injEq] at h
      omega
    · by_cases h0 : x = 16 ∧ l.length = 0
      · obtain ⟨rfl, h0⟩ := h0
        rw [rowStep_none hn h0] at h
        cases h
      · cases ht : takeS bs p1 (rnBits x) with
        | error e => rw [rowStep_take hn hx h0 ht] at h; cases h
        | ok r2 =>
          obtain ⟨k, p2⟩ := r2
          rw [rowStep_run hn hx h0 ht] at h
          have := takeS_more ht
          split at h
          · cases h
          · simp only [Except.ok.injEq, Prod.mk.injEq] at h
            omega
theorem rowS_ge {cz bs : List Int} {many : Nat} : ∀ (f pos p : Nat) (l l' : List Int), rowS cz bs many f pos l = .ok (p, l') → pos ≤ p := by
  intro f
  induction f with
  | zero => intro pos p l l' h; simp [rowS] at h
  | succ f ih =>
    intro pos p l l' h
    rw [rowS] at h
    split at h
    · split at h
      · cases h
      · rename_i p2 l2 hs
        have := rowStep_ge hs
        have := ih _ _ _ _ h
        omega
    · simp only [Except.ok.injEq, Prod.mk.injEq] at h
      omega
theorem dynH_ge {bs : List Int} {pos p : Nat} {lz dz : List Int} (h : dynH bs pos = .ok (lz, dz, p)) : pos ≤ p := by
  unfold dynH at h
  split at h
  · cases h
  · rename_i a p1 h1
    have := takeS_more h1
    split at h
    · cases h
    · rename_i b p2 h2
      have := takeS_more h2
      split at h
      · cases h
      · rename_i c p3 h3
        have := takeS_more h3
        split at h
        · cases h
        · unfold dynT at h
          split at h
          · cases h
          · rename_i p4 cl h4
            have := clS_ge _ _ _ _ _ _ h4
            split at h
            · cases h
            · split at h
              · cases h
              · rename_i p5 row h5
                have := rowS_ge _ _ _ _ _ h5
                unfold splitS at h
                split at h
                · cases h
                · split at h
                  · cases h
                  · split at h
                    · cases h
                    · simp only [Except.ok.injEq, Prod.mk.injEq] at h
                      omega
/-! ### a stream, block by block -/
theorem inflS_err {bs : List Int} {most f pos : Nat} {out : List Int} {e : Int} (h : headS bs most pos out = .error e) : inflS bs most (f + 1) pos out = .error e := by rw [inflS, h]
theorem inflS_last {bs : List Int} {most f pos p : Nat} {out o : List Int} (h : headS bs most pos out = .ok (true, p, o)) : inflS bs most (f + 1) pos out = .ok (p, o) := by rw [inflS, h]
theorem inflS_more {bs : List Int} {most f pos p : Nat} {out o : List Int} (h : headS bs most pos out = .ok (false, p, o)) : inflS bs most (f + 1) pos out = inflS bs most f p o := by rw [inflS, h]
theorem headS_1 {bs : List Int} {most pos : Nat} {out : List Int} {e : Int} (h : takeS bs pos 1 = .error e) : headS bs most pos out = .error e := by
  unfold headS
  simp only [h, bind, Except.bind]
theorem headS_2 {bs : List Int} {most pos x p : Nat} {out : List Int} {e : Int} (h : takeS bs pos 1 = .ok (x, p)) (h2 : takeS bs p 2 = .error e) : headS bs most pos out = .error e := by
  unfold headS
  simp only [h, h2, bind, Except.bind]
theorem headS_3 {bs : List Int} {most pos x p k p2 : Nat} {out : List Int} (h : takeS bs pos 1 = .ok (x, p)) (h2 : takeS bs p 2 = .ok (k, p2)) :
    headS bs most pos out = match blockS bs most k p2 out with | .error e => .error e | .ok (p3, o) => .ok (decide (x = 1), p3, o) := by
  unfold headS
  simp only [h, h2, bind, Except.bind]
  cases blockS bs most k p2 out <;> rfl

/-! ### the deferred closure -/
theorem run_assert_errno (er : Int) (w : World) : (Instr.typeAssert (.iface 23 (.int .i64 er)) 20 23 false).run Tryd.prog w = .ok (.int .i64 er) w := by
  simp [Instr.typeAssert, run_underlying Tryd.underlying23]
set_option maxRecDepth 100000 in
set_option maxHeartbeats 1000000 in
theorem catch_panicking (p : Addr) (v0 : Value) (er : Int) (older : List PanicEntry) (w : World) (hc : w.cell? p = some v0) (hz : w.frozen? p = false) :
    CallsD Tryd.prog 31 #[.pointer (some p)] (.panicking ({ v := .iface 23 (.int .i64 er), recovered := false } :: older)) w fun e u' w' =>
      e = .returned (.tuple #[]) ∧ u' = .panicking ({ v := .iface 23 (.int .i64 er), recovered := true } :: older) ∧ w' = w.setCell p (.int .i64 er) := by
  have hta := run_assert_errno er
  refine callsD_of_wpS Tryd.func31 rfl fun c₀ cs hu => ?_
  apply wpS_seq
  apply wpS_region
  simp [wpOpsS, go_sem, recoverD, hu, Tryd.ntmps31, Exit.thenS]
  refine wpS_of_wp ?_
  simp only [Array.replicate_succ, Array.replicate_zero, List.push_toArray, List.append_toArray, List.nil_append, List.cons_append, List.setIfInBounds_toArray, List.set_cons_succ, List.set_cons_zero]
  go_wp2
  simp [bodyPostS, results, Tryd.f31]
set_option maxRecDepth 100000 in
set_option maxHeartbeats 1000000 in
theorem catch_idle (p : Addr) (w : World) :
    CallsD Tryd.prog 31 #[.pointer (some p)] .returning w fun e u' w' => e = .returned (.tuple #[]) ∧ u' = .returning ∧ w' = w := by
  refine callsD_of_wpS Tryd.func31 rfl fun c₀ cs hu => ?_
  apply wpS_seq
  apply wpS_region
  simp [wpOpsS, go_sem, recoverD, hu, Tryd.ntmps31, Exit.thenS]
  refine wpS_of_wp ?_
  simp only [Array.replicate_succ, Array.replicate_zero, List.push_toArray, List.append_toArray, List.nil_append, List.cons_append, List.setIfInBounds_toArray, List.set_cons_succ, List.set_cons_zero]
  go_wp2
  cases c₀
  simp_all [bodyPostS, results, Tryd.f31]

/-- What read answers. -/
def RdPost (T : Nat → Prop) (S Q : Nat) (bs : List Int) (g : Option Addr) (c most : Nat) (w : World) (R : Except Int (Nat × List Int)) (e : Ending) (w' : World) : Prop :=
  (∃ p o T' l' d', R = .ok (p, o) ∧ e = .returned (.int .i64 0) ∧ PAt T' S Q bs g c most l' d' p o w' ∧ Kept T w w') ∨ (∃ er, R = .error er ∧ er ≠ 0 ∧ e = .returned (.int .i64 er) ∧ Kept T w w')

/-- Who gives up within read is caught: its error is the answer. -/
theorem read_caught {B : Nat} (tmps : Array Value) (h2 : tmps[2]? = some (.pointer (some ⟨B, 0, none⟩))) (er : Int) (wx : World) (hc : wx.cell? ⟨B, 0, none⟩ = some (.int .i64 0)) (hz : wx.frozen? ⟨B, 0, none⟩ = false) (R' : Ending → World → Prop) (h : R' (.returned (.int .i64 er)) (wx.setCell ⟨B, 0, none⟩ (.int .i64 er))) :
    bodyPostD Tryd.prog Tryd.f21 R' (.panic [{ v := .iface 23 (.int .i64 er), recovered := false }]) { tmps := tmps, defers := [{ target := .fn (.func 31) #[.pointer (some ⟨B, 0, none⟩)], args := #[] }] } wx := by
  refine leaves_cons (f := 31) (args := #[.pointer (some ⟨B, 0, none⟩)]) (by simp) (by simp [go_sem]) ?_
  refine (catch_panicking ⟨B, 0, none⟩ (.int .i64 0) er [] wx hc hz).mono ?_
  rintro e u' w'' ⟨rfl, rfl, rfl⟩
  have hcell : (wx.setCell ⟨B, 0, none⟩ (.int .i64 er)).cell? ⟨B, 0, none⟩ = some (.int .i64 er) := World.cell?_setCell_same' _ _ _ (by rw [hc]; rfl)
  simp [Leaves, settle, results, Tryd.f21, go_sem, h2, hcell]
  exact h
theorem read_done {B : Nat} (tmps : Array Value) (h2 : tmps[2]? = some (.pointer (some ⟨B, 0, none⟩))) (v : Int) (wx : World) (hc : wx.cell? ⟨B, 0, none⟩ = some (.int .i64 v)) (R' : Ending → World → Prop) (h : R' (.returned (.int .i64 v)) wx) :
    bodyPostD Tryd.prog Tryd.f21 R' .ret { tmps := tmps, defers := [{ target := .fn (.func 31) #[.pointer (some ⟨B, 0, none⟩)], args := #[] }] } wx := by
  refine leaves_cons (f := 31) (args := #[.pointer (some ⟨B, 0, none⟩)]) (by simp) (by simp [go_sem]) ?_
  refine (catch_idle ⟨B, 0, none⟩ wx).mono ?_
  rintro e u' w'' ⟨rfl, rfl, rfl⟩
  simp [Leaves, settle, results, Tryd.f21, go_sem, h2, hc]
  exact h

set_option maxRecDepth 100000 in
set_option maxHeartbeats 4000000 in
theorem read_r {T : Nat → Prop} {S Q : Nat} {bs : List Int} {g : Option Addr} {c most pos : Nat} {l d : Value} {out : List Int} (R : Except Int (Nat × List Int)) (f : Nat) (HR : Hid (inflS bs most f pos out = R)) (hf : 8 * bs.length + 1 ≤ f + pos) (w : World) (hE : PEnv T S Q bs g c most w) (hs : PAt T S Q bs g c most l d pos out w) (hO : OrdIn T w) (hC : Cached T w l d) :
    Calls Tryd.prog 21 #[.pointer (some ⟨S, 0, none⟩)] w (RdPost T S Q bs g c most w R) := by
  have hmf : ∀ (fn : Fn) (first cap : Array Value) (w : World), (Instr.makeFunc fn first cap).run Tryd.prog w = .ok (.func fn first cap) w := fun _ _ _ _ => rfl
  have hb := hE.are
  obtain ⟨hS0, hQ0⟩ := hs.lts
  obtain ⟨B, hB⟩ : ∃ B, w.heap.size = B := ⟨_, rfl⟩
  obtain ⟨w1, hw1⟩ : ∃ w1, w.alloc (.cells #[.int .i64 0] 23) = w1 := ⟨_, rfl⟩
  have hR1 : Row w1 B 23 #[.int .i64 0] := by rw [← hw1, ← hB]; exact Row.new w 23 _
  have hs1 : PAt (fun k => T k ∨ k = B) S Q bs g c most l d pos out w1 := by
    have h9 : PAt T S Q bs g c most l d pos out w1 := by rw [← hw1]; exact hs.alloc _
    exact h9.add hR1 (by decide)
  have hk1 : Kept T w w1 := by rw [← hw1]; exact (Kept.refl T w).alloc hE.lt _
  have hE1 := (hE.kept hk1).add hR1.lt (by omega) (by omega)
  have hO1 := (hO.kept hk1).mono (T' := fun k => T k ∨ k = B) (fun k hk => .inl hk)
  have hC1 := (hC.kept hk1).mono (T' := fun k => T k ∨ k = B) (fun k hk => .inl hk)
  have hBT : ¬ T B := fun h => by have := hE.lt B h; omega
  have HC : Hid (∀ wx, Kept (fun k => T k ∨ k = B) w1 wx → wx.cell? ⟨B, 0, none⟩ = some (.int .i64 0) ∧ wx.frozen? ⟨B, 0, none⟩ = false) := fun wx hk => ⟨(hR1.kept hk (.inr rfl)).cell rfl, (hR1.kept hk (.inr rfl)).frozen 0⟩
  have HErr : Hid (∀ er wx, Kept (fun k => T k ∨ k = B) w1 wx → R = .error er → er ≠ 0 → RdPost T S Q bs g c most w R (.returned (.int .i64 er)) (wx.setCell ⟨B, 0, none⟩ (.int .i64 er))) := fun er wx hk he hne =>
    .inr ⟨er, he, hne, rfl, (hk1.trans (hk.mono (fun k hk => .inl hk))).setCell (p := ⟨B, 0, none⟩) hBT _⟩
  go_enter_defers Tryd.func21, Tryd.ntmps21
  go_wp2_with fail
  clear hw1 hB hs hmf
  go_loopw [3] (fun v3 wr => ∃ (lst : Bool) (f pos : Nat) (out : List Int) (T' : Nat → Prop) (l d : Value), v3 = .bool lst ∧ Hid ((lst = true ∧ R = .ok (pos, out)) ∨ (lst = false ∧ inflS bs most f pos out = R)) ∧ 8 * bs.length + 1 ≤ f + pos ∧ (∀ k, (T k ∨ k = B) → T' k) ∧ PEnv T' S Q bs g c most wr ∧ PAt T' S Q bs g c most l d pos out wr ∧ OrdIn T' wr ∧ Cached T' wr l d ∧ Kept (fun k => T k ∨ k = B) w1 wr) (fun _ wr => 8 * bs.length - posAt Q wr)
  case atStart => exact ⟨false, f, pos, out, _, l, d, rfl, .inr ⟨rfl, HR.out⟩, hf, fun _ h => h, hE1, hs1, hO1, hC1, Kept.refl _ _⟩
  case round =>
    clear HR hf hs1 hE1 hO1 hC1 hO hC l d pos out f
    obtain ⟨lst, f, pos, out, T', l, d, rfl, HR, hf, hT', hEr, hsr, hOr, hCr, hkr⟩ := hrel
    cases lst with
    | true =>
      obtain ⟨hc0, hz0⟩ := HC.out wr hkr
      have hRok : R = .ok (pos, out) := by
        rcases HR.out with ⟨_, h⟩ | ⟨h, _⟩
        · exact h
        · cases h
      have HF : Hid (RdPost T S Q bs g c most w R (.returned (.int .i64 0)) (wr.setCell ⟨B, 0, none⟩ (.int .i64 0))) := by
        have hRB := hR1.kept hkr (.inr rfl)
        obtain ⟨v5, r1, r2, r3, r4, r5, r6⟩ := id hsr
        have nS : S ≠ B := fun e => by have h9 : wr.heap[S]? = _ := r1; rw [e, show wr.heap[B]? = _ from hRB] at h9; simp at h9
        have nQ : Q ≠ B := fun e => by have h9 : wr.heap[Q]? = _ := r2; rw [e, show wr.heap[B]? = _ from hRB] at h9; simp at h9
        have kB : Kept (fun x => x ≠ B) wr (wr.setCell ⟨B, 0, none⟩ (.int .i64 0)) := (Kept.refl _ wr).setCell (p := ⟨B, 0, none⟩) (by simp) _
        exact .inl ⟨pos, out, T', l, d, hRok, rfl, ⟨v5, r1.kept kB nS, r2.kept kB nQ, owns_kept r3 kB (fun k hk e => row_ne r3 hRB (by decide) (e ▸ hk)), r4, r5, r6⟩, (hk1.trans (hkr.mono (fun k hk => .inl hk))).setCell (p := ⟨B, 0, none⟩) hBT _⟩
      clear HR hEr hsr hOr hCr hkr HErr HC hRok hE hk1 hR1
      go_wp2
      exact read_done _ (by rfl) 0 _ (World.cell?_setCell_same' _ _ _ (by rw [hc0]; rfl)) _ HF.out
    | false =>
      have HX : Hid (inflS bs most f pos out = R) := by
        rcases HR.out with ⟨h, _⟩ | ⟨_, h⟩
        · cases h
        · exact h
      clear HR
      have hbd := hsr.bd
      obtain ⟨f, rfl⟩ : ∃ f', f = f' + 1 := ⟨f - 1, by omega⟩
      have HP : Hid (posAt Q wr = pos) := hsr.posAt
      have HN : Hid _ := number_s 1 (by omega) wr hEr hsr
      go_wp2_with fail
      refine Calls.mono HN.out ?_
      clear HN hsr
      rintro e w2 (⟨x, p1, h1, hx, rfl, hs2, hk2⟩ | ⟨h1, rfl, hk2⟩)
      rotate_left
      · have hk12 : Kept (fun k => T k ∨ k = B) w1 w2 := hkr.trans (hk2.mono hT')
        obtain ⟨hc0, hz0⟩ := HC.out w2 hk12
        have HF : Hid _ := HErr.out 10 w2 hk12 (HX.out.symm.trans (inflS_err (headS_1 h1))) (by omega)
        clear HX hEr hOr hCr hkr HErr HC hE hk1 hR1 hk2 h1 hk12
        go_wp2
        exact read_caught _ (by rfl) _ _ hc0 hz0 _ HF.out
      have hx2 : x < 2 := takeS_lt hb (by omega) h1
      have hE2 := hEr.kept hk2
      have HN : Hid _ := number_s 2 (by omega) w2 hE2 hs2
      go_wp2_with fail
      refine Calls.mono HN.out ?_
      clear HN hs2
      rintro e w3 (⟨k, p2, h2, hkk, rfl, hs3, hk3⟩ | ⟨h2, rfl, hk3⟩)
      rotate_left
      · have hk12 : Kept (fun k => T k ∨ k = B) w1 w3 := hkr.trans ((hk2.trans hk3).mono hT')
        obtain ⟨hc0, hz0⟩ := HC.out w3 hk12
        have HF : Hid _ := HErr.out 10 w3 hk12 (HX.out.symm.trans (inflS_err (headS_2 h1 h2))) (by omega)
        clear HX hEr hOr hCr hkr HErr HC hE hk1 hR1 hk2 hk3 h1 h2 hk12 hE2
        go_wp2
        exact read_caught _ (by rfl) _ _ hc0 hz0 _ HF.out
      have hm1 := takeS_more h1
      have hm2 := takeS_more h2
      have hE3 := hE2.kept hk3
      have hO3 := (hOr.kept hk2).kept hk3
      have hC3 := (hCr.kept hk2).kept hk3
      have hk13 : Kept (fun k => T k ∨ k = B) w1 w3 := hkr.trans ((hk2.trans hk3).mono hT')
      have HH : Hid _ := headS_3 (most := most) (out := out) h1 h2
      -- what a block that is done leaves
      have HNext : Hid (∀ (p3 : Nat) (o3 : List Int) (T3 : Nat → Prop) (l3 d3 : Value) (w4 : World), blockS bs most k p2 out = .ok (p3, o3) → p2 ≤ p3 → (∀ k, T' k → T3 k) → PEnv T3 S Q bs g c most w4 → PAt T3 S Q bs g c most l3 d3 p3 o3 w4 → OrdIn T3 w4 → Cached T3 w4 l3 d3 → Kept (fun k => T k ∨ k = B) w1 w4 →
          (∃ (lst : Bool) (f pos : Nat) (out : List Int) (T' : Nat → Prop) (l d : Value), (Value.bool ((x : Int) == 1)) = .bool lst ∧ Hid ((lst = true ∧ R = .ok (pos, out)) ∨ (lst = false ∧ inflS bs most f pos out = R)) ∧ 8 * bs.length + 1 ≤ f + pos ∧ (∀ k, (T k ∨ k = B) → T' k) ∧ PEnv T' S Q bs g c most w4 ∧ PAt T' S Q bs g c most l d pos out w4 ∧ OrdIn T' w4 ∧ Cached T' w4 l d ∧ Kept (fun k => T k ∨ k = B) w1 w4) ∧ 8 * bs.length - posAt Q w4 < 8 * bs.length - posAt Q wr) := by
        intro p3 o3 T3 l3 d3 w4 hbl hge hT3 e4 s4 o4 c4 k4
        have hbd4 := s4.bd
        refine ⟨⟨((x : Int) == 1), f, p3, o3, T3, l3, d3, rfl, ?_, by omega, fun k hk => hT3 k (hT' k hk), e4, s4, o4, c4, k4⟩, by rw [s4.posAt, HP.out]; omega⟩
        have hh : headS bs most pos out = .ok (decide (x = 1), p3, o3) := by rw [HH.out, hbl]
        by_cases hx1 : x = 1
        · subst hx1
          exact .inl ⟨rfl, HX.out.symm.trans (inflS_last hh)⟩
        · have hd : decide (x = 1) = false := decide_eq_false hx1
          rw [hd] at hh
          exact .inr ⟨beq_eq_false_iff_ne.2 (by omega), by rw [← HX.out, inflS_more hh]⟩
      have HFail : Hid (∀ er, blockS bs most k p2 out = .error er → R = .error er) := fun er h => HX.out.symm.trans (inflS_err (by rw [HH.out, h]))
      clear hE2 hEr hOr hCr hkr hk2 hk3 h1 h2 HH HX
      by_cases hk0 : k = 0
      · have u0 : ((k : Int) == 0) = true := by simp [hk0]
        have HB : Hid _ := plain_r (plainS bs most p2 out) rfl w3 hE3 hs3
        have hbl : blockS bs most k p2 out = plainS bs most p2 out := by rw [blockS, if_pos hk0, plain_stored hb]
        go_wp2_with fail
        refine Calls.mono HB.out ?_
        clear HB
        rintro e w4 (⟨p3, o3, h3, rfl, hs4, hk4⟩ | ⟨er, h3, hne, rfl, hk4⟩)
        · have HF : Hid _ := HNext.out p3 o3 T' l d w4 (hbl.trans h3) (plainS_ge h3) (fun _ h => h) (hE3.kept hk4) hs4 (hO3.kept hk4) (hC3.kept hk4) (hk13.trans (hk4.mono hT'))
          clear HNext HFail hE3 hs3 hO3 hC3 hk13 HErr HC hE hk1 hR1 hk4 h3 hbl hs4
          go_wp2
          exact HF.out
        · have hk12 : Kept (fun k => T k ∨ k = B) w1 w4 := hk13.trans (hk4.mono hT')
          obtain ⟨hc0, hz0⟩ := HC.out w4 hk12
          have HF : Hid _ := HErr.out er w4 hk12 (HFail.out er (hbl.trans h3)) hne
          clear HNext HFail hE3 hs3 hO3 hC3 hk13 HErr HC hE hk1 hR1 hk4 h3 hbl hk12
          go_wp2
          exact read_caught _ (by rfl) _ _ hc0 hz0 _ HF.out
      · have u0 : ((k : Int) == 0) = false := beq_eq_false_iff_ne.2 (by omega)
        by_cases hkf : k = 1
        · have u1 : ((k : Int) == 1) = true := by simp [hkf]
          have HFx : Hid _ := fixedCodes_any w3 hE3 hs3 hC3
          have hbl : blockS bs most k p2 out = symsS fixLit fixDist bs most (8 * bs.length + 1) p2 out := by rw [blockS, if_neg hk0, if_pos hkf]
          go_wp2_with fail
          refine Calls.mono HFx.out ?_
          clear HFx
          rintro e w4 ⟨T4, LD, DD, l4, d4, hT4, rfl, hE4, hs4, hl4, hd4, hC4, hk4⟩
          have hO4 := (hO3.kept hk4).mono hT4
          have hk14 : Kept (fun k => T k ∨ k = B) w1 w4 := hk13.trans (hk4.mono hT')
          have HB : Hid _ := coded_r fixLit fixDist LD DD (symsS fixLit fixDist bs most (8 * bs.length + 1) p2 out) (8 * bs.length + 1) rfl (by omega) w4 hE4 hs4 hl4 hd4
          go_wp2_with fail
          refine Calls.mono HB.out ?_
          clear HB
          rintro e w5 (⟨p3, o3, h3, rfl, hs5, hk5⟩ | ⟨er, h3, hne, rfl, hk5⟩)
          · have HF : Hid _ := HNext.out p3 o3 T4 l4 d4 w5 (hbl.trans h3) (symsS_ge _ _ _ _ _ h3) hT4 (hE4.kept hk5) hs5 (hO4.kept hk5) (hC4.kept hk5) (hk14.trans (hk5.mono (fun k hk => hT4 k (hT' k hk))))
            clear HNext HFail hE3 hs3 hO3 hC3 hk13 HErr HC hE hk1 hR1 hk4 h3 hbl hs4 hE4 hO4 hC4 hk14 hl4 hd4 hs5 hk5
            go_wp2
            exact HF.out
          · have hk12 : Kept (fun k => T k ∨ k = B) w1 w5 := hk14.trans (hk5.mono (fun k hk => hT4 k (hT' k hk)))
            obtain ⟨hc0, hz0⟩ := HC.out w5 hk12
            have HF : Hid _ := HErr.out er w5 hk12 (HFail.out er (hbl.trans h3)) hne
            clear HNext HFail hE3 hs3 hO3 hC3 hk13 HErr HC hE hk1 hR1 hk4 h3 hbl hk12 hs4 hE4 hO4 hC4 hk14 hl4 hd4 hk5
            go_wp2
            exact read_caught _ (by rfl) _ _ hc0 hz0 _ HF.out
        · have u1 : ((k : Int) == 1) = false := beq_eq_false_iff_ne.2 (by omega)
          by_cases hkd : k = 2
          · have u2 : ((k : Int) == 2) = true := by simp [hkd]
            have HDc : Hid _ := callsIn_wide.1 (dynamicCodes_r (dynH bs p2) rfl w3 hE3 hs3 hO3 hC3)
            have hbl : blockS bs most k p2 out = match dynH bs p2 with | .error e => .error e | .ok (lz, dz, p) => symsS lz dz bs most (8 * bs.length + 1) p out := by rw [blockS, if_neg hk0, if_neg hkf, if_pos hkd, dyn_head]; cases dynH bs p2 <;> rfl
            go_wp2_with fail
            refine Calls.mono HDc.out ?_
            clear HDc
            rintro e w4 (⟨lz, dz, p4, hdh, T4, LD, DD, l4, d4, hT4, rfl, hE4, hs4, hl4, hd4, hC4, hk4⟩ | ⟨er, hdh, hne, rfl, hk4⟩)
            · rw [hdh] at hbl
              simp only at hbl
              have hge4 := dynH_ge hdh
              have hO4 := (hO3.kept hk4).mono hT4
              have hk14 : Kept (fun k => T k ∨ k = B) w1 w4 := hk13.trans (hk4.mono hT')
              have HB : Hid _ := coded_r lz dz LD DD (symsS lz dz bs most (8 * bs.length + 1) p4 out) (8 * bs.length + 1) rfl (by omega) w4 hE4 hs4 hl4 hd4
              go_wp2_with fail
              refine Calls.mono HB.out ?_
              clear HB
              rintro e w5 (⟨p3, o3, h3, rfl, hs5, hk5⟩ | ⟨er, h3, hne, rfl, hk5⟩)
              · have HF : Hid _ := HNext.out p3 o3 T4 l4 d4 w5 (hbl.trans h3) (Nat.le_trans hge4 (symsS_ge _ _ _ _ _ h3)) hT4 (hE4.kept hk5) hs5 (hO4.kept hk5) (hC4.kept hk5) (hk14.trans (hk5.mono (fun k hk => hT4 k (hT' k hk))))
                clear HNext HFail hE3 hs3 hO3 hC3 hk13 HErr HC hE hk1 hR1 hk4 h3 hbl hs4 hE4 hO4 hC4 hk14 hl4 hd4 hs5 hk5
                go_wp2
                exact HF.out
              · have hk12 : Kept (fun k => T k ∨ k = B) w1 w5 := hk14.trans (hk5.mono (fun k hk => hT4 k (hT' k hk)))
                obtain ⟨hc0, hz0⟩ := HC.out w5 hk12
                have HF : Hid _ := HErr.out er w5 hk12 (HFail.out er (hbl.trans h3)) hne
                clear HNext HFail hE3 hs3 hO3 hC3 hk13 HErr HC hE hk1 hR1 hk4 h3 hbl hk12 hs4 hE4 hO4 hC4 hk14 hl4 hd4 hk5
                go_wp2
                exact read_caught _ (by rfl) _ _ hc0 hz0 _ HF.out
            · rw [hdh] at hbl
              simp only at hbl
              have hk12 : Kept (fun k => T k ∨ k = B) w1 w4 := hk13.trans (hk4.mono hT')
              obtain ⟨hc0, hz0⟩ := HC.out w4 hk12
              have HF : Hid _ := HErr.out er w4 hk12 (HFail.out er hbl) hne
              clear HNext HFail hE3 hs3 hO3 hC3 hk13 HErr HC hE hk1 hR1 hk4 hbl hk12 hdh
              go_wp2
              exact read_caught _ (by rfl) _ _ hc0 hz0 _ HF.out
          · have u2 : ((k : Int) == 2) = false := beq_eq_false_iff_ne.2 (by omega)
            obtain ⟨hc0, hz0⟩ := HC.out w3 hk13
            have HF : Hid _ := HErr.out 12 w3 hk13 (HFail.out 12 (by rw [blockS, if_neg hk0, if_neg hkf, if_neg hkd])) (by omega)
            clear HNext HFail hE3 hs3 hO3 hC3 hk13 HErr HC hE hk1 hR1
            go_wp2
            exact read_caught _ (by rfl) _ _ hc0 hz0 _ HF.out
end Go.Proofs.YtiheajlgaehfmaaDoor
