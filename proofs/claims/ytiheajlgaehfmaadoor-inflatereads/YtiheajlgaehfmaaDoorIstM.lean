import Derived.Test.YtiheajlgaehfmaaDoorRrtM
import Derived.Test.YtiheajlgaehfmaaDoorRnx
import Derived.Test.YtiheajlgaehfmaaDoorRco
/- The document's stream in memory; put. -/
namespace Go.Proofs.YtiheajlgaehfmaaDoor
open Go.RowKit

/-- The stream at S over the reader at Q: the next bit's place, what has come. Its rows lie outside T. -/
def StrAt (T : Nat → Prop) (S Q : Nat) (bs : List Int) (g : Option Addr) (c most pos : Nat) (out : List Int) (w : World) : Prop :=
  ∃ v, Row w S 50 #[.pointer (some ⟨Q, 0, none⟩), v, .int .i64 (most : Int)] ∧ Two w Q 48 (.slice g bs.length c) (.int .i64 (pos : Int)) ∧ w.ownsRow 0 5 1 v out.length (out.map (Value.int .u8)) ∧ (∀ k, v.ownBlock = some k → ¬ T k) ∧ pos ≤ 8 * bs.length
/-- What holds all along: the blocks that are not touched, the bytes among them. -/
structure Env (T : Nat → Prop) (S Q : Nat) (bs : List Int) (g : Option Addr) (c most : Nat) (w : World) : Prop where
  lt : ∀ k, T k → k < w.heap.size
  nS : ¬ T S
  nQ : ¬ T Q
  bytes : BytesIn T w (.slice g bs.length c) bs
  are : AreBytes bs
  len : bs.length ≤ 140737488351232
  cap : bs.length ≤ c
  nil : g = none → c = 0
  big : most ≤ 65536
theorem Env.kept {T : Nat → Prop} {S Q : Nat} {bs : List Int} {g : Option Addr} {c most : Nat} {w w' : World} (h : Env T S Q bs g c most w) (hk : Kept T w w') : Env T S Q bs g c most w' :=
  ⟨fun k hT => Nat.lt_of_lt_of_le (h.lt k hT) hk.size, h.nS, h.nQ, h.bytes.kept hk, h.are, h.len, h.cap, h.nil, h.big⟩
/-- An error's number, or done. -/
def OpPost (T : Nat → Prop) (S Q : Nat) (bs : List Int) (g : Option Addr) (c most : Nat) (w : World) (R : Except Int (Nat × List Int)) (e : Ending) (w' : World) : Prop :=
  (∃ pos out, R = .ok (pos, out) ∧ e = .returned (.int .i64 0) ∧ StrAt T S Q bs g c most pos out w' ∧ Kept T w w') ∨ (∃ er, R = .error er ∧ er ≠ 0 ∧ e = .returned (.int .i64 er) ∧ Kept T w w')
theorem StrAt.ne {S Q : Nat} {bs : List Int} {g : Option Addr} {c most pos : Nat} {out : List Int} {w : World} {v : Value} (h : Row w S 50 #[.pointer (some ⟨Q, 0, none⟩), v, .int .i64 (most : Int)]) (h2 : Two w Q 48 (.slice g bs.length c) (.int .i64 (pos : Int))) (ho : w.ownsRow 0 5 1 v out.length (out.map (Value.int .u8))) :
    S ≠ Q ∧ v.ownBlock ≠ some S ∧ v.ownBlock ≠ some Q := by
  refine ⟨fun e => ?_, row_ne ho h (by decide), row_ne ho (show Row w Q 48 _ from h2) (by decide)⟩
  have h9 : w.heap[S]? = _ := h
  rw [e, show w.heap[Q]? = _ from h2] at h9
  simp at h9
theorem StrAt.drewN {T : Nat → Prop} {S Q : Nat} {bs : List Int} {g : Option Addr} {c most pos : Nat} {out : List Int} {w : World} (h : StrAt T S Q bs g c most pos out w) (n : Nat) : StrAt T S Q bs g c most pos out (w.drewN n) := h

/-- One more byte behind what has come: memory behind the append and the store. -/
theorem str_push {T : Nat → Prop} {S Q : Nat} {bs : List Int} {g : Option Addr} {c most pos : Nat} {out news : List Int} {w0 w w6 : World} {v v' : Value} {o : Obj} (hT : ∀ k, T k → k < w.heap.size) (hS : ¬ T S)
    (hR : Row w S 50 #[.pointer (some ⟨Q, 0, none⟩), v, .int .i64 (most : Int)]) (h2 : Two w Q 48 (.slice g bs.length c) (.int .i64 (pos : Int))) (ho : w.ownsRow 0 5 1 v out.length (out.map (Value.int .u8))) (hn : ∀ k, v.ownBlock = some k → ¬ T k) (hp : pos ≤ 8 * bs.length) (hk : Kept T w0 w)
    (h6 : w6.ownsRow 0 5 1 v' (out ++ news).length ((out ++ news).map (Value.int .u8))) (hg : (w.alloc o).grownBy w6 v.ownBlock) (hb : ∀ k, v'.ownBlock = some k → v.ownBlock = some k ∨ (w.alloc o).heap.size ≤ k) :
    w6.cell? ⟨S, 1, none⟩ = some v ∧ w6.frozen? ⟨S, 1, none⟩ = false ∧ StrAt T S Q bs g c most pos (out ++ news) (w6.setCell ⟨S, 1, none⟩ v') ∧ Kept T w0 (w6.setCell ⟨S, 1, none⟩ v') := by
  obtain ⟨n1, n2, n3⟩ := StrAt.ne hR h2 ho
  have hR6 : Row w6 S 50 #[.pointer (some ⟨Q, 0, none⟩), v, .int .i64 (most : Int)] := (hg.block S (by rw [World.size_alloc]; have := hR.lt; omega) (fun e => n2 e.symm)).trans (hR.alloc o)
  have h26 : Two w6 Q 48 (.slice g bs.length c) (.int .i64 (pos : Int)) := (hg.block Q (by rw [World.size_alloc]; have := h2.lt; omega) (fun e => n3 e.symm)).trans (h2.alloc o)
  have hk6 : Kept T w0 w6 := (hk.alloc hT o).grown hg (fun k hk => by rw [World.size_alloc]; have := hT k hk; omega) hn
  have kS : Kept (fun x => x ≠ S) w6 (w6.setCell ⟨S, 1, none⟩ v') := (Kept.refl _ w6).setCell (p := ⟨S, 1, none⟩) (by simp) _
  refine ⟨hR6.cell rfl, hR6.frozen 1, ⟨v', ?_, h26.kept kS (fun e => n1 e.symm), owns_kept h6 kS (fun k hk' e => row_ne h6 hR6 (by decide) (e ▸ hk')), fun k hk' => ?_, hp⟩, hk6.setCell (p := ⟨S, 1, none⟩) hS _⟩
  · have := hR6.set 1 v'
    simpa using this
  · rcases hb k hk' with h | h
    · exact hn k h
    · intro hTk
      have := hT k hTk
      rw [World.size_alloc] at h
      omega

set_option maxRecDepth 100000 in
set_option maxHeartbeats 2000000 in
theorem put_any {T : Nat → Prop} {S Q : Nat} {bs : List Int} {g : Option Addr} {c most pos : Nat} {out : List Int} (b : Int) (R : Except Int (Nat × List Int)) (HR : Hid ((if out.length < most then .ok (pos, out ++ [b]) else .error 3) = R)) (w : World) (hE : Env T S Q bs g c most w) (hs : StrAt T S Q bs g c most pos out w) :
    Calls Tryd.prog 61 #[.pointer (some ⟨S, 0, none⟩), .int .u8 b] w (OpPost T S Q bs g c most w R) := by
  obtain ⟨v, hR, h2, ho, hn, hp⟩ := hs
  obtain ⟨gv, cv, rfl⟩ := owns_form ho
  obtain ⟨i0, hi, hz0, hz1, hz2⟩ := info_parts Tryd.info5
  have c1 := hR.cell (i := 1) (v := .slice gv out.length cv) rfl
  have c2 := hR.cell (i := 2) (v := .int .i64 (most : Int)) rfl
  have hbig := hE.big
  by_cases h : out.length < most
  · have ER : Hid (R = .ok (pos, out ++ [b])) := by show _ = _; rw [← HR.out, if_pos h]
    have t1 : ¬ ((most : Int) ≤ (out.length : Int)) := by omega
    have HF : Hid (∀ (n : Nat) (o : Obj) (v' : Value) (w6 : World), w6.ownsRow 0 5 1 v' (out.length + 1) (out.map (Value.int .u8) ++ [.int .u8 b]) → ((w.drewN n).alloc o).grownBy w6 (Value.slice gv out.length cv).ownBlock → (∀ k, v'.ownBlock = some k → (Value.slice gv out.length cv).ownBlock = some k ∨ w.heap.size + 1 ≤ k) →
        w6.cell? ⟨S, 1, none⟩ = some (.slice gv out.length cv) ∧ w6.frozen? ⟨S, 1, none⟩ = false ∧ OpPost T S Q bs g c most w R (.returned (.int .i64 0)) (w6.setCell ⟨S, 1, none⟩ v')) := by
      intro n o v' w6 h6 hg hb
      obtain ⟨a1, a2, a3, a4⟩ := str_push (news := [b]) (w0 := w) (w := w.drewN n) hE.lt hE.nS hR h2 ho hn hp ((Kept.refl T w).drewN n) (by simpa using h6) hg (fun k hk => (hb k hk).imp id (fun h => by rw [World.size_alloc]; exact h))
      exact ⟨a1, a2, .inl ⟨_, _, ER.out, rfl, a3, a4⟩⟩
    have HO : Hid (∀ n : Nat, (w.drewN n).ownsRow 0 5 1 (.slice gv out.length cv) out.length (out.map (Value.int .u8))) := fun n => ho
    clear hR h2 ho hn hE HR ER
    go_enter Tryd.func61, Tryd.ntmps61
    go_wp2_with fail
    go_quiet (fail)
    go_wp2_with (at_builtin; refine wpList_append_own2 _ rfl (.tmp 19) (.tmp 21) 22 rfl 0 5 i0 (.int .u8 0) 1 1 Tryd.underlying22 hi hz0 hz1 hz2 rfl (by decide) _ _ _ rfl ((show (w.drewN _).ownsRow 0 5 1 _ _ _ from HO.out _).alloc _) ⟨w.heap.size, 0, none⟩ 1 1 [.int .u8 b] rfl rfl (cell_one_new _ _ _) (by simp [Value.oneCell']) (by unfold maxLen; omega) (by omega) (by omega) ?_)
    intro v' w6 h6 hg hb
    obtain ⟨g6, c6, rfl⟩ := owns_form h6
    obtain ⟨a1, a2, a3⟩ := HF.out _ _ _ w6 h6 hg hb
    have HA : Hid (OpPost T S Q bs g c most w R (.returned (.int .i64 0)) (w6.setCell ⟨S, 1, none⟩ (.slice g6 (out.length + 1) c6))) := a3
    clear HF HO h6 hg hb a3
    go_wp2
    go_ret
    exact HA.out
  · have ER : Hid (R = .error 3) := by show _ = _; rw [← HR.out, if_neg h]
    have t1 : ((most : Int) ≤ (out.length : Int)) := by omega
    have HF : Hid (∀ n : Nat, OpPost T S Q bs g c most w R (.returned (.int .i64 3)) (w.drewN n)) := fun n => .inr ⟨3, ER.out, by decide, rfl, (Kept.refl T w).drewN n⟩
    clear hR h2 ho hn hE HR ER
    go_enter Tryd.func61, Tryd.ntmps61
    go_wp2_with fail
    go_quiet (fail)
    go_wp2
    go_ret
    exact HF.out _
end Go.Proofs.YtiheajlgaehfmaaDoor
/- The document's stream: its reader's Take, and Next of a code, as steps of the stream. -/
namespace Go.Proofs.YtiheajlgaehfmaaDoor
open Go.RowKit

theorem StrAt.kept {T D : Nat → Prop} {S Q : Nat} {bs : List Int} {g : Option Addr} {c most pos pos' : Nat} {out : List Int} {w w' : World} (h : StrAt T S Q bs g c most pos out w) (hk : Kept D w w') (hD : ∀ x, x < w.heap.size → x ≠ Q → (T x ∨ ¬ T x) → (x = S ∨ (∃ cs, Row w x 5 cs)) → D x)
    (h2 : Two w' Q 48 (.slice g bs.length c) (.int .i64 (pos' : Int))) (hp : pos' ≤ 8 * bs.length) : StrAt T S Q bs g c most pos' out w' := by
  obtain ⟨v, hR, h2', ho, hn, _⟩ := h
  obtain ⟨n1, n2, n3⟩ := StrAt.ne hR h2' ho
  refine ⟨v, hR.kept hk (hD S hR.lt n1 (Classical.em _) (.inl rfl)), h2, owns_kept ho hk (fun x hx => ?_), hn, hp⟩
  rcases ho.2 with ⟨rfl, _⟩ | ⟨gg, cap, cur, rfl, hb, hgg, rest⟩
  · simp [Value.ownBlock] at hx
  · simp only [Value.ownBlock, Option.some.injEq] at hx
    subst hx
    exact hD gg (Array.getElem?_eq_some_iff.1 hgg).1 (fun e => n3 (by rw [← e]; rfl)) (Classical.em _) (.inr ⟨cur, hgg⟩)

/-- Take, as a step of the stream. -/
theorem take_s {T : Nat → Prop} {S Q : Nat} {bs : List Int} {g : Option Addr} {c most pos : Nat} {out : List Int} (n : Nat) (hn : n ≤ 32) (w : World) (hE : Env T S Q bs g c most w) (hs : StrAt T S Q bs g c most pos out w) :
    Calls Tryd.prog 23 #[.pointer (some ⟨Q, 0, none⟩), .int .i64 (n : Int)] w fun e w' =>
      (∃ x pos', takeS bs pos n = .ok (x, pos') ∧ x < 4294967296 ∧ e = .returned (.tuple #[.int .u32 (x : Int), .int .i64 0]) ∧ StrAt T S Q bs g c most pos' out w' ∧ Kept T w w') ∨
      (takeS bs pos n = .error 10 ∧ e = .returned (.tuple #[.int .u32 0, .int .i64 10]) ∧ Kept T w w') := by
  obtain ⟨v, hR, h2, ho, hnn, hp⟩ := id hs
  obtain ⟨n1, n2, n3⟩ := StrAt.ne hR h2 ho
  by_cases h : pos + n ≤ 8 * bs.length
  · refine (refTake_any (fun x => T x ∨ x = S ∨ v.ownBlock = some x) Q g c pos n bs hE.are hE.len w (fun hx => ?_) h2 (hE.bytes.mono (fun x hx => .inl hx)) hn h).mono ?_
    · rcases hx with hx | hx | hx
      · exact hE.nQ hx
      · exact n1 hx.symm
      · exact n3 hx
    · rintro e w' ⟨he, h2', hk⟩
      refine .inl ⟨orFold (upto (bitF bs pos) n), pos + n, by rw [takeS, if_pos h], orFold_lt _, he, ⟨v, hR.kept hk (.inr (.inl rfl)), h2', owns_kept ho hk (fun x hx => .inr (.inr hx)), hnn, h⟩, hk.mono (fun x hx => .inl hx)⟩
  · refine (refTake_end Q g bs.length c pos n w (by have := hE.len; omega) hp h2 (by omega) (by omega) (by omega)).mono ?_
    rintro e w' ⟨he, q, rfl⟩
    exact .inr ⟨by rw [takeS, if_neg h], he, (Kept.refl T w).drewN q⟩

/-- A code in memory: lengths that are right, and their codes, among the blocks that are not touched. -/
structure CodeIn (T : Nat → Prop) (w : World) (vl vc : Value) (zs : List Int) : Prop where
  ok : errOf zs = 0
  lens : ∃ a ca, vl = .slice a zs.length ca ∧ IntsIn T w (.slice a zs.length ca) zs
  codes : ∃ GC, vc = .slice (some ⟨GC, 0, none⟩) zs.length zs.length ∧ Row w GC 51 (u32s (codesOf zs)) ∧ T GC
theorem CodeIn.kept {T : Nat → Prop} {w w' : World} {vl vc : Value} {zs : List Int} (h : CodeIn T w vl vc zs) (hk : Kept T w w') : CodeIn T w' vl vc zs := by
  obtain ⟨a, ca, e1, h1⟩ := h.lens
  obtain ⟨GC, e2, h2, h3⟩ := h.codes
  exact ⟨h.ok, ⟨a, ca, e1, h1.kept hk⟩, ⟨GC, e2, h2.kept hk h3, h3⟩⟩
theorem CodeIn.mono {T T' : Nat → Prop} {w : World} {vl vc : Value} {zs : List Int} (h : CodeIn T w vl vc zs) (hT : ∀ k, T k → T' k) : CodeIn T' w vl vc zs := by
  obtain ⟨a, ca, e1, h1⟩ := h.lens
  obtain ⟨GC, e2, h2, h3⟩ := h.codes
  exact ⟨h.ok, ⟨a, ca, e1, h1.mono hT⟩, ⟨GC, e2, h2, hT _ h3⟩⟩
theorem nextOf_ok {zs : List Int} (h : errOf zs = 0) (bs : List Int) (pos : Nat) : (nextOf zs bs pos).1 < 320 := by
  have e : nextOf zs bs pos = rn zs (bitFrom bs pos) (8 * bs.length - pos) 15 0 0 := (Good.of_err h).same _ (bitFrom_lt bs pos) _
  have hl := (Good.of_err h).len
  have key : ∀ f k code, (rn zs (bitFrom bs pos) (8 * bs.length - pos) f k code).1 < 320 := by
    intro f
    induction f with
    | zero => intro k code; simp [rn]
    | succ f ih =>
      intro k code
      rw [rn]
      split
      · split
        · split
          · rename_i i hi
            have := List.mem_of_find?_eq_some hi
            simp only [List.mem_range] at this
            show i < 320
            omega
          · exact ih _ _
        · show 0 < 320
          omega
      · show 0 < 320
        omega
  rw [e]
  exact key 15 0 0

/-- Next, as a step of the stream. -/
theorem next_s {T : Nat → Prop} {S Q : Nat} {bs : List Int} {g : Option Addr} {c most pos : Nat} {out : List Int} (zs : List Int) (vl vc : Value) (w : World) (hE : Env T S Q bs g c most w) (hs : StrAt T S Q bs g c most pos out w) (hc : CodeIn T w vl vc zs) :
    Calls Tryd.prog 60 #[vl, vc, .pointer (some ⟨Q, 0, none⟩)] w fun e w' =>
      (∃ x pos', nextS zs bs pos = .ok (x, pos') ∧ x < 320 ∧ e = .returned (.tuple #[.int .i64 (x : Int), .int .i64 0]) ∧ StrAt T S Q bs g c most pos' out w' ∧ Kept T w w') ∨
      (∃ er, nextS zs bs pos = .error er ∧ er ≠ 0 ∧ e = .returned (.tuple #[.int .i64 0, .int .i64 er]) ∧ Kept T w w') := by
  obtain ⟨a, ca, rfl, hI⟩ := hc.lens
  obtain ⟨GC, rfl, hR, hT⟩ := hc.codes
  obtain ⟨v, hRS, h2, ho, hnn, hp⟩ := id hs
  have hbnd := nextOf_taken hc.ok bs pos hp
  have hx := nextOf_ok hc.ok bs pos
  have herr : (nextOf zs bs pos).2.1 ≠ 0 → (nextOf zs bs pos).1 = 0 := by
    have e : nextOf zs bs pos = rn zs (bitFrom bs pos) (8 * bs.length - pos) 15 0 0 := (Good.of_err hc.ok).same _ (bitFrom_lt bs pos) _
    have := rn_taken zs (bitFrom bs pos) (8 * bs.length - pos) 15 0 0
    rw [← e] at this
    exact fun h => (this.2 h).1
  refine (refNext_any T GC Q a ca zs bs g c pos w hc.ok hE.are hE.len (fun k hk => ⟨hE.lt k hk, fun e => hE.nQ (e ▸ hk)⟩) hI hR h2 (hE.bytes.mono (fun k hk => ⟨hE.lt k hk, fun e => hE.nQ (e ▸ hk)⟩)) hp).mono ?_
  rintro e w' ⟨he, h2', hk⟩
  have hkT : Kept T w w' := hk.mono (fun k hk => ⟨hE.lt k hk, fun e => hE.nQ (e ▸ hk)⟩)
  by_cases h0 : (nextOf zs bs pos).2.1 = 0
  · rw [h0] at he
    exact .inl ⟨_, _, by rw [nextS, if_pos h0], hx, he, hs.kept hk (fun x h1 h2 _ _ => ⟨h1, h2⟩) h2' hbnd, hkT⟩
  · rw [herr h0] at he
    exact .inr ⟨_, by rw [nextS, if_neg h0], h0, he, hkT⟩
/-- Next, one shape of answer. -/
theorem next_u {T : Nat → Prop} {S Q : Nat} {bs : List Int} {g : Option Addr} {c most pos : Nat} {out : List Int} (zs : List Int) (vl vc : Value) (w : World) (hE : Env T S Q bs g c most w) (hs : StrAt T S Q bs g c most pos out w) (hc : CodeIn T w vl vc zs) :
    Calls Tryd.prog 60 #[vl, vc, .pointer (some ⟨Q, 0, none⟩)] w fun e w' => ∃ (x : Nat) (er : Int), e = .returned (.tuple #[.int .i64 (x : Int), .int .i64 er]) ∧ x < 320 ∧ Kept T w w' ∧
      ((er = 0 ∧ ∃ pos', nextS zs bs pos = .ok (x, pos') ∧ StrAt T S Q bs g c most pos' out w') ∨ (er ≠ 0 ∧ nextS zs bs pos = .error er)) := by
  refine (next_s zs vl vc w hE hs hc).mono ?_
  rintro e w' (⟨x, pos', h1, hx, he, hs', hk⟩ | ⟨er, h1, hne, he, hk⟩)
  · exact ⟨x, 0, he, hx, hk, .inl ⟨rfl, pos', h1, hs'⟩⟩
  · exact ⟨0, er, he, by omega, hk, .inr ⟨hne, h1⟩⟩
end Go.Proofs.YtiheajlgaehfmaaDoor
