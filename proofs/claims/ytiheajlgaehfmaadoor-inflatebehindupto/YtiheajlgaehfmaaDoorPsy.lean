/- The program's stream: symbol, room, told. -/
import Derived.Test.YtiheajlgaehfmaaDoorPst
namespace Go.Proofs.YtiheajlgaehfmaaDoor
open Go.RowKit

theorem nextP_taken {zs : List Int} (h : errOf zs = 0) (bs : List Int) (pos : Nat) (hp : pos ≤ 8 * bs.length) : pos + (nextOf zs bs pos).2.2 ≤ 8 * bs.length := by
  have e : nextOf zs bs pos = rn zs (bitFrom bs pos) (8 * bs.length - pos) 15 0 0 := (Good.of_err h).same _ (bitFrom_lt bs pos) _
  have := rn_taken zs (bitFrom bs pos) (8 * bs.length - pos) 15 0 0
  rw [← e] at this
  by_cases h0 : (nextOf zs bs pos).2.1 = 0
  · have := (this.1 h0).1
    omega
  · have := (this.2 h0).2
    omega
theorem nextP_err {zs : List Int} (h : errOf zs = 0) (bs : List Int) (pos : Nat) (h0 : (nextOf zs bs pos).2.1 ≠ 0) : (nextOf zs bs pos).1 = 0 := by
  have e : nextOf zs bs pos = rn zs (bitFrom bs pos) (8 * bs.length - pos) 15 0 0 := (Good.of_err h).same _ (bitFrom_lt bs pos) _
  have := rn_taken zs (bitFrom bs pos) (8 * bs.length - pos) 15 0 0
  rw [← e] at this
  exact (this.2 h0).1
theorem nextP_lt {zs : List Int} (h : errOf zs = 0) (bs : List Int) (pos : Nat) : (nextOf zs bs pos).1 < 320 := by
  have e : nextOf zs bs pos = rn zs (bitFrom bs pos) (8 * bs.length - pos) 15 0 0 := (Good.of_err h).same _ (bitFrom_lt bs pos) _
  have hl := (Good.of_err h).len
  have key : ∀ f k code, (rn zs (bitFrom bs pos) (8 * bs.length - pos) f k code).1 < 320 := by
    intro f
    induction f with
    | zero => intro k code; simp [rn]
    | succ f ih =>
      intro k code
      rw [rn]
      split
      · split
        · split
          · rename_i i hi
            have := List.mem_of_find?_eq_some hi
            simp only [List.mem_range] at this
            show i < 320
            omega
          · exact ih _ _
        · show 0 < 320
          omega
      · show 0 < 320
        omega
  rw [e]
  exact key 15 0 0

/-- A decoder in memory, among the blocks that are not touched. -/
structure DecIn (T : Nat → Prop) (w : World) (D : Nat) (zs : List Int) : Prop where
  ok : errOf zs = 0
  inT : T D
  dec : ∃ base v, Row w D 112 (decA zs v) ∧ w.ownsRow base 3 1 v (symI zs 15).length ((symI zs 15).map (Value.int .i64)) ∧ ∀ k, v.ownBlock = some k → T k
theorem DecIn.kept {T : Nat → Prop} {w w' : World} {D : Nat} {zs : List Int} (h : DecIn T w D zs) (hk : Kept T w w') : DecIn T w' D zs := by
  obtain ⟨base, v, h1, h2, h3⟩ := h.dec
  exact ⟨h.ok, h.inT, base, v, h1.kept hk h.inT, owns_kept h2 hk h3, h3⟩
theorem DecIn.mono {T T' : Nat → Prop} {w : World} {D : Nat} {zs : List Int} (h : DecIn T w D zs) (hT : ∀ k, T k → T' k) : DecIn T' w D zs := by
  obtain ⟨base, v, h1, h2, h3⟩ := h.dec
  exact ⟨h.ok, hT _ h.inT, base, v, h1, h2, fun k hk => hT k (h3 k hk)⟩

theorem pnext_s {T : Nat → Prop} {S Q : Nat} {bs : List Int} {g : Option Addr} {c most pos : Nat} {l d : Value} {out : List Int} (zs : List Int) (D : Nat) (w : World) (hE : PEnv T S Q bs g c most w) (hs : PAt T S Q bs g c most l d pos out w) (hc : DecIn T w D zs) :
    Calls Tryd.prog 69 #[.pointer (some ⟨D, 0, none⟩), .pointer (some ⟨Q, 0, none⟩)] w fun e w' =>
      (∃ x pos', nextS zs bs pos = .ok (x, pos') ∧ x < 320 ∧ e = .returned (.tuple #[.int .i64 (x : Int), .int .i64 0]) ∧ PAt T S Q bs g c most l d pos' out w' ∧ Kept T w w') ∨
      (∃ er, nextS zs bs pos = .error er ∧ er ≠ 0 ∧ e = .returned (.tuple #[.int .i64 0, .int .i64 er]) ∧ Kept T w w') := by
  obtain ⟨base, vd, hD1, hD2, hD3⟩ := hc.dec
  obtain ⟨v, hRS, h2, ho, hnn, hp, hom⟩ := id hs
  obtain ⟨n1, n2, n3⟩ := PAt.ne hRS h2 ho
  have hbnd := nextP_taken hc.ok bs pos hp
  have hx := nextP_lt hc.ok bs pos
  have hT1 : ∀ k, T k → k < w.heap.size ∧ k ≠ Q := fun k hk => ⟨hE.lt k hk, fun e => hE.nQ (e ▸ hk)⟩
  refine (next_any base D Q zs bs g c pos w hc.ok hE.are hE.len ⟨vd, hD1, hD2⟩ h2 (hE.bytes.mono hT1) hp).mono ?_
  rintro e w' ⟨he, h2', hk⟩
  have hkT : Kept T w w' := hk.mono hT1
  by_cases h0 : (nextOf zs bs pos).2.1 = 0
  · rw [h0] at he
    exact .inl ⟨_, _, by rw [nextS, if_pos h0], hx, he, ⟨v, hRS.kept hk ⟨hRS.lt, n1⟩, h2', owns_kept ho hk (fun x hx => ⟨(ho.lt x hx).2, fun e => n3 (e ▸ hx)⟩), hnn, hbnd, hom⟩, hkT⟩
  · rw [nextP_err hc.ok bs pos h0] at he
    exact .inr ⟨_, by rw [nextS, if_neg h0], h0, he, hkT⟩

set_option maxRecDepth 100000 in
set_option maxHeartbeats 1000000 in
/-- symbol: the next symbol of a code, or giving up. -/
theorem symbol_s {T : Nat → Prop} {S Q : Nat} {bs : List Int} {g : Option Addr} {c most pos : Nat} {l d : Value} {out : List Int} (zs : List Int) (D : Nat) (w : World) (hE : PEnv T S Q bs g c most w) (hs : PAt T S Q bs g c most l d pos out w) (hc : DecIn T w D zs) :
    Calls Tryd.prog 51 #[.pointer (some ⟨S, 0, none⟩), .pointer (some ⟨D, 0, none⟩)] w fun e w' =>
      (∃ x pos', nextS zs bs pos = .ok (x, pos') ∧ x < 320 ∧ e = .returned (.int .i64 (x : Int)) ∧ PAt T S Q bs g c most l d pos' out w' ∧ Kept T w w') ∨
      (∃ er, nextS zs bs pos = .error er ∧ er ≠ 0 ∧ e = gaveUp er ∧ Kept T w w') := by
  have HT : Hid _ := pnext_s zs D w hE hs hc
  obtain ⟨v, hR, h2, ho, hnn, hp, hom⟩ := hs
  have c0 := hR.cell (i := 0) (v := .pointer (some ⟨Q, 0, none⟩)) rfl
  clear hR h2 ho hnn hE hc
  go_enter Tryd.func51, Tryd.ntmps51
  go_wp2_with fail
  refine Calls.mono HT.out ?_
  rintro e w' (⟨x, p, h1, hx, rfl, h2, hk⟩ | ⟨er, h1, hne, rfl, hk⟩)
  · have HF : Hid _ := And.intro h1 (And.intro hx (And.intro h2 hk))
    clear h1 h2 hk HT
    go_wp2_with fail
    refine (needI_ok _ _).mono ?_
    rintro e w2 ⟨rfl, rfl⟩
    go_wp2
    go_ret
    exact .inl ⟨x, p, HF.out.1, HF.out.2.1, rfl, HF.out.2.2⟩
  · have HF : Hid _ := And.intro h1 hk
    clear h1 hk HT
    go_wp2_with fail
    refine (needI_err _ _ hne _).mono ?_
    rintro e w2 ⟨rfl, rfl⟩
    go_wp2
    exact ⟨rfl, .inr ⟨er, HF.out.1, hne, rfl, HF.out.2⟩⟩

set_option maxRecDepth 100000 in
set_option maxHeartbeats 1000000 in
/-- room: n bytes more may come, or giving up. -/
theorem room_s {T : Nat → Prop} {S Q : Nat} {bs : List Int} {g : Option Addr} {c most pos : Nat} {l d : Value} {out : List Int} (n : Nat) (hn : n ≤ 8589934592) (w : World) (hE : PEnv T S Q bs g c most w) (hs : PAt T S Q bs g c most l d pos out w) :
    Calls Tryd.prog 48 #[.pointer (some ⟨S, 0, none⟩), .int .i64 (n : Int)] w fun e w' => (∃ q, w' = w.drewN q) ∧
      ((¬ most < out.length + n ∧ e = .returned (.tuple #[])) ∨ (most < out.length + n ∧ e = gaveUp 3)) := by
  obtain ⟨v, hR, h2, ho, hnn, hp, hom⟩ := hs
  obtain ⟨gv, cv, rfl⟩ := owns_form ho
  have hbig := hE.big
  have c1 := hR.cell (i := 1) (v := .slice gv out.length cv) rfl
  have c2 := hR.cell (i := 2) (v := .int .i64 (most : Int)) rfl
  clear hR h2 ho hnn hE
  by_cases h : most < out.length + n
  · have t1 : decide ((most : Int) - (out.length : Int) < (n : Int)) = true := decide_eq_true (by omega)
    go_enter Tryd.func48, Tryd.ntmps48
    go_wp2_with fail
    go_quiet (fail)
    go_wp2
    exact ⟨rfl, ⟨_, rfl⟩, .inr ⟨h, rfl⟩⟩
  · have t1 : decide ((most : Int) - (out.length : Int) < (n : Int)) = false := decide_eq_false (by omega)
    go_enter Tryd.func48, Tryd.ntmps48
    go_wp2_with fail
    go_quiet (fail)
    go_wp2
    go_end0
    exact ⟨⟨_, rfl⟩, .inl ⟨h, rfl⟩⟩

set_option maxRecDepth 100000 in
set_option maxHeartbeats 1000000 in
/-- told: where there is no such symbol. -/
theorem told_no (v a b : Value) (w : World) : Calls Tryd.prog 52 #[v, a, b, .bool false] w fun e w' => e = gaveUp 12 ∧ w' = w := by
  go_enter Tryd.func52, Tryd.ntmps52
  go_wp2
  exact ⟨rfl, rfl, rfl⟩
set_option maxRecDepth 100000 in
set_option maxHeartbeats 1000000 in
/-- told: the number that a symbol and the bits behind it tell, or giving up. -/
theorem told_s {T : Nat → Prop} {S Q : Nat} {bs : List Int} {g : Option Addr} {c most pos : Nat} {l d : Value} {out : List Int} (b n : Nat) (hb : b ≤ 1000000) (hn : n ≤ 13) (w : World) (hE : PEnv T S Q bs g c most w) (hs : PAt T S Q bs g c most l d pos out w) :
    Calls Tryd.prog 52 #[.pointer (some ⟨S, 0, none⟩), .int .i64 (b : Int), .int .i64 (n : Int), .bool true] w fun e w' =>
      (∃ x pos', takeS bs pos n = .ok (x, pos') ∧ x < 4294967296 ∧ e = .returned (.int .i64 ((b + x : Nat) : Int)) ∧ PAt T S Q bs g c most l d pos' out w' ∧ Kept T w w') ∨
      (takeS bs pos n = .error 10 ∧ e = gaveUp 10 ∧ Kept T w w') := by
  have HT : Hid _ := number_s n (by omega) w hE hs
  clear hE hs
  go_enter Tryd.func52, Tryd.ntmps52
  go_wp2_with fail
  refine Calls.mono HT.out ?_
  rintro e w' (⟨x, p, h1, hx, rfl, h2, hk⟩ | ⟨h1, rfl, hk⟩)
  · have HF : Hid _ := And.intro h1 (And.intro hx (And.intro h2 hk))
    clear h1 h2 hk HT
    go_wp2
    go_ret
    exact .inl ⟨x, p, HF.out.1, HF.out.2.1, by congr 1, HF.out.2.2⟩
  · have HF : Hid _ := And.intro h1 hk
    clear h1 hk HT
    go_wp2
    exact ⟨rfl, .inr ⟨HF.out.1, rfl, HF.out.2⟩⟩
end Go.Proofs.YtiheajlgaehfmaaDoor
