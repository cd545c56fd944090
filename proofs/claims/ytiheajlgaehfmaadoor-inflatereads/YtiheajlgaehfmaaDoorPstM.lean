import Derived.Test.YtiheajlgaehfmaaDoorByt
import Derived.Test.YtiheajlgaehfmaaDoorRrtM
import Derived.Test.YtiheajlgaehfmaaDoorOrd
import Derived.Deep.RegionLaw
import Derived.OneCell
/- The program's stream in memory; need, number, symbol, room: an answer, or a panic that bears the error's number. -/
namespace Go.Proofs.YtiheajlgaehfmaaDoor
open Go.RowKit

/-- Giving up with an error's number. -/
abbrev gaveUp (er : Int) : Ending := .panicked [{ v := .iface 23 (.int .i64 er), recovered := false }]

/-- The program's stream at S over its reader at Q: the next bit's place, what has come. Its rows lie outside T. -/
def PAt (T : Nat → Prop) (S Q : Nat) (bs : List Int) (g : Option Addr) (c most : Nat) (l d : Value) (pos : Nat) (out : List Int) (w : World) : Prop :=
  ∃ v, Row w S 42 #[.pointer (some ⟨Q, 0, none⟩), v, .int .i64 (most : Int), l, d] ∧ Two w Q 63 (.slice g bs.length c) (.int .i64 (pos : Int)) ∧ w.ownsRow 0 5 1 v out.length (out.map (Value.int .u8)) ∧ (∀ k, v.ownBlock = some k → ¬ T k) ∧ pos ≤ 8 * bs.length ∧ out.length ≤ most
/-- What holds all along: the blocks that are not touched, the bytes among them. -/
structure PEnv (T : Nat → Prop) (S Q : Nat) (bs : List Int) (g : Option Addr) (c most : Nat) (w : World) : Prop where
  lt : ∀ k, T k → k < w.heap.size
  nS : ¬ T S
  nQ : ¬ T Q
  bytes : BytesIn T w (.slice g bs.length c) bs
  are : AreBytes bs
  len : bs.length ≤ 140737488351232
  cap : bs.length ≤ c
  nil : g = none → c = 0
  big : most ≤ 65536
theorem PEnv.kept {T : Nat → Prop} {S Q : Nat} {bs : List Int} {g : Option Addr} {c most : Nat} {w w' : World} (h : PEnv T S Q bs g c most w) (hk : Kept T w w') : PEnv T S Q bs g c most w' :=
  ⟨fun k hT => Nat.lt_of_lt_of_le (h.lt k hT) hk.size, h.nS, h.nQ, h.bytes.kept hk, h.are, h.len, h.cap, h.nil, h.big⟩
theorem PAt.ne {S Q : Nat} {bs : List Int} {g : Option Addr} {c pos : Nat} {out : List Int} {w : World} {v : Value} {cs : Array Value} (h : Row w S 42 cs) (h2 : Two w Q 63 (.slice g bs.length c) (.int .i64 (pos : Int))) (ho : w.ownsRow 0 5 1 v out.length (out.map (Value.int .u8))) :
    S ≠ Q ∧ v.ownBlock ≠ some S ∧ v.ownBlock ≠ some Q := by
  refine ⟨fun e => ?_, row_ne ho h (by decide), row_ne ho (show Row w Q 63 _ from h2) (by decide)⟩
  have h9 : w.heap[S]? = _ := h
  rw [e, show w.heap[Q]? = _ from h2] at h9
  simp at h9
theorem PAt.drewN {T : Nat → Prop} {S Q : Nat} {bs : List Int} {g : Option Addr} {c most pos : Nat} {l d : Value} {out : List Int} {w : World} (h : PAt T S Q bs g c most l d pos out w) (n : Nat) : PAt T S Q bs g c most l d pos out (w.drewN n) := h

set_option maxHeartbeats 400000 in
theorem needU_ok (x : Int) (w : World) : Calls Tryd.prog 45 #[.int .u32 x, .int .i64 0] w fun e w' => e = .returned (.int .u32 x) ∧ w' = w := by
  go_enter Tryd.func45, Tryd.ntmps45
  go_wp2
  go_ret
  exact ⟨rfl, rfl⟩
set_option maxHeartbeats 400000 in
theorem needU_err (x : Int) (er : Int) (h : er ≠ 0) (w : World) : Calls Tryd.prog 45 #[.int .u32 x, .int .i64 er] w fun e w' => e = gaveUp er ∧ w' = w := by
  have t1 : (er != 0) = true := by simpa using h
  go_enter Tryd.func45, Tryd.ntmps45
  go_wp2
  exact ⟨rfl, rfl, rfl⟩
set_option maxHeartbeats 400000 in
theorem needI_ok (x : Int) (w : World) : Calls Tryd.prog 68 #[.int .i64 x, .int .i64 0] w fun e w' => e = .returned (.int .i64 x) ∧ w' = w := by
  go_enter Tryd.func68, Tryd.ntmps68
  go_wp2
  go_ret
  exact ⟨rfl, rfl⟩
set_option maxHeartbeats 400000 in
theorem needI_err (x : Int) (er : Int) (h : er ≠ 0) (w : World) : Calls Tryd.prog 68 #[.int .i64 x, .int .i64 er] w fun e w' => e = gaveUp er ∧ w' = w := by
  have t1 : (er != 0) = true := by simpa using h
  go_enter Tryd.func68, Tryd.ntmps68
  go_wp2
  exact ⟨rfl, rfl, rfl⟩
set_option maxHeartbeats 400000 in
theorem needB_ok (a : Option Addr) (n c : Nat) (w : World) : Calls Tryd.prog 49 #[.slice a n c, .int .i64 0] w fun e w' => e = .returned (.slice a n c) ∧ w' = w := by
  go_enter Tryd.func49, Tryd.ntmps49
  go_wp2
  go_ret
  exact ⟨rfl, rfl⟩
set_option maxHeartbeats 400000 in
theorem needB_err (a : Option Addr) (n c : Nat) (er : Int) (h : er ≠ 0) (w : World) : Calls Tryd.prog 49 #[.slice a n c, .int .i64 er] w fun e w' => e = gaveUp er ∧ w' = w := by
  have t1 : (er != 0) = true := by simpa using h
  go_enter Tryd.func49, Tryd.ntmps49
  go_wp2
  exact ⟨rfl, rfl, rfl⟩
set_option maxHeartbeats 400000 in
theorem needD_ok (a : Option Addr) (w : World) : Calls Tryd.prog 54 #[.pointer a, .int .i64 0] w fun e w' => e = .returned (.pointer a) ∧ w' = w := by
  go_enter Tryd.func54, Tryd.ntmps54
  go_wp2
  go_ret
  exact ⟨rfl, rfl⟩
set_option maxHeartbeats 400000 in
theorem needD_err (a : Option Addr) (er : Int) (h : er ≠ 0) (w : World) : Calls Tryd.prog 54 #[.pointer a, .int .i64 er] w fun e w' => e = gaveUp er ∧ w' = w := by
  have t1 : (er != 0) = true := by simpa using h
  go_enter Tryd.func54, Tryd.ntmps54
  go_wp2
  exact ⟨rfl, rfl, rfl⟩

/-- Take, as a step of the stream. -/
theorem ptake_s {T : Nat → Prop} {S Q : Nat} {bs : List Int} {g : Option Addr} {c most pos : Nat} {l d : Value} {out : List Int} (n : Nat) (hn : n ≤ 32) (w : World) (hE : PEnv T S Q bs g c most w) (hs : PAt T S Q bs g c most l d pos out w) :
    Calls Tryd.prog 46 #[.pointer (some ⟨Q, 0, none⟩), .int .i64 (n : Int)] w fun e w' =>
      (∃ x pos', takeS bs pos n = .ok (x, pos') ∧ x < 4294967296 ∧ e = .returned (.tuple #[.int .u32 (x : Int), .int .i64 0]) ∧ PAt T S Q bs g c most l d pos' out w' ∧ Kept T w w') ∨
      (takeS bs pos n = .error 10 ∧ e = .returned (.tuple #[.int .u32 0, .int .i64 10]) ∧ Kept T w w') := by
  obtain ⟨v, hR, h2, ho, hnn, hp, hom⟩ := id hs
  obtain ⟨n1, n2, n3⟩ := PAt.ne hR h2 ho
  by_cases h : pos + n ≤ 8 * bs.length
  · refine (callsIn_wide.1 (take_in (fun x => T x ∨ x = S ∨ v.ownBlock = some x) Q g c pos n bs hE.are hE.len w (fun x hx => ?_) (fun hx => ?_) h2 (hE.bytes.mono (fun x hx => .inl hx)) hn h)).mono ?_
    · rcases hx with hx | hx | hx
      · exact hE.lt x hx
      · rw [hx]; exact hR.lt
      · exact (ho.lt x hx).2
    · rcases hx with hx | hx | hx
      · exact hE.nQ hx
      · exact n1 hx.symm
      · exact n3 hx
    · rintro e w' ⟨he, h2', hk⟩
      refine .inl ⟨orFold (upto (bitF bs pos) n), pos + n, by rw [takeS, if_pos h], orFold_lt _, he, ⟨v, hR.kept hk (.inr (.inl rfl)), h2', owns_kept ho hk (fun x hx => .inr (.inr hx)), hnn, h, hom⟩, hk.mono (fun x hx => .inl hx)⟩
  · refine (take_end Q g bs.length c pos n w (by have := hE.len; omega) hp h2 (by omega) (by omega) (by omega)).mono ?_
    rintro e w' ⟨he, q, rfl⟩
    exact .inr ⟨by rw [takeS, if_neg h], he, (Kept.refl T w).drewN q⟩

set_option maxRecDepth 100000 in
set_option maxHeartbeats 1000000 in
/-- number: so many bits as a number, or giving up. -/
theorem number_s {T : Nat → Prop} {S Q : Nat} {bs : List Int} {g : Option Addr} {c most pos : Nat} {l d : Value} {out : List Int} (n : Nat) (hn : n ≤ 32) (w : World) (hE : PEnv T S Q bs g c most w) (hs : PAt T S Q bs g c most l d pos out w) :
    Calls Tryd.prog 32 #[.pointer (some ⟨S, 0, none⟩), .int .i64 (n : Int)] w fun e w' =>
      (∃ x pos', takeS bs pos n = .ok (x, pos') ∧ x < 4294967296 ∧ e = .returned (.int .i64 (x : Int)) ∧ PAt T S Q bs g c most l d pos' out w' ∧ Kept T w w') ∨
      (takeS bs pos n = .error 10 ∧ e = gaveUp 10 ∧ Kept T w w') := by
  have HT : Hid _ := ptake_s n hn w hE hs
  obtain ⟨v, hR, h2, ho, hnn, hp, hom⟩ := hs
  have c0 := hR.cell (i := 0) (v := .pointer (some ⟨Q, 0, none⟩)) rfl
  clear hR h2 ho hnn hE
  go_enter Tryd.func32, Tryd.ntmps32
  go_wp2_with fail
  refine Calls.mono HT.out ?_
  rintro e w' (⟨x, p, h1, hx, rfl, h2, hk⟩ | ⟨h1, rfl, hk⟩)
  · have HF : Hid _ := And.intro h1 (And.intro hx (And.intro h2 hk))
    clear h1 h2 hk HT
    go_wp2_with fail
    refine (needU_ok _ _).mono ?_
    rintro e w2 ⟨rfl, rfl⟩
    go_wp2
    go_ret
    exact .inl ⟨x, p, HF.out.1, HF.out.2.1, rfl, HF.out.2.2⟩
  · have HF : Hid _ := And.intro h1 hk
    clear h1 hk HT
    go_wp2_with fail
    refine (needU_err _ _ (by omega) _).mono ?_
    rintro e w2 ⟨rfl, rfl⟩
    go_wp2
    exact ⟨rfl, .inr ⟨HF.out.1, rfl, HF.out.2⟩⟩
end Go.Proofs.YtiheajlgaehfmaaDoor
/- The program's stream: symbol, room, told. -/
namespace Go.Proofs.YtiheajlgaehfmaaDoor
open Go.RowKit

theorem nextP_taken {zs : List Int} (h : errOf zs = 0) (bs : List Int) (pos : Nat) (hp : pos ≤ 8 * bs.length) : pos + (nextOf zs bs pos).2.2 ≤ 8 * bs.length := by
  have e : nextOf zs bs pos = rn zs (bitFrom bs pos) (8 * bs.length - pos) 15 0 0 := (Good.of_err h).same _ (bitFrom_lt bs pos) _
  have := rn_taken zs (bitFrom bs pos) (8 * bs.length - pos) 15 0 0
  rw [← e] at this
  by_cases h0 : (nextOf zs bs pos).2.1 = 0
  · have := (this.1 h0).1
    omega
  · have := (this.2 h0).2
    omega
theorem nextP_err {zs : List Int} (h : errOf zs = 0) (bs : List Int) (pos : Nat) (h0 : (nextOf zs bs pos).2.1 ≠ 0) : (nextOf zs bs pos).1 = 0 := by
  have e : nextOf zs bs pos = rn zs (bitFrom bs pos) (8 * bs.length - pos) 15 0 0 := (Good.of_err h).same _ (bitFrom_lt bs pos) _
  have := rn_taken zs (bitFrom bs pos) (8 * bs.length - pos) 15 0 0
  rw [← e] at this
  exact (this.2 h0).1
theorem nextP_lt {zs : List Int} (h : errOf zs = 0) (bs : List Int) (pos : Nat) : (nextOf zs bs pos).1 < 320 := by
  have e : nextOf zs bs pos = rn zs (bitFrom bs pos) (8 * bs.length - pos) 15 0 0 := (Good.of_err h).same _ (bitFrom_lt bs pos) _
  have hl := (Good.of_err h).len
  have key : ∀ f k code, (rn zs (bitFrom bs pos) (8 * bs.length - pos) f k code).1 < 320 := by
    intro f
    induction f with
    | zero => intro k code; simp [rn]
    | succ f ih =>
      intro k code
      rw [rn]
      split
      · split
        · split
          · rename_i i hi
            have := List.mem_of_find?_eq_some hi
            simp only [List.mem_range] at this
            show i < 320
            omega
          · exact ih _ _
        · show 0 < 320
          omega
      · show 0 < 320
        omega
  rw [e]
  exact key 15 0 0

/-- A decoder in memory, among the blocks that are not touched. -/
structure DecIn (T : Nat → Prop) (w : World) (D : Nat) (zs : List Int) : Prop where
  ok : errOf zs = 0
  inT : T D
  dec : ∃ base v, Row w D 112 (decA zs v) ∧ w.ownsRow base 3 1 v (symI zs 15).length ((symI zs 15).map (Value.int .i64)) ∧ ∀ k, v.ownBlock = some k → T k
theorem DecIn.kept {T : Nat → Prop} {w w' : World} {D : Nat} {zs : List Int} (h : DecIn T w D zs) (hk : Kept T w w') : DecIn T w' D zs := by
  obtain ⟨base, v, h1, h2, h3⟩ := h.dec
  exact ⟨h.ok, h.inT, base, v, h1.kept hk h.inT, owns_kept h2 hk h3, h3⟩
theorem DecIn.mono {T T' : Nat → Prop} {w : World} {D : Nat} {zs : List Int} (h : DecIn T w D zs) (hT : ∀ k, T k → T' k) : DecIn T' w D zs := by
  obtain ⟨base, v, h1, h2, h3⟩ := h.dec
  exact ⟨h.ok, hT _ h.inT, base, v, h1, h2, fun k hk => hT k (h3 k hk)⟩

theorem pnext_s {T : Nat → Prop} {S Q : Nat} {bs : List Int} {g : Option Addr} {c most pos : Nat} {l d : Value} {out : List Int} (zs : List Int) (D : Nat) (w : World) (hE : PEnv T S Q bs g c most w) (hs : PAt T S Q bs g c most l d pos out w) (hc : DecIn T w D zs) :
    Calls Tryd.prog 69 #[.pointer (some ⟨D, 0, none⟩), .pointer (some ⟨Q, 0, none⟩)] w fun e w' =>
      (∃ x pos', nextS zs bs pos = .ok (x, pos') ∧ x < 320 ∧ e = .returned (.tuple #[.int .i64 (x : Int), .int .i64 0]) ∧ PAt T S Q bs g c most l d pos' out w' ∧ Kept T w w') ∨
      (∃ er, nextS zs bs pos = .error er ∧ er ≠ 0 ∧ e = .returned (.tuple #[.int .i64 0, .int .i64 er]) ∧ Kept T w w') := by
  obtain ⟨base, vd, hD1, hD2, hD3⟩ := hc.dec
  obtain ⟨v, hRS, h2, ho, hnn, hp, hom⟩ := id hs
  obtain ⟨n1, n2, n3⟩ := PAt.ne hRS h2 ho
  have hbnd := nextP_taken hc.ok bs pos hp
  have hx := nextP_lt hc.ok bs pos
  have hT1 : ∀ k, T k → k < w.heap.size ∧ k ≠ Q := fun k hk => ⟨hE.lt k hk, fun e => hE.nQ (e ▸ hk)⟩
  refine (next_any base D Q zs bs g c pos w hc.ok hE.are hE.len ⟨vd, hD1, hD2⟩ h2 (hE.bytes.mono hT1) hp).mono ?_
  rintro e w' ⟨he, h2', hk⟩
  have hkT : Kept T w w' := hk.mono hT1
  by_cases h0 : (nextOf zs bs pos).2.1 = 0
  · rw [h0] at he
    exact .inl ⟨_, _, by rw [nextS, if_pos h0], hx, he, ⟨v, hRS.kept hk ⟨hRS.lt, n1⟩, h2', owns_kept ho hk (fun x hx => ⟨(ho.lt x hx).2, fun e => n3 (e ▸ hx)⟩), hnn, hbnd, hom⟩, hkT⟩
  · rw [nextP_err hc.ok bs pos h0] at he
    exact .inr ⟨_, by rw [nextS, if_neg h0], h0, he, hkT⟩

set_option maxRecDepth 100000 in
set_option maxHeartbeats 1000000 in
/-- symbol: the next symbol of a code, or giving up. -/
theorem symbol_s {T : Nat → Prop} {S Q : Nat} {bs : List Int} {g : Option Addr} {c most pos : Nat} {l d : Value} {out : List Int} (zs : List Int) (D : Nat) (w : World) (hE : PEnv T S Q bs g c most w) (hs : PAt T S Q bs g c most l d pos out w) (hc : DecIn T w D zs) :
    Calls Tryd.prog 51 #[.pointer (some ⟨S, 0, none⟩), .pointer (some ⟨D, 0, none⟩)] w fun e w' =>
      (∃ x pos', nextS zs bs pos = .ok (x, pos') ∧ x < 320 ∧ e = .returned (.int .i64 (x : Int)) ∧ PAt T S Q bs g c most l d pos' out w' ∧ Kept T w w') ∨
      (∃ er, nextS zs bs pos = .error er ∧ er ≠ 0 ∧ e = gaveUp er ∧ Kept T w w') := by
  have HT : Hid _ := pnext_s zs D w hE hs hc
  obtain ⟨v, hR, h2, ho, hnn, hp, hom⟩ := hs
  have c0 := hR.cell (i := 0) (v := .pointer (some ⟨Q, 0, none⟩)) rfl
  clear hR h2 ho hnn hE hc
  go_enter Tryd.func51, Tryd.ntmps51
  go_wp2_with fail
  refine Calls.mono HT.out ?_
  rintro e w' (⟨x, p, h1, hx, rfl, h2, hk⟩ | ⟨er, h1, hne, rfl, hk⟩)
  · have HF : Hid _ := And.intro h1 (And.intro hx (And.intro h2 hk))
    clear h1 h2 hk HT
    go_wp2_with fail
    refine (needI_ok _ _).mono ?_
    rintro e w2 ⟨rfl, rfl⟩
    go_wp2
    go_ret
    exact .inl ⟨x, p, HF.out.1, HF.out.2.1, rfl, HF.out.2.2⟩
  · have HF : Hid _ := And.intro h1 hk
    clear h1 hk HT
    go_wp2_with fail
    refine (needI_err _ _ hne _).mono ?_
    rintro e w2 ⟨rfl, rfl⟩
    go_wp2
    exact ⟨rfl, .inr ⟨er, HF.out.1, hne, rfl, HF.out.2⟩⟩

set_option maxRecDepth 100000 in
set_option maxHeartbeats 1000000 in
/-- room: n bytes more may come, or giving up. -/
theorem room_s {T : Nat → Prop} {S Q : Nat} {bs : List Int} {g : Option Addr} {c most pos : Nat} {l d : Value} {out : List Int} (n : Nat) (hn : n ≤ 8589934592) (w : World) (hE : PEnv T S Q bs g c most w) (hs : PAt T S Q bs g c most l d pos out w) :
    Calls Tryd.prog 48 #[.pointer (some ⟨S, 0, none⟩), .int .i64 (n : Int)] w fun e w' => (∃ q, w' = w.drewN q) ∧
      ((¬ most < out.length + n ∧ e = .returned (.tuple #[])) ∨ (most < out.length + n ∧ e = gaveUp 3)) := by
  obtain ⟨v, hR, h2, ho, hnn, hp, hom⟩ := hs
  obtain ⟨gv, cv, rfl⟩ := owns_form ho
  have hbig := hE.big
  have c1 := hR.cell (i := 1) (v := .slice gv out.length cv) rfl
  have c2 := hR.cell (i := 2) (v := .int .i64 (most : Int)) rfl
  clear hR h2 ho hnn hE
  by_cases h : most < out.length + n
  · have t1 : decide ((most : Int) - (out.length : Int) < (n : Int)) = true := decide_eq_true (by omega)
    go_enter Tryd.func48, Tryd.ntmps48
    go_wp2_with fail
    go_quiet (fail)
    go_wp2
    exact ⟨rfl, ⟨_, rfl⟩, .inr ⟨h, rfl⟩⟩
  · have t1 : decide ((most : Int) - (out.length : Int) < (n : Int)) = false := decide_eq_false (by omega)
    go_enter Tryd.func48, Tryd.ntmps48
    go_wp2_with fail
    go_quiet (fail)
    go_wp2
    go_end0
    exact ⟨⟨_, rfl⟩, .inl ⟨h, rfl⟩⟩

set_option maxRecDepth 100000 in
set_option maxHeartbeats 1000000 in
/-- told: where there is no such symbol. -/
theorem told_no (v a b : Value) (w : World) : Calls Tryd.prog 52 #[v, a, b, .bool false] w fun e w' => e = gaveUp 12 ∧ w' = w := by
  go_enter Tryd.func52, Tryd.ntmps52
  go_wp2
  exact ⟨rfl, rfl, rfl⟩
set_option maxRecDepth 100000 in
set_option maxHeartbeats 1000000 in
/-- told: the number that a symbol and the bits behind it tell, or giving up. -/
theorem told_s {T : Nat → Prop} {S Q : Nat} {bs : List Int} {g : Option Addr} {c most pos : Nat} {l d : Value} {out : List Int} (b n : Nat) (hb : b ≤ 1000000) (hn : n ≤ 13) (w : World) (hE : PEnv T S Q bs g c most w) (hs : PAt T S Q bs g c most l d pos out w) :
    Calls Tryd.prog 52 #[.pointer (some ⟨S, 0, none⟩), .int .i64 (b : Int), .int .i64 (n : Int), .bool true] w fun e w' =>
      (∃ x pos', takeS bs pos n = .ok (x, pos') ∧ x < 4294967296 ∧ e = .returned (.int .i64 ((b + x : Nat) : Int)) ∧ PAt T S Q bs g c most l d pos' out w' ∧ Kept T w w') ∨
      (takeS bs pos n = .error 10 ∧ e = gaveUp 10 ∧ Kept T w w') := by
  have HT : Hid _ := number_s n (by omega) w hE hs
  clear hE hs
  go_enter Tryd.func52, Tryd.ntmps52
  go_wp2_with fail
  refine Calls.mono HT.out ?_
  rintro e w' (⟨x, p, h1, hx, rfl, h2, hk⟩ | ⟨h1, rfl, hk⟩)
  · have HF : Hid _ := And.intro h1 (And.intro hx (And.intro h2 hk))
    clear h1 h2 hk HT
    go_wp2
    go_ret
    exact .inl ⟨x, p, HF.out.1, HF.out.2.1, by congr 1, HF.out.2.2⟩
  · have HF : Hid _ := And.intro h1 hk
    clear h1 hk HT
    go_wp2
    exact ⟨rfl, .inr ⟨HF.out.1, rfl, HF.out.2⟩⟩
end Go.Proofs.YtiheajlgaehfmaaDoor
/- The program's stream: again. -/
namespace Go.Proofs.YtiheajlgaehfmaaDoor
open Go.RowKit

theorem wrapP_of {x : Int} (h0 : -9223372036854775808 ≤ x) (h1 : x ≤ 9223372036854775807) : IntKind.i64.wrap x = x := by
  simp [IntKind.wrap, IntKind.bits, IntKind.signed]
  omega

/-- Bytes more behind what has come: memory behind the append and the store. -/
theorem p_push {T : Nat → Prop} {S Q : Nat} {bs : List Int} {g : Option Addr} {c most pos : Nat} {l d : Value} {out news : List Int} {w0 w w6 : World} {v v' : Value} (hT : ∀ k, T k → k < w.heap.size) (hS : ¬ T S)
    (hR : Row w S 42 #[.pointer (some ⟨Q, 0, none⟩), v, .int .i64 (most : Int), l, d]) (h2 : Two w Q 63 (.slice g bs.length c) (.int .i64 (pos : Int))) (ho : w.ownsRow 0 5 1 v out.length (out.map (Value.int .u8))) (hn : ∀ k, v.ownBlock = some k → ¬ T k) (hp : pos ≤ 8 * bs.length) (hm : (out ++ news).length ≤ most) (hk : Kept T w0 w)
    (h6 : w6.ownsRow 0 5 1 v' (out ++ news).length ((out ++ news).map (Value.int .u8))) (hg : w.grownBy w6 v.ownBlock) (hb : ∀ k, v'.ownBlock = some k → v.ownBlock = some k ∨ w.heap.size ≤ k) :
    w6.cell? ⟨S, 1, none⟩ = some v ∧ w6.frozen? ⟨S, 1, none⟩ = false ∧ PAt T S Q bs g c most l d pos (out ++ news) (w6.setCell ⟨S, 1, none⟩ v') ∧ Kept T w0 (w6.setCell ⟨S, 1, none⟩ v') := by
  obtain ⟨n1, n2, n3⟩ := PAt.ne hR h2 ho
  have hR6 : Row w6 S 42 #[.pointer (some ⟨Q, 0, none⟩), v, .int .i64 (most : Int), l, d] := (hg.block S hR.lt (fun e => n2 e.symm)).trans hR
  have h26 : Two w6 Q 63 (.slice g bs.length c) (.int .i64 (pos : Int)) := (hg.block Q h2.lt (fun e => n3 e.symm)).trans h2
  have hk6 : Kept T w0 w6 := hk.grown hg hT hn
  have kS : Kept (fun x => x ≠ S) w6 (w6.setCell ⟨S, 1, none⟩ v') := (Kept.refl _ w6).setCell (p := ⟨S, 1, none⟩) (by simp) _
  refine ⟨hR6.cell rfl, hR6.frozen 1, ⟨v', ?_, h26.kept kS (fun e => n1 e.symm), owns_kept h6 kS (fun k hk' e => row_ne h6 hR6 (by decide) (e ▸ hk')), fun k hk' => ?_, hp, hm⟩, hk6.setCell (p := ⟨S, 1, none⟩) hS _⟩
  · have := hR6.set 1 v'
    simpa using this
  · rcases hb k hk' with h | h
    · exact hn k h
    · intro hTk
      have := hT k hTk
      omega
/-- What is the slice of the bytes that have come, and the other cells of the stream. -/
theorem PAt.cells {T : Nat → Prop} {S Q : Nat} {bs : List Int} {g : Option Addr} {c most pos : Nat} {l d : Value} {out : List Int} {w : World} (h : PAt T S Q bs g c most l d pos out w) :
    ∃ gv cv, w.cell? ⟨S, 0, none⟩ = some (.pointer (some ⟨Q, 0, none⟩)) ∧ w.cell? ⟨S, 1, none⟩ = some (.slice gv out.length cv) ∧ w.cell? ⟨S, 2, none⟩ = some (.int .i64 (most : Int)) ∧ w.cell? ⟨S, 3, none⟩ = some l ∧ w.cell? ⟨S, 4, none⟩ = some d := by
  obtain ⟨v, hR, h2, ho, hnn, hp, hom⟩ := h
  obtain ⟨gv, cv, rfl⟩ := owns_form ho
  exact ⟨gv, cv, hR.cell rfl, hR.cell rfl, hR.cell rfl, hR.cell rfl, hR.cell rfl⟩

theorem PAt.alloc {T : Nat → Prop} {S Q : Nat} {bs : List Int} {g : Option Addr} {c most pos : Nat} {l d : Value} {out : List Int} {w : World} (h : PAt T S Q bs g c most l d pos out w) (o : Obj) : PAt T S Q bs g c most l d pos out (w.alloc o) := by
  obtain ⟨v, hR, h2, ho, hnn, hp, hom⟩ := h
  exact ⟨v, hR.alloc o, h2.alloc o, ho.alloc o, hnn, hp, hom⟩
theorem copyS_length (far : Nat) : ∀ (n : Nat) (out : List Int), (copyS far n out).length = out.length + n := by
  intro n
  induction n with
  | zero => intro out; rfl
  | succ n ih => intro out; rw [copyS, ih]; simp; omega

set_option maxRecDepth 100000 in
set_option maxHeartbeats 4000000 in
theorem again_s {T : Nat → Prop} {S Q : Nat} {bs : List Int} {g : Option Addr} {c most pos : Nat} {l d : Value} {out : List Int} (n far : Nat) (hn : n ≤ 8589934592) (hf : far ≤ 8589934592) (hf1 : 1 ≤ far) (w : World) (hE : PEnv T S Q bs g c most w) (hs : PAt T S Q bs g c most l d pos out w) :
    Calls Tryd.prog 53 #[.pointer (some ⟨S, 0, none⟩), .int .i64 (n : Int), .int .i64 (far : Int)] w fun e w' =>
      (¬ out.length < far ∧ ¬ most < out.length + n ∧ e = .returned (.tuple #[]) ∧ PAt T S Q bs g c most l d pos (copyS far n out) w' ∧ Kept T w w') ∨
      (out.length < far ∧ e = gaveUp 12 ∧ Kept T w w') ∨ (¬ out.length < far ∧ most < out.length + n ∧ e = gaveUp 3 ∧ Kept T w w') := by
  obtain ⟨gv, cv, c0, c1, c2, c3, c4⟩ := hs.cells
  have hbig := hE.big
  have hom : out.length ≤ most := by obtain ⟨v, hR, h2, ho, hnn, hp, hom⟩ := hs; exact hom
  have HRm : Hid _ := room_s n hn w hE hs
  clear c0 c2 c3 c4
  by_cases h : out.length < far
  · have t1 : decide ((out.length : Int) < (far : Int)) = true := decide_eq_true (by omega)
    clear hE hs HRm
    go_enter Tryd.func53, Tryd.ntmps53
    go_wp2
    exact ⟨rfl, .inr (.inl ⟨h, rfl, Kept.refl _ _⟩)⟩
  · have t1 : decide ((out.length : Int) < (far : Int)) = false := decide_eq_false (by omega)
    go_enter Tryd.func53, Tryd.ntmps53
    go_wp2_with fail
    refine Calls.mono HRm.out ?_
    clear HRm
    rintro e w1 ⟨⟨q, rfl⟩, (⟨h3, rfl⟩ | ⟨h3, rfl⟩)⟩
    rotate_left
    · clear hE hs
      go_wp2
      exact ⟨rfl, .inr (.inr ⟨h, h3, rfl, (Kept.refl _ _).drewN q⟩)⟩
    · go_wp2_with fail
      have hs1 : PAt T S Q bs g c most l d pos out (w.drewN q) := hs.drewN q
      have hk1 : Kept T w (w.drewN q) := (Kept.refl _ _).drewN q
      generalize w.drewN q = w1 at hs1 hk1 ⊢
      clear c1 t1
      go_loopw [18] (fun v18 wr => ∃ (i : Nat) (os : List Int), i ≤ n ∧ v18 = .int .i64 (i : Int) ∧ copyS far (n - i) os = copyS far n out ∧ os.length = out.length + i ∧ PAt T S Q bs g c most l d pos os wr ∧ Kept T w wr) (fun v18 _ => n - (intOf v18).toNat)
      case atStart => exact ⟨0, out, by omega, rfl, rfl, rfl, hs1, hk1⟩
      case round =>
        obtain ⟨i, os, hi, rfl, hcp, hol, hsr, hkr⟩ := hrel
        by_cases hlt : i < n
        · obtain ⟨v, hR, h2, ho, hn', hp, hom'⟩ := hsr
          obtain ⟨gv5, cv5, rfl⟩ := owns_form ho
          obtain ⟨gb, rfl⟩ : ∃ gb, gv5 = some ⟨gb, 0, none⟩ := by
            rcases ho.2 with ⟨_, h9⟩ | ⟨gb, _, _, e, _⟩
            · omega
            · simp only [Value.slice.injEq] at e
              exact ⟨gb, e.1⟩
          have hce := ho.cells (g := gb) rfl (os.length - far) (.int .u8 (os[os.length - far]?.getD 0)) (by simp [show os.length - far < os.length by omega])
          have hadd : (⟨gb, 0, none⟩ : Addr).add (os.length - far) = ⟨gb, os.length - far, none⟩ := by unfold Addr.add; split <;> simp_all
          rw [hadd] at hce
          have HCP : Hid (copyS far (n - (i + 1)) (os ++ [os[os.length - far]?.getD 0]) = copyS far n out) := by
            show _ = _
            rw [← hcp, show n - i = (n - (i + 1)) + 1 by omega, copyS]
          generalize os[os.length - far]?.getD 0 = b at hce HCP
          have hEr := hE.kept hkr
          have c1 := hR.cell (i := 1) (v := .slice (some ⟨gb, 0, none⟩) os.length cv5) rfl
          have hsub : (os.length : Int) - (far : Int) = ((os.length - far : Nat) : Int) := by omega
          have hidx : os.length - far < os.length := by omega
          have HS : Hid (wr.drew.cell? ⟨S, 1, none⟩ = some (.slice (some ⟨gb, 0, none⟩) os.length cv5) ∧ wr.drew.cell? ⟨gb, os.length - far, none⟩ = some (.int .u8 b)) := ⟨c1, hce⟩
          have HS2 : Hid ((wr.drew.alloc (.cells #[.int .u8 b] 5)).cell? ⟨S, 1, none⟩ = some (.slice (some ⟨gb, 0, none⟩) os.length cv5) ∧ (wr.drew.alloc (.cells #[.int .u8 b] 5)).cell? ⟨gb, os.length - far, none⟩ = some (.int .u8 b)) := by
            have hb2 := (Kept.refl (fun k => k < wr.drew.heap.size) wr.drew).alloc (fun _ h => h) (.cells #[.int .u8 b] 5)
            exact ⟨(hb2.cell (p := ⟨S, 1, none⟩) hR.lt).trans c1, (hb2.cell (p := ⟨gb, os.length - far, none⟩) (ho.lt gb rfl).2).trans hce⟩
          have HO : Hid ((wr.drew.alloc (.cells #[.int .u8 b] 5)).ownsRow 0 5 1 (.slice (some ⟨gb, 0, none⟩) os.length cv5) os.length (os.map (Value.int .u8))) := (show wr.drew.ownsRow 0 5 1 _ _ _ from ho).alloc _
          have HNW : Hid (∀ (j : Nat) (u : Value), ([Value.int .u8 b])[j]? = some u → (wr.drew.alloc (.cells #[.int .u8 b] 5)).cell? ((⟨wr.drew.heap.size, 0, none⟩ : Addr).add j) = some u) := cell_one_new wr.drew (.int .u8 b) 5
          have HF : Hid (∀ (v' : Value) (w6 : World), w6.ownsRow 0 5 1 v' (os.length + 1) (os.map (Value.int .u8) ++ [.int .u8 b]) → (wr.drew.alloc (.cells #[.int .u8 b] 5)).grownBy w6 (Value.slice (some ⟨gb, 0, none⟩) os.length cv5).ownBlock → (∀ k, v'.ownBlock = some k → (Value.slice (some ⟨gb, 0, none⟩) os.length cv5).ownBlock = some k ∨ (wr.drew.alloc (.cells #[.int .u8 b] 5)).heap.size ≤ k) →
              w6.cell? ⟨S, 1, none⟩ = some (.slice (some ⟨gb, 0, none⟩) os.length cv5) ∧ w6.frozen? ⟨S, 1, none⟩ = false ∧ PAt T S Q bs g c most l d pos (os ++ [b]) (w6.setCell ⟨S, 1, none⟩ v') ∧ Kept T w (w6.setCell ⟨S, 1, none⟩ v')) := by
            intro v' w6 h6 hg hbk
            have hEa := (hEr.kept ((Kept.refl T wr).drew)).kept ((Kept.refl T wr.drew).alloc hEr.lt (.cells #[.int .u8 b] 5))
            exact p_push (news := [b]) (w0 := w) (w := wr.drew.alloc (.cells #[.int .u8 b] 5)) hEa.lt hE.nS (hR.alloc _) (h2.alloc _) ((show wr.drew.ownsRow 0 5 1 _ _ _ from ho).alloc _) hn' hp (by simp; omega) (hkr.drew.alloc hEr.lt _) (by simpa using h6) hg hbk
          have hol2 : os.length ≤ 65536 := by omega
          have hw1 : IntKind.i64.wrap ((os.length : Int) - (far : Int)) = ((os.length - far : Nat) : Int) := by rw [hsub]; exact wrapP_of (by omega) (by omega)
          obtain ⟨i0, hi0, hz0, hz1, hz2⟩ := info_parts Tryd.info5
          have HOL : Hid (os.length = out.length + i) := hol
          clear hR h2 ho hn' hp hkr hEr hs1 hk1 hE hadd hol hcp hsub c1 hce hs
          go_wp2_with fail
          refine wp_region_K (fun wx => wx.cell? ⟨S, 1, none⟩ = some (.slice (some ⟨gb, 0, none⟩) os.length cv5) ∧ wx.cell? ⟨gb, os.length - far, none⟩ = some (.int .u8 b)) (fun j => decide (1 ≤ j) && decide (j ≤ 18)) (by kernel_rfl) ?_
          refine wpK_free (k := 0) (v := ?_) rfl (by kernel_rfl) (by kernel_rfl) (fun _ _ _ h => h) rfl (by intro wx; go_simp <;> rfl) ?_
          refine wpK_held (k := 1) (v := ?_) rfl (by kernel_rfl) (by kernel_rfl) (fun _ _ _ h => h) rfl (by rintro wx ⟨hx1, hx2⟩; go_simp <;> rfl) HS.out ?_
          refine wpK_held (k := 2) (v := ?_) rfl (by kernel_rfl) (by kernel_rfl) (fun _ _ _ h => h) rfl (by rintro wx ⟨hx1, hx2⟩; go_simp <;> rfl) HS.out ?_
          refine wpK_held (k := 3) (v := ?_) rfl (by kernel_rfl) (by kernel_rfl) (fun _ _ _ h => h) rfl (by rintro wx ⟨hx1, hx2⟩; go_simp <;> rfl) HS.out ?_
          refine wpK_held (k := 4) (v := ?_) rfl (by kernel_rfl) (by kernel_rfl) (fun _ _ _ h => h) rfl (by rintro wx ⟨hx1, hx2⟩; go_simp <;> rfl) HS.out ?_
          refine wpK_held (k := 5) (v := ?_) rfl (by kernel_rfl) (by kernel_rfl) (fun _ _ _ h => h) rfl (by rintro wx ⟨hx1, hx2⟩; go_simp <;> rfl) HS.out ?_
          refine wpK_held (k := 6) (v := ?_) rfl (by kernel_rfl) (by kernel_rfl) (fun _ _ _ h => h) rfl (by rintro wx ⟨hx1, hx2⟩; go_simp <;> rfl) HS.out ?_
          refine wpK_held (k := 7) (v := ?_) rfl (by kernel_rfl) (by kernel_rfl) (fun _ _ _ h => h) rfl (by rintro wx ⟨hx1, hx2⟩; go_simp <;> rfl) HS.out ?_
          refine wpK_held (k := 8) (v := ?_) rfl (by kernel_rfl) (by kernel_rfl) (fun _ _ _ h => h) rfl (by rintro wx ⟨hx1, hx2⟩; go_simp <;> rfl) HS.out ?_
          refine wpK_held (k := 9) (v := ?_) rfl (by kernel_rfl) (by kernel_rfl) (fun _ _ _ h => h) rfl (by rintro wx ⟨hx1, hx2⟩; go_simp <;> rfl) HS.out ?_
          refine wpK_held (k := 10) (v := ?_) rfl (by kernel_rfl) (by kernel_rfl) (fun _ _ _ h => h) rfl (by rintro wx ⟨hx1, hx2⟩; go_simp <;> rfl) HS.out ?_
          refine wpK_held (k := 11) (v := ?_) rfl (by kernel_rfl) (by kernel_rfl) (fun _ _ _ h => h) rfl (by rintro wx ⟨hx1, hx2⟩; go_simp <;> rfl) HS.out ?_
          refine wpK_held (k := 12) (v := ?_) rfl (by kernel_rfl) (by kernel_rfl) (fun _ _ _ h => h) rfl (by rintro wx ⟨hx1, hx2⟩; go_simp <;> rfl) HS.out ?_
          refine wpK_held (k := 13) (v := ?_) rfl (by kernel_rfl) (by kernel_rfl) (fun _ _ _ h => h) rfl (by rintro wx ⟨hx1, hx2⟩; go_simp <;> rfl) HS.out ?_
          refine wpK_held (k := 14) (v := ?_) rfl (by kernel_rfl) (by kernel_rfl) (fun _ _ _ h => h) rfl (by rintro wx ⟨hx1, hx2⟩; go_simp <;> rfl) HS.out ?_
          refine wpK_held (k := 15) (v := ?_) rfl (by kernel_rfl) (by kernel_rfl) (fun _ _ _ h => h) rfl (by rintro wx ⟨hx1, hx2⟩; go_simp <;> rfl) HS.out ?_
          refine wpK_held (k := 16) (v := ?_) rfl (by kernel_rfl) (by kernel_rfl) (fun _ _ _ h => h) rfl (by rintro wx ⟨hx1, hx2⟩; go_simp <;> rfl) HS.out ?_
          refine wpK_held (k := 17) (v := ?_) rfl (by kernel_rfl) (by kernel_rfl) (fun _ _ _ h => h) rfl (by rintro wx ⟨hx1, hx2⟩; go_simp <;> rfl) HS.out ?_
          refine wpK_one (k := 18) rfl (by kernel_rfl) ?_
          go_wp2_with fail
          refine ⟨fun _ => HS2.out, ?_⟩
          refine wpK_rest 19 (by kernel_rfl) 4 19 (by decide) (by decide) _ _ ?_
          simp only [List.drop_succ_cons, List.drop_zero]
          go_wp2_with (at_builtin; refine wpList_append_own2 _ rfl (.tmp 24) (.tmp 38) 22 rfl 0 5 i0 (.int .u8 0) 1 1 Tryd.underlying22 hi0 hz0 hz1 hz2 rfl (by decide) (.slice (some ⟨gb, 0, none⟩) os.length cv5) os.length (os.map (Value.int .u8)) rfl HO.out ⟨wr.drew.heap.size, 0, none⟩ 1 1 [.int .u8 b] rfl rfl HNW.out (by simp [Value.oneCell']) (by unfold maxLen; omega) (by omega) (by omega) ?_)
          intro v' w6 h6 hg hb
          obtain ⟨g6, c6, rfl⟩ := owns_form h6
          obtain ⟨a1, a2, a3, a4⟩ := HF.out _ w6 h6 hg (fun k hk => (hb k hk).imp id (fun h => by rw [World.size_alloc]; exact h))
          have HA : Hid _ := And.intro a3 a4
          clear HF HO HNW HS HS2 h6 hg hb a3 a4
          go_wp2
          exact ⟨⟨i + 1, os ++ [b], by omega, by simp, HCP.out, by rw [List.length_append, HOL.out]; rfl, HA.out.1, HA.out.2⟩, by simp [intOf]; omega⟩
        · obtain rfl : i = n := by omega
          rw [Nat.sub_self] at hcp
          have HF : Hid (PAt T S Q bs g c most l d pos (copyS far i out) wr ∧ Kept T w wr) := by
            rw [← hcp]
            exact ⟨hsr, hkr⟩
          clear hsr hkr hcp hs1 hk1 hs hE
          go_wp2
          go_end0
          exact .inl ⟨h, h3, rfl, HF.out.1, HF.out.2⟩
end Go.Proofs.YtiheajlgaehfmaaDoor
