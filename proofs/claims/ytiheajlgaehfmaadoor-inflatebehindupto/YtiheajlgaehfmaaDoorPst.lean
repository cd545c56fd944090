/- The program's stream in memory; need, number, symbol, room: an answer, or a panic that bears the error's number. -/
import Derived.Test.YtiheajlgaehfmaaDoorByt
import Derived.Test.YtiheajlgaehfmaaDoorIsp
namespace Go.Proofs.YtiheajlgaehfmaaDoor
open Go.RowKit

/-- Giving up with an error's number. -/
abbrev gaveUp (er : Int) : Ending := .panicked [{ v := .iface 23 (.int .i64 er), recovered := false }]

/-- The program's stream at S over its reader at Q: the next bit's place, what has come. Its rows lie outside T. -/
def PAt (T : Nat → Prop) (S Q : Nat) (bs : List Int) (g : Option Addr) (c most : Nat) (l d : Value) (pos : Nat) (out : List Int) (w : World) : Prop :=
  ∃ v, Row w S 42 #[.pointer (some ⟨Q, 0, none⟩), v, .int .i64 (most : Int), l, d] ∧ Two w Q 63 (.slice g bs.length c) (.int .i64 (pos : Int)) ∧ w.ownsRow 0 5 1 v out.length (out.map (Value.int .u8)) ∧ (∀ k, v.ownBlock = some k → ¬ T k) ∧ pos ≤ 8 * bs.length ∧ out.length ≤ most
/-- What holds all along: the blocks that are not touched, the bytes among them. -/
structure PEnv (T : Nat → Prop) (S Q : Nat) (bs : List Int) (g : Option Addr) (c most : Nat) (w : World) : Prop where
  lt : ∀ k, T k → k < w.heap.size
  nS : ¬ T S
  nQ : ¬ T Q
  bytes : BytesIn T w (.slice g bs.length c) bs
  are : AreBytes bs
  len : bs.length ≤ 140737488351232
  cap : bs.length ≤ c
  nil : g = none → c = 0
  big : most ≤ 65536
theorem PEnv.kept {T : Nat → Prop} {S Q : Nat} {bs : List Int} {g : Option Addr} {c most : Nat} {w w' : World} (h : PEnv T S Q bs g c most w) (hk : Kept T w w') : PEnv T S Q bs g c most w' :=
  ⟨fun k hT => Nat.lt_of_lt_of_le (h.lt k hT) hk.size, h.nS, h.nQ, h.bytes.kept hk, h.are, h.len, h.cap, h.nil, h.big⟩
theorem PAt.ne {S Q : Nat} {bs : List Int} {g : Option Addr} {c pos : Nat} {out : List Int} {w : World} {v : Value} {cs : Array Value} (h : Row w S 42 cs) (h2 : Two w Q 63 (.slice g bs.length c) (.int .i64 (pos : Int))) (ho : w.ownsRow 0 5 1 v out.length (out.map (Value.int .u8))) :
    S ≠ Q ∧ v.ownBlock ≠ some S ∧ v.ownBlock ≠ some Q := by
  refine ⟨fun e => ?_, row_ne ho h (by decide), row_ne ho (show Row w Q 63 _ from h2) (by decide)⟩
  have h9 : w.heap[S]? = _ := h
  rw [e, show w.heap[Q]? = _ from h2] at h9
  simp at h9
theorem PAt.drewN {T : Nat → Prop} {S Q : Nat} {bs : List Int} {g : Option Addr} {c most pos : Nat} {l d : Value} {out : List Int} {w : World} (h : PAt T S Q bs g c most l d pos out w) (n : Nat) : PAt T S Q bs g c most l d pos out (w.drewN n) := h

set_option maxHeartbeats 400000 in
theorem needU_ok (x : Int) (w : World) : Calls Tryd.prog 45 #[.int .u32 x, .int .i64 0] w fun e w' => e = .returned (.int .u32 x) ∧ w' = w := by
  go_enter Tryd.func45, Tryd.ntmps45
  go_wp2
  go_ret
  exact ⟨rfl, rfl⟩
set_option maxHeartbeats 400000 in
theorem needU_err (x : Int) (er : Int) (h : er ≠ 0) (w : World) : Calls Tryd.prog 45 #[.int .u32 x, .int .i64 er] w fun e w' => e = gaveUp er ∧ w' = w := by
  have t1 : (er != 0) = true := by simpa using h
  go_enter Tryd.func45, Tryd.ntmps45
  go_wp2
  exact ⟨rfl, rfl, rfl⟩
set_option maxHeartbeats 400000 in
theorem needI_ok (x : Int) (w : World) : Calls Tryd.prog 68 #[.int .i64 x, .int .i64 0] w fun e w' => e = .returned (.int .i64 x) ∧ w' = w := by
  go_enter Tryd.func68, Tryd.ntmps68
  go_wp2
  go_ret
  exact ⟨rfl, rfl⟩
set_option maxHeartbeats 400000 in
theorem needI_err (x : Int) (er : Int) (h : er ≠ 0) (w : World) : Calls Tryd.prog 68 #[.int .i64 x, .int .i64 er] w fun e w' => e = gaveUp er ∧ w' = w := by
  have t1 : (er != 0) = true := by simpa using h
  go_enter Tryd.func68, Tryd.ntmps68
  go_wp2
  exact ⟨rfl, rfl, rfl⟩
set_option maxHeartbeats 400000 in
theorem needB_ok (a : Option Addr) (n c : Nat) (w : World) : Calls Tryd.prog 49 #[.slice a n c, .int .i64 0] w fun e w' => e = .returned (.slice a n c) ∧ w' = w := by
  go_enter Tryd.func49, Tryd.ntmps49
  go_wp2
  go_ret
  exact ⟨rfl, rfl⟩
set_option maxHeartbeats 400000 in
theorem needB_err (a : Option Addr) (n c : Nat) (er : Int) (h : er ≠ 0) (w : World) : Calls Tryd.prog 49 #[.slice a n c, .int .i64 er] w fun e w' => e = gaveUp er ∧ w' = w := by
  have t1 : (er != 0) = true := by simpa using h
  go_enter Tryd.func49, Tryd.ntmps49
  go_wp2
  exact ⟨rfl, rfl, rfl⟩
set_option maxHeartbeats 400000 in
theorem needD_ok (a : Option Addr) (w : World) : Calls Tryd.prog 54 #[.pointer a, .int .i64 0] w fun e w' => e = .returned (.pointer a) ∧ w' = w := by
  go_enter Tryd.func54, Tryd.ntmps54
  go_wp2
  go_ret
  exact ⟨rfl, rfl⟩
set_option maxHeartbeats 400000 in
theorem needD_err (a : Option Addr) (er : Int) (h : er ≠ 0) (w : World) : Calls Tryd.prog 54 #[.pointer a, .int .i64 er] w fun e w' => e = gaveUp er ∧ w' = w := by
  have t1 : (er != 0) = true := by simpa using h
  go_enter Tryd.func54, Tryd.ntmps54
  go_wp2
  exact ⟨rfl, rfl, rfl⟩

/-- Take, as a step of the stream. -/
theorem ptake_s {T : Nat → Prop} {S Q : Nat} {bs : List Int} {g : Option Addr} {c most pos : Nat} {l d : Value} {out : List Int} (n : Nat) (hn : n ≤ 32) (w : World) (hE : PEnv T S Q bs g c most w) (hs : PAt T S Q bs g c most l d pos out w) :
    Calls Tryd.prog 46 #[.pointer (some ⟨Q, 0, none⟩), .int .i64 (n : Int)] w fun e w' =>
      (∃ x pos', takeS bs pos n = .ok (x, pos') ∧ x < 4294967296 ∧ e = .returned (.tuple #[.int .u32 (x : Int), .int .i64 0]) ∧ PAt T S Q bs g c most l d pos' out w' ∧ Kept T w w') ∨
      (takeS bs pos n = .error 10 ∧ e = .returned (.tuple #[.int .u32 0, .int .i64 10]) ∧ Kept T w w') := by
  obtain ⟨v, hR, h2, ho, hnn, hp, hom⟩ := id hs
  obtain ⟨n1, n2, n3⟩ := PAt.ne hR h2 ho
  by_cases h : pos + n ≤ 8 * bs.length
  · refine (callsIn_wide.1 (take_in (fun x => T x ∨ x = S ∨ v.ownBlock = some x) Q g c pos n bs hE.are hE.len w (fun x hx => ?_) (fun hx => ?_) h2 (hE.bytes.mono (fun x hx => .inl hx)) hn h)).mono ?_
    · rcases hx with hx | hx | hx
      · exact hE.lt x hx
      · rw [hx]; exact hR.lt
      · exact (ho.lt x hx).2
    · rcases hx with hx | hx | hx
      · exact hE.nQ hx
      · exact n1 hx.symm
      · exact n3 hx
    · rintro e w' ⟨he, h2', hk⟩
      refine .inl ⟨orFold (upto (bitF bs pos) n), pos + n, by rw [takeS, if_pos h], orFold_lt _, he, ⟨v, hR.kept hk (.inr (.inl rfl)), h2', owns_kept ho hk (fun x hx => .inr (.inr hx)), hnn, h, hom⟩, hk.mono (fun x hx => .inl hx)⟩
  · refine (take_end Q g bs.length c pos n w (by have := hE.len; omega) hp h2 (by omega) (by omega) (by omega)).mono ?_
    rintro e w' ⟨he, q, rfl⟩
    exact .inr ⟨by rw [takeS, if_neg h], he, (Kept.refl T w).drewN q⟩

set_option maxRecDepth 100000 in
set_option maxHeartbeats 1000000 in
/-- number: so many bits as a number, or giving up. -/
theorem number_s {T : Nat → Prop} {S Q : Nat} {bs : List Int} {g : Option Addr} {c most pos : Nat} {l d : Value} {out : List Int} (n : Nat) (hn : n ≤ 32) (w : World) (hE : PEnv T S Q bs g c most w) (hs : PAt T S Q bs g c most l d pos out w) :
    Calls Tryd.prog 32 #[.pointer (some ⟨S, 0, none⟩), .int .i64 (n : Int)] w fun e w' =>
      (∃ x pos', takeS bs pos n = .ok (x, pos') ∧ x < 4294967296 ∧ e = .returned (.int .i64 (x : Int)) ∧ PAt T S Q bs g c most l d pos' out w' ∧ Kept T w w') ∨
      (takeS bs pos n = .error 10 ∧ e = gaveUp 10 ∧ Kept T w w') := by
  have HT : Hid _ := ptake_s n hn w hE hs
  obtain ⟨v, hR, h2, ho, hnn, hp, hom⟩ := hs
  have c0 := hR.cell (i := 0) (v := .pointer (some ⟨Q, 0, none⟩)) rfl
  clear hR h2 ho hnn hE
  go_enter Tryd.func32, Tryd.ntmps32
  go_wp2_with fail
  refine Calls.mono HT.out ?_
  rintro e w' (⟨x, p, h1, hx, rfl, h2, hk⟩ | ⟨h1, rfl, hk⟩)
  · have HF : Hid _ := And.intro h1 (And.intro hx (And.intro h2 hk))
    clear h1 h2 hk HT
    go_wp2_with fail
    refine (needU_ok _ _).mono ?_
    rintro e w2 ⟨rfl, rfl⟩
    go_wp2
    go_ret
    exact .inl ⟨x, p, HF.out.1, HF.out.2.1, rfl, HF.out.2.2⟩
  · have HF : Hid _ := And.intro h1 hk
    clear h1 hk HT
    go_wp2_with fail
    refine (needU_err _ _ (by omega) _).mono ?_
    rintro e w2 ⟨rfl, rfl⟩
    go_wp2
    exact ⟨rfl, .inr ⟨HF.out.1, rfl, HF.out.2⟩⟩
end Go.Proofs.YtiheajlgaehfmaaDoor
