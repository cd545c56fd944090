import Derived.Test.YtiheajlgaehfmaaDoorTake
import Derived.Test.YtiheajlgaehfmaaDoorRdM
import Derived.Laws.BytesArg
/- The document's reader: Left, bit, Take, Align; the program's Align; and Same of two slices with the same bytes. -/
namespace Go.Proofs.YtiheajlgaehfmaaDoor
open Go.RowKit

set_option maxHeartbeats 400000 in
theorem refLeft_any (R : Nat) (g : Option Addr) (len c pos : Nat) (w : World) (hl : len ≤ 140737488355328) (hp : pos ≤ 8 * len) (h2 : Two w R 48 (.slice g len c) (.int .i64 pos)) :
    Calls Tryd.prog 37 #[.pointer (some ⟨R, 0, none⟩)] w fun e w' => e = .returned (.int .i64 (8 * len - pos : Int)) ∧ ∃ n, w' = w.drewN n := by
  have c0 := h2.cell0
  have c1 := h2.cell1
  go_enter Tryd.func37, Tryd.ntmps37
  go_wp2
  go_quiet (fail)
  go_wp2
  go_ret
  exact ⟨rfl, _, rfl⟩

set_option maxHeartbeats 400000 in
theorem refBit_any (R b off c p : Nat) (v1 : Value) (zs : List Int) (w : World) (hl : zs.length ≤ 140737488355328) (hz : AreBytes zs) (h2 : Two w R 48 (.slice (some ⟨b, off, none⟩) zs.length c) v1) (hp : p < 8 * zs.length)
    (hc : ∀ j : Nat, j < zs.length → w.cell? ⟨b, off + j, none⟩ = some (.int .u8 (zs[j]?.getD 0))) :
    Calls Tryd.prog 38 #[.pointer (some ⟨R, 0, none⟩), .int .i64 p] w fun e w' => e = .returned (.int .u32 (bitAt zs p).1) ∧ w' = w := by
  have c0 := h2.cell0
  have hcx := hc (p / 8) (by omega)
  have hzp := hz (p / 8)
  clear hc hz
  go_enter Tryd.func38, Tryd.ntmps38
  go_wp2
  go_ret
  exact ⟨rfl, rfl⟩

set_option maxHeartbeats 400000 in
theorem refTake_arg (R : Nat) (n : Int) (w : World) (hn : n < 0 ∨ 32 < n) : Calls Tryd.prog 23 #[.pointer (some ⟨R, 0, none⟩), .int .i64 n] w fun e w' => e = .returned (.tuple #[.int .u32 0, .int .i64 1]) ∧ w' = w := by
  rcases hn with h | h
  · go_enter Tryd.func23, Tryd.ntmps23
    go_wp2
    go_ret2
    exact ⟨rfl, rfl⟩
  · have h' : ¬ n < 0 := by omega
    go_enter Tryd.func23, Tryd.ntmps23
    go_wp2
    go_ret2
    exact ⟨rfl, rfl⟩

set_option maxHeartbeats 400000 in
theorem refTake_end (R : Nat) (g : Option Addr) (len c pos : Nat) (n : Int) (w : World) (hl : len ≤ 140737488355328) (hp : pos ≤ 8 * len) (h2 : Two w R 48 (.slice g len c) (.int .i64 pos)) (h0 : 0 ≤ n) (h32 : n ≤ 32) (hn : (8 * len - pos : Int) < n) :
    Calls Tryd.prog 23 #[.pointer (some ⟨R, 0, none⟩), .int .i64 n] w fun e w' => e = .returned (.tuple #[.int .u32 0, .int .i64 10]) ∧ ∃ q, w' = w.drewN q := by
  have t1 : ¬ n < 0 := by omega
  have t2 : ¬ 32 < n := by omega
  go_enter Tryd.func23, Tryd.ntmps23
  go_wp2_with (go_at_call 37; refine (refLeft_any R g len c pos _ hl hp h2).mono ?_; rintro e w' ⟨rfl, q, rfl⟩)
  go_ret2
  exact ⟨rfl, _, rfl⟩

set_option maxHeartbeats 1000000 in
theorem refTake_any (D : Nat → Prop) (R : Nat) (g : Option Addr) (c pos n : Nat) (zs : List Int) (hz : AreBytes zs) (hl : zs.length ≤ 140737488351232) (w : World) (hDR : ¬ D R) (h2 : Two w R 48 (.slice g zs.length c) (.int .i64 pos))
    (hI : BytesIn D w (.slice g zs.length c) zs) (hn : n ≤ 32) (hp : pos + n ≤ 8 * zs.length) :
    Calls Tryd.prog 23 #[.pointer (some ⟨R, 0, none⟩), .int .i64 n] w fun e W' => e = .returned (.tuple #[.int .u32 (orFold (upto (bitF zs pos) n)), .int .i64 0]) ∧ Two W' R 48 (.slice g zs.length c) (.int .i64 ((pos + n : Nat) : Int)) ∧ Kept D w W' := by
  have t1 : ¬ (n : Int) < 0 := by omega
  have t2 : ¬ 32 < (n : Int) := by omega
  have t3 : ¬ (8 : Int) * zs.length - pos < n := by omega
  go_enter Tryd.func23, Tryd.ntmps23
  go_wp2_with (go_at_call 37; refine (refLeft_any R g zs.length c pos _ (by omega) (by omega) h2).mono ?_; rintro e wq ⟨rfl, q, hwq⟩; have hT : Two wq R 48 (.slice g zs.length c) (.int .i64 pos) := hwq ▸ h2.drewN q; have hKq : Kept D w wq := hwq ▸ ⟨rfl, rfl, rfl, Nat.le_refl _, fun _ _ => rfl⟩; clear hwq)
  have c1 := hT.cell1
  have f1 := hT.frozen 1
  go_loop [6, 7] (fun v i => ∃ k : Nat, k ≤ n ∧ i = .int .i64 k ∧ v = .int .u32 (orFold (upto (bitF zs pos) k))) (fun _ i => n - (intOf i).toNat)
  case atStart => exact ⟨0, by omega, rfl, rfl⟩
  case round =>
    obtain ⟨k, hk, rfl, rfl⟩ := hrel
    by_cases hlt : k < n
    · rcases hI with ⟨rfl, _⟩ | ⟨b, off, cap', e, hb, hc⟩
      · simp at hp; omega
      simp only [Value.slice.injEq, true_and] at e
      obtain ⟨rfl, rfl⟩ := e
      have hbit := refBit_any R b off c (pos + k) (.int .i64 pos) zs wq (by omega) hz hT (by omega) (fun j hj => (hKq.cell (p := ⟨b, off + j, none⟩) hb).trans (hc j hj))
      have HS : Hid (bits .or .u32 (orFold (upto (bitF zs pos) k) : Int) ((bitAt zs (pos + k)).1 * 2 ^ k % 4294967296) = (orFold (upto (bitF zs pos) (k + 1)) : Int)) := by
        show _ = _
        have h := orStep_walk (orFold (upto (bitF zs pos) k)) k _ (orFold_lt _) (bitAt zs (pos + k)).2.1
        rw [IntKind.wrap_u32', show min k 32 = k by omega] at h
        rw [h, upto_succ, orFold_snoc]
        rfl
      have hb2 := (bitAt zs (pos + k)).2
      generalize (bitAt zs (pos + k)).1 = B at hbit HS hb2
      rw [Int.natCast_add] at hbit
      clear hc hz
      go_wp2_with (go_at_call 38; refine hbit.mono ?_; rintro e w' ⟨rfl, rfl⟩)
      exact ⟨⟨k + 1, by omega, by go_num, by rw [HS.out]⟩, by simp [intOf]; omega⟩
    · obtain rfl : k = n := by omega
      go_wp2
      go_ret2
      exact ⟨rfl, hT.set1 _, hKq.setCell (p := ⟨R, 1, none⟩) hDR _⟩

set_option maxHeartbeats 400000 in
theorem align_any (R pos : Nat) (v0 : Value) (w : World) (hp : pos ≤ 1125899906842624) (h2 : Two w R 63 v0 (.int .i64 pos)) :
    Calls Tryd.prog 47 #[.pointer (some ⟨R, 0, none⟩)] w fun e w' => e = .returned (.tuple #[]) ∧ w' = w.setCell ⟨R, 1, none⟩ (.int .i64 (((pos + 7) / 8 * 8 : Nat) : Int)) := by
  have c1 := h2.cell1
  have f1 := h2.frozen 1
  go_enter Tryd.func47, Tryd.ntmps47
  go_wp2
  go_end0
  exact ⟨rfl, rfl⟩
set_option maxHeartbeats 400000 in
theorem refAlign_any (R pos : Nat) (v0 : Value) (w : World) (hp : pos ≤ 1125899906842624) (h2 : Two w R 48 v0 (.int .i64 pos)) :
    Calls Tryd.prog 75 #[.pointer (some ⟨R, 0, none⟩)] w fun e w' => e = .returned (.tuple #[]) ∧ w' = w.setCell ⟨R, 1, none⟩ (.int .i64 (((pos + 7) / 8 * 8 : Nat) : Int)) := by
  have c1 := h2.cell1
  have f1 := h2.frozen 1
  go_enter Tryd.func75, Tryd.ntmps75
  go_wp2
  go_end0
  exact ⟨rfl, rfl⟩

theorem conv_bytes (S : Nat → Prop) (w : World) (sv : Value) (zs : List Int) (h : BytesIn S w sv zs) : (convert 22 9 sv).run Tryd.prog w = .ok (.string (strOfNums zs)) w := by
  rcases h with ⟨rfl, a, cap, rfl⟩ | ⟨b, off, cap, rfl, _, hc⟩
  · cases a with
    | none =>
      rw [run_convert_bytes_nil w 22 5 Tryd.underlying22 Tryd.underlying5 _ _ 9 Tryd.underlying9]
      rfl
    | some A =>
      rw [run_convert_bytes_string w 22 9 5 _ _ _ Tryd.underlying22 Tryd.underlying5 Tryd.underlying9, run_bytesToString w A 0 cap [] (by simpa using run_loadCells_list (P := Tryd.prog) w A [] (fun j v hj => by simp at hj))]
      rfl
  · exact run_convert_bytes_arg w 22 5 Tryd.underlying22 Tryd.underlying5 b off zs.length cap zs rfl (fun i hi => by rw [hc i hi]; simp [List.getD]) 9 Tryd.underlying9

set_option maxHeartbeats 400000 in
theorem same_any (S : Nat → Prop) (a1 a2 : Option Addr) (n1 n2 c1 c2 : Nat) (zs : List Int) (w : World) (h1 : BytesIn S w (.slice a1 n1 c1) zs) (h2 : BytesIn S w (.slice a2 n2 c2) zs) :
    Calls Tryd.prog 9 #[.slice a1 n1 c1, .slice a2 n2 c2] w fun e w' => e = .returned (.bool true) ∧ w' = w := by
  have k1 := conv_bytes S w _ zs h1
  have k2 := conv_bytes S w _ zs h2
  clear h1 h2
  go_enter Tryd.func9, Tryd.ntmps9
  go_wp2
  go_ret
  exact ⟨rfl, rfl⟩
end Go.Proofs.YtiheajlgaehfmaaDoor
