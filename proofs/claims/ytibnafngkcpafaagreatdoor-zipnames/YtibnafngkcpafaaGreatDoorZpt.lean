/- Numbers of whole bytes are written: newNumbers, put, twos, fours. -/
import Derived.Test.YtibnafngkcpafaaGreatDoorZnm
import Derived.Test.YtibnafngkcpafaaGreatDoorWb
import Derived.Test.YtibnafngkcpafaaGreatDoorTab
import Derived.Laws.ResultCell
namespace Go.Proofs.YtibnafngkcpafaaGreatDoor
open Go.RowKit

theorem IsWr.mono {S T : Nat → Prop} {w : World} {R : Nat} {ys : List Int} {sz : Nat} (h : IsWr S w R ys sz) (hT : ∀ k, T k → S k) : IsWr T w R ys sz := by
  obtain ⟨g, c, h1, h2, h3⟩ := h
  exact ⟨g, c, h1, h2, fun k hk ht => h3 k hk (hT k ht)⟩
theorem IsWr.alloc {T : Nat → Prop} {w : World} {R : Nat} {ys : List Int} {sz : Nat} (h : IsWr T w R ys sz) (o : Obj) : IsWr (fun k => T k ∨ k = w.heap.size) (w.alloc o) R ys sz := by
  obtain ⟨g, c, h1, h2, h3⟩ := h
  refine ⟨g, c, h1.alloc o, h2.alloc o, fun k hk => ?_⟩
  rintro (ht | rfl)
  · exact h3 k hk ht
  · have := (h2.lt _ hk).2; omega
theorem IsWr.alloc' {T : Nat → Prop} {w : World} {R : Nat} {ys : List Int} {sz : Nat} (h : IsWr T w R ys sz) (o : Obj) : IsWr T (w.alloc o) R ys sz := (h.alloc o).mono (fun _ => .inl)
theorem IsWr.lt {T : Nat → Prop} {w : World} {R : Nat} {ys : List Int} {sz : Nat} (h : IsWr T w R ys sz) : R < w.heap.size := by
  obtain ⟨g, c, h1, _⟩ := h
  exact h1.lt

/-- The bytes of some numbers. -/
def les (size : Nat) (vs : List Nat) : List Int := vs.flatMap (le · size)
theorem les_nil (size : Nat) : les size [] = [] := rfl
theorem les_snoc (size : Nat) (vs : List Nat) (v : Nat) : les size (vs ++ [v]) = les size vs ++ le v size := by simp [les]
theorem les_length (size : Nat) (vs : List Nat) : (les size vs).length = size * vs.length := by
  induction vs with
  | nil => rfl
  | cons v vs ih => simp only [les, List.flatMap_cons, List.length_append, le_length, List.length_cons] at *; rw [ih, Nat.mul_add]; omega

set_option maxRecDepth 100000 in
set_option maxHeartbeats 1000000 in
theorem newNumbers_two (w : World) :
    Calls Tryz.prog 16 #[] w fun e w' => e = .returned (.agg #[.pointer (some ⟨w.heap.size + 1, 0, none⟩)]) ∧ Two w' (w.heap.size + 1) 71 (.slice none 0 0) (.int .i64 0) ∧ Below w.heap.size w w' := by
  have hR0 := Row.new w 42 #[.pointer none]
  have hb0 : Below w.heap.size w (w.alloc (.cells #[.pointer none] 42)) := (Below.refl _ w).alloc (Nat.le_refl _) _
  have hs0 : (w.alloc (.cells #[.pointer none] 42)).heap.size = w.heap.size + 1 := by simp
  go_enter Tryz.func16, Tryz.ntmps16
  go_wp2_with fail
  generalize w.alloc (.cells #[.pointer none] 42) = w0 at hR0 hb0 hs0 ⊢
  refine (newWriter_any w0).mono ?_
  rw [hs0]
  rintro e w1 ⟨rfl, hw1⟩
  have hR1 : Row w1 w.heap.size 42 #[.pointer none] := by subst hw1; exact hR0.alloc _
  have hW1 : Two w1 (w.heap.size + 1) 71 (.slice none 0 0) (.int .i64 0) := by subst hw1; rw [← hs0]; exact Two.new w0 71 _ _
  have hb1 : Below w.heap.size w w1 := by subst hw1; exact hb0.alloc (by omega) _
  have HS : Hid (w1.heap.size = w.heap.size + 2) := by subst hw1; show _ = _; simp; omega
  clear hw1 hR0 hb0 hs0
  have c0 := hR1.cell (i := 0) rfl
  have f0 := hR1.frozen 0
  go_wp2
  refine bodyPost_ret (v := .agg #[.pointer (some ⟨w.heap.size + 1, 0, none⟩)]) (results_cell_row rfl _ _ w.heap.size 42 _ (0, 0) _ rfl (hR1.set 0 _) Tryz.underlying42 rfl (by kernel_rfl)) rfl ⟨rfl, ?_, ?_⟩
  · exact hW1.other (p := ⟨w.heap.size, 0, none⟩) (by simp) _
  · exact hb1.setCell (p := ⟨w.heap.size, 0, none⟩) (Nat.le_refl _) _
theorem newNumbers_any (w : World) :
    Calls Tryz.prog 16 #[] w fun e w' => e = .returned (.agg #[.pointer (some ⟨w.heap.size + 1, 0, none⟩)]) ∧ IsWr (· < w.heap.size + 1) w' (w.heap.size + 1) [] 0 ∧ Below w.heap.size w w' := by
  refine (newNumbers_two w).mono ?_
  rintro e w' ⟨rfl, h2, hb⟩
  exact ⟨rfl, ⟨none, 0, h2, ⟨rfl, .inl ⟨rfl, rfl⟩⟩, fun k hk => by simp [Value.ownBlock] at hk⟩, hb⟩

set_option maxRecDepth 100000 in
set_option maxHeartbeats 1000000 in
theorem numput_any (T : Nat → Prop) (R : Nat) (ys : List Int) (size : Nat) (B cap : Nat) (vs : List Nat) (w : World) (hsz : size ≤ 4) (hW : IsWr T w R ys (8 * ys.length)) (hT : ∀ k, T k → k < w.heap.size) (hTR : ¬ T R) (hTB : T B)
    (hc : ∀ j : Nat, j < vs.length → w.cell? ⟨B, j, none⟩ = some (.int .i64 ((vs[j]?.getD 0 : Nat) : Int))) (hv : ∀ j : Nat, vs[j]?.getD 0 < 4294967296) (hl : vs.length ≤ 100) (hy : ys.length ≤ 100000000000) :
    Calls Tryz.prog 56 #[.agg #[.pointer (some ⟨R, 0, none⟩)], .int .i64 (size : Int), .slice (some ⟨B, 0, none⟩) vs.length cap] w fun e w' => e = .returned (.tuple #[]) ∧ IsWr T w' R (ys ++ les size vs) (8 * (ys ++ les size vs).length) ∧ Kept T w w' := by
  have hR0 := Row.new w 42 #[.pointer (some ⟨R, 0, none⟩)]
  have hW0 : IsWr (fun k => T k ∨ k = w.heap.size) (w.alloc (.cells #[.pointer (some ⟨R, 0, none⟩)] 42)) R ys (8 * ys.length) := hW.alloc _
  have hk0 : Kept T w (w.alloc (.cells #[.pointer (some ⟨R, 0, none⟩)] 42)) := (Kept.refl T w).alloc hT _
  have hs0 : (w.alloc (.cells #[.pointer (some ⟨R, 0, none⟩)] 42)).heap.size = w.heap.size + 1 := by simp
  have hRl := hW.lt
  clear hW
  go_enter Tryz.func56, Tryz.ntmps56
  go_wp2
  generalize w.alloc (.cells #[.pointer (some ⟨R, 0, none⟩)] 42) = w0 at hR0 hW0 hk0 hs0 ⊢
  have HS0 : Hid (w0.heap.size = w.heap.size + 1) := hs0
  clear hs0
  go_loopw [10] (fun i wr => ∃ k : Nat, k ≤ vs.length ∧ i = .int .i64 k ∧ IsWr (fun k => T k ∨ k = w.heap.size) wr R (ys ++ les size (vs.take k)) (8 * (ys ++ les size (vs.take k)).length) ∧ Kept (fun k => T k ∨ k = w.heap.size) w0 wr) (fun i _ => vs.length - (intOf i).toNat)
  case atStart => exact ⟨0, by omega, rfl, by simpa [les] using hW0, Kept.refl _ _⟩
  case round =>
    obtain ⟨k, hk, rfl, hI, hK⟩ := hrel
    by_cases hlt : k < vs.length
    · have hcr : wr.cell? ⟨B, k, none⟩ = some (.int .i64 ((vs[k]?.getD 0 : Nat) : Int)) := (hK.cell (p := ⟨B, k, none⟩) (.inl hTB)).trans ((hk0.cell (p := ⟨B, k, none⟩) hTB).trans (hc k hlt))
      have hRr := hR0.kept hK (.inr rfl)
      have c0 := hRr.cell (i := 0) rfl
      have hvk := hv k
      have HLS : Hid (les size (vs.take (k + 1)) = les size (vs.take k) ++ le (vs[k]?.getD 0) size) := by
        show _ = _
        rw [List.take_succ_eq_append_getElem hlt, les_snoc, List.getElem?_eq_getElem hlt]; rfl
      have hu : IntKind.u32.wrap (((vs[k]?.getD 0 : Nat)) : Int) = ((vs[k]?.getD 0 : Nat) : Int) := by simp [IntKind.wrap, IntKind.bits, IntKind.signed]; omega
      have HYL : Hid ((ys ++ les size (vs.take k)).length ≤ 100000000400) := by
        have h1 : (vs.take k).length ≤ k := List.length_take_le _ _
        have h2 : size * (vs.take k).length ≤ 4 * 100 := Nat.mul_le_mul hsz (by omega)
        show _ ≤ _
        rw [List.length_append, les_length]; omega
      generalize vs[k]?.getD 0 = v at hcr hvk HLS hu
      generalize hyk : ys ++ les size (vs.take k) = yk at hI HYL
      have HYK : Hid (yk = ys ++ les size (vs.take k)) := hyk.symm
      clear hyk
      have H1 : Hid (Calls Tryz.prog 72 #[.pointer (some ⟨R, 0, none⟩), .int .u32 (v : Int), .int .i64 ((8 * size : Nat) : Int)] wr _) := put_any (fun k => T k ∨ k = w.heap.size) R yk (8 * yk.length) v (8 * size) wr hI (by
          rintro j (hj | rfl)
          · have := hT j hj; have := hK.size; have := hk0.size; omega
          · have := HS0.out; have := hK.size; omega) (by rintro (h | rfl); exact hTR h; omega) (by omega) (by have := HYL.out; omega) hvk (by omega)
      have e8 : ((8 * size : Nat) : Int) = 8 * (size : Int) := by omega
      rw [e8] at H1
      clear hI e8
      go_wp2_with fail
      refine H1.out.mono ?_
      clear H1
      rintro e w1 ⟨rfl, hI1, hK1⟩
      rw [pushN_le] at hI1
      have HE : Hid (IsWr (fun k => T k ∨ k = w.heap.size) w1 R (yk ++ le v size) (8 * (yk ++ le v size).length)) := by
        show IsWr _ _ _ _ _
        rw [List.length_append, le_length, Nat.mul_add]
        exact hI1
      clear hI1 hcr c0 hRr
      go_wp2
      go_roundw
      case rel => exact ⟨k + 1, by omega, by go_num, by rw [HLS.out, ← List.append_assoc, ← HYK.out]; exact HE.out, hK.trans hK1⟩
      case measure => simp [intOf]; omega
    · obtain rfl : k = vs.length := by omega
      rw [List.take_length] at hI
      go_wp2
      go_end0
      exact ⟨rfl, hI.mono (fun _ => .inl), hk0.trans (hK.mono (fun _ => .inl))⟩

set_option maxRecDepth 100000 in
set_option maxHeartbeats 1000000 in
theorem fours_any (T : Nat → Prop) (R : Nat) (ys : List Int) (B cap : Nat) (vs : List Nat) (w : World) (hW : IsWr T w R ys (8 * ys.length)) (hT : ∀ k, T k → k < w.heap.size) (hTR : ¬ T R) (hTB : T B)
    (hc : ∀ j : Nat, j < vs.length → w.cell? ⟨B, j, none⟩ = some (.int .i64 ((vs[j]?.getD 0 : Nat) : Int))) (hv : ∀ j : Nat, vs[j]?.getD 0 < 4294967296) (hl : vs.length ≤ 100) (hy : ys.length ≤ 100000000000) :
    Calls Tryz.prog 40 #[.agg #[.pointer (some ⟨R, 0, none⟩)], .slice (some ⟨B, 0, none⟩) vs.length cap] w fun e w' => e = .returned (.tuple #[]) ∧ IsWr T w' R (ys ++ les 4 vs) (8 * (ys ++ les 4 vs).length) ∧ Kept T w w' := by
  have hk0 : Kept T w (w.alloc (.cells #[.pointer (some ⟨R, 0, none⟩)] 42)) := (Kept.refl T w).alloc hT _
  have H1 : Hid (Calls Tryz.prog 56 #[.agg #[.pointer (some ⟨R, 0, none⟩)], .int .i64 ((4 : Nat) : Int), .slice (some ⟨B, 0, none⟩) vs.length cap] (w.alloc (.cells #[.pointer (some ⟨R, 0, none⟩)] 42)) _) := numput_any T R ys 4 B cap vs _ (by omega) (hW.alloc' _) (fun k hk => by simp; have := hT k hk; omega) hTR hTB (fun j hj => (hk0.cell (p := ⟨B, j, none⟩) hTB).trans (hc j hj)) hv hl hy
  clear hW hc
  go_enter Tryz.func40, Tryz.ntmps40
  go_wp2_with fail
  refine H1.out.mono ?_
  clear H1
  rintro e w1 ⟨rfl, hI1, hK1⟩
  go_wp2
  go_end0
  exact ⟨rfl, hI1, hk0.trans hK1⟩

set_option maxRecDepth 100000 in
set_option maxHeartbeats 1000000 in
theorem twos_any (T : Nat → Prop) (R : Nat) (ys : List Int) (B cap : Nat) (vs : List Nat) (w : World) (hW : IsWr T w R ys (8 * ys.length)) (hT : ∀ k, T k → k < w.heap.size) (hTR : ¬ T R) (hTB : T B)
    (hc : ∀ j : Nat, j < vs.length → w.cell? ⟨B, j, none⟩ = some (.int .i64 ((vs[j]?.getD 0 : Nat) : Int))) (hv : ∀ j : Nat, vs[j]?.getD 0 < 4294967296) (hl : vs.length ≤ 100) (hy : ys.length ≤ 100000000000) :
    Calls Tryz.prog 41 #[.agg #[.pointer (some ⟨R, 0, none⟩)], .slice (some ⟨B, 0, none⟩) vs.length cap] w fun e w' => e = .returned (.tuple #[]) ∧ IsWr T w' R (ys ++ les 2 vs) (8 * (ys ++ les 2 vs).length) ∧ Kept T w w' := by
  have hk0 : Kept T w (w.alloc (.cells #[.pointer (some ⟨R, 0, none⟩)] 42)) := (Kept.refl T w).alloc hT _
  have H1 : Hid (Calls Tryz.prog 56 #[.agg #[.pointer (some ⟨R, 0, none⟩)], .int .i64 ((2 : Nat) : Int), .slice (some ⟨B, 0, none⟩) vs.length cap] (w.alloc (.cells #[.pointer (some ⟨R, 0, none⟩)] 42)) _) := numput_any T R ys 2 B cap vs _ (by omega) (hW.alloc' _) (fun k hk => by simp; have := hT k hk; omega) hTR hTB (fun j hj => (hk0.cell (p := ⟨B, j, none⟩) hTB).trans (hc j hj)) hv hl hy
  clear hW hc
  go_enter Tryz.func41, Tryz.ntmps41
  go_wp2_with fail
  refine H1.out.mono ?_
  clear H1
  rintro e w1 ⟨rfl, hI1, hK1⟩
  go_wp2
  go_end0
  exact ⟨rfl, hI1, hk0.trans hK1⟩
end Go.Proofs.YtibnafngkcpafaaGreatDoor
