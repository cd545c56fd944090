/- Done of the document's writer: its bits packed into bytes. -/
import Derived.Test.YtmebbmofegjgnaaWb
namespace Go.Proofs.Ytmebbmofegjgnaa
open Go.RowKit

theorem row_cell {w : World} {base n c g : Nat} {xs : List Value} (h : w.ownsRow base 5 1 (.slice (some ⟨g, 0, none⟩) n c) n xs) {j : Nat} {u : Value} (hu : xs[j]? = some u) : w.cell? ⟨g, j, none⟩ = some u ∧ w.frozen? ⟨g, j, none⟩ = false := by
  have h1 := h.cells (g := g) rfl j u hu
  have hadd : (⟨g, 0, none⟩ : Addr).add j = ⟨g, j, none⟩ := by unfold Addr.add; split <;> simp_all
  rw [hadd] at h1
  refine ⟨h1, ?_⟩
  rcases h.2 with ⟨h0, _⟩ | ⟨g2, cap2, cur, hv, hb, hgb, _⟩
  · simp at h0
  · simp at hv
    obtain ⟨rfl, _⟩ := hv
    simp [World.frozen?, hgb]

set_option maxHeartbeats 2000000 in
theorem ddone_any (T : Nat → Prop) (R : Nat) (bs : List Bool) (w : World) (hW : IsDr T w R bs) (hsz : bs.length < 140737488355328) :
    Calls Try.prog 28 #[.pointer (some ⟨R, 0, none⟩)] w fun e w' => ∃ os g c, e = .returned (.slice g os.length c) ∧ w'.ownsRow w.heap.size 5 1 (.slice g os.length c) os.length (os.map (Value.int .u8)) ∧ Packed os bs ∧ Below w.heap.size w w' := by
  obtain ⟨i0, hi, hz0, hz1, hz2⟩ := info_parts Try.info5
  obtain ⟨gd, cd, hB, hown, _⟩ := hW
  have hRlt := hB.lt
  go_enter Try.func28, Try.ntmps28
  go_wp2
  go_loopw [3, 4] (fun o i wr => ∃ k : Nat, k ≤ bs.length ∧ i = .int .i64 k ∧ (∃ os g c, o = .slice g os.length c ∧ wr.ownsRow w.heap.size 5 1 (.slice g os.length c) os.length (os.map (Value.int .u8)) ∧ Packed os (bs.take k)) ∧ Below w.heap.size w wr) (fun _ i _ => bs.length - (intOf i).toNat)
  case atStart => exact ⟨0, by omega, rfl, ⟨[], none, 0, rfl, World.ownsRow_nil _ _ _ _, by simpa using packed_nil⟩, Below.refl _ _⟩
  case round =>
    obtain ⟨k, hk, rfl, ⟨os, g, c, rfl, hO, hp⟩, hBl⟩ := hrel
    have c0 : wr.cell? ⟨R, 0, none⟩ = some (.slice gd bs.length cd) := (hBl.cell (p := ⟨R, 0, none⟩) hRlt).trans hB.cell
    by_cases hlt : k < bs.length
    · obtain ⟨n1, hn1⟩ : ∃ n1, bs.length = n1 + 1 := ⟨bs.length - 1, by omega⟩
      have hown2 := hown
      rw [hn1] at hown2
      obtain ⟨gb, cb, hgb⟩ := ownsRow_succ hown2
      simp only [Value.slice.injEq, true_and] at hgb
      obtain ⟨rfl, rfl⟩ := hgb
      clear hown2
      have hgblt : gb < w.heap.size := (hown.lt gb rfl).2
      have hbk : (bitCells bs)[k]? = some (.int .u8 (((bs[k]).toNat : Nat) : Int)) := by simp [bitCells, hlt]
      have hL := (row_cell hown hbk).1
      have hLr : wr.cell? ⟨gb, k, none⟩ = some (.int .u8 (((bs[k]).toNat : Nat) : Int)) := (hBl.cell (p := ⟨gb, k, none⟩) hgblt).trans hL
      have hol : os.length = (k + 7) / 8 := by have := hp.len; rw [List.length_take] at this; omega
      have hpp := pushBit_packed hp bs[k]
      rw [List.length_take, show min k bs.length = k by omega, ← List.take_succ_eq_append_getElem hlt] at hpp
      have hb1 : ((bs[k].toNat : Nat) : Int) < 2 := by cases bs[k] <;> simp
      generalize bs[k] = b at hLr hpp hb1
      have HOL : Hid (os.length = (k + 7) / 8) := hol
      have HN : Hid (bs.length = n1 + 1) := hn1
      clear hL hbk hol hn1
      by_cases h8 : k % 8 = 0
      · have t8 : (((k : Int) % 8) == 0) = true := by rw [beq_iff_eq]; omega
        have HPB : Hid (pushBit os k ((b.toNat : Nat) : Int) = os ++ [orB 0 ((b.toNat : Nat) : Int) (k % 8)]) := by show _ = _; unfold pushBit; rw [if_pos h8]
        have H8 : Hid (k % 8 = 0) := h8
        clear h8
        go_wp2_with (at_builtin; refine wpList_append_own2 _ rfl (.tmp 17) (.tmp 18) 22 rfl w.heap.size 5 i0 (.int .u8 0) 1 1 Try.underlying22 hi hz0 hz1 hz2 rfl (by decide) _ _ _ rfl (hO.alloc _) ⟨wr.heap.size, 0, none⟩ 1 1 [.int .u8 0] rfl rfl (cell_one_new _ _ _) (by simp [Value.oneCell']) (by unfold maxLen; have := HOL.out; omega) (by have := HOL.out; omega) (by have := hBl.size; simp; omega) ?_)
        intro v' w1 hown' hgrow _
        obtain ⟨g', cap', rfl⟩ := ownsRow_succ hown'
        have hBl1 : Below w.heap.size w w1 := (hBl.alloc hBl.size _).grown hgrow (by have := hBl.size; simp; omega) (fun j hj => (hO.lt j hj).1)
        have c0' : w1.cell? ⟨R, 0, none⟩ = some (.slice (some ⟨gb, 0, none⟩) bs.length cd) := (hBl1.cell (p := ⟨R, 0, none⟩) hRlt).trans hB.cell
        have hL1 : w1.cell? ⟨gb, k, none⟩ = some (.int .u8 ((b.toNat : Nat) : Int)) := (hBl1.cell (p := ⟨gb, k, none⟩) hgblt).trans ((hBl.cell (p := ⟨gb, k, none⟩) hgblt).symm.trans hLr)
        have hg'lo : w.heap.size ≤ g' := (hown'.lt g' rfl).1
        have hoc := row_cell hown' (j := k / 8) (u := .int .u8 0) (by rw [List.getElem?_append_right (by rw [List.length_map]; have := HOL.out; have := H8.out; omega), List.length_map, show k / 8 - os.length = 0 by have := HOL.out; have := H8.out; omega]; rfl)
        have o1 := hoc.1
        have o2 := hoc.2
        have hkb : k / 8 < os.length + 1 := by have := HOL.out; omega
        have hne1 : g' ≠ gb := by omega
        have hne2 : g' ≠ R := by omega
        have hml : os.length + 1 < 140737488355328 := by have := HOL.out; omega
        clear hLr c0 hO hgrow hoc
        go_wp2
        go_region
        all_goals go_wp2
        have ek : k / 8 = os.length := by have := HOL.out; have := H8.out; omega
        have hpl : (pushBit os k ((b.toNat : Nat) : Int)).length = os.length + 1 := by rw [HPB.out]; simp
        have hpm : (pushBit os k ((b.toNat : Nat) : Int)).map (Value.int .u8) = (os.map (Value.int .u8) ++ [Value.int .u8 0]).set (k / 8) (Value.int .u8 (orB 0 ((b.toNat : Nat) : Int) (k % 8))) := by
          rw [HPB.out, ek]; simp
        have hos := owns_set hown' (k / 8) (.int .u8 (orB 0 ((b.toNat : Nat) : Int) (k % 8)))
        rw [← hpm, ← hpl] at hos
        exact ⟨⟨k + 1, by omega, by go_num, ⟨_, _, _, by rw [hpl], hos, hpp⟩, (hBl1.setCell (p := ⟨g', k / 8, none⟩) hg'lo _).drew⟩, by simp [intOf]; omega⟩
      · have t8 : (((k : Int) % 8) == 0) = false := by rw [beq_eq_false_iff_ne]; omega
        obtain ⟨m, hm⟩ : ∃ m, os.length = m + 1 := ⟨os.length - 1, by have := HOL.out; omega⟩
        have hO2 := hO
        rw [hm] at hO2
        obtain ⟨g', cap', hgg⟩ := ownsRow_succ hO2
        simp only [Value.slice.injEq, true_and] at hgg
        obtain ⟨rfl, rfl⟩ := hgg
        have ek : k / 8 = os.length - 1 := by have := HOL.out; omega
        have HPB : Hid (pushBit os k ((b.toNat : Nat) : Int) = os.set (k / 8) (orB (os[k / 8]?.getD 0) ((b.toNat : Nat) : Int) (k % 8))) := by show _ = _; unfold pushBit; rw [if_neg h8, ek]
        have H8 : Hid (¬ k % 8 = 0) := h8
        have hg'lo : w.heap.size ≤ g' := (hO.lt g' rfl).1
        have hk1 : k / 8 < os.length := by omega
        have hoc := row_cell hO (j := k / 8) (u := .int .u8 (os[k / 8]?.getD 0)) (by simp [hk1])
        have o1 := hoc.1
        have o2 := hoc.2
        generalize os[k / 8]?.getD 0 = y at o1 HPB
        have hkb : k / 8 < os.length := by omega
        have hne1 : g' ≠ gb := by omega
        have hne2 : g' ≠ R := by omega
        have hml : os.length < 140737488355328 := by have := HOL.out; omega
        clear hoc h8 ek hO2 hm
        go_wp2
        go_region
        all_goals go_wp2
        have hpl : (pushBit os k ((b.toNat : Nat) : Int)).length = os.length := by rw [HPB.out]; simp
        have hpm : (pushBit os k ((b.toNat : Nat) : Int)).map (Value.int .u8) = (os.map (Value.int .u8)).set (k / 8) (Value.int .u8 (orB y ((b.toNat : Nat) : Int) (k % 8))) := by
          rw [HPB.out]; simp
        have hos := owns_set hO (k / 8) (.int .u8 (orB y ((b.toNat : Nat) : Int) (k % 8)))
        rw [← hpm, ← hpl] at hos
        exact ⟨⟨k + 1, by omega, by go_num, ⟨_, _, _, by rw [hpl], hos, hpp⟩, (hBl.setCell (p := ⟨g', k / 8, none⟩) hg'lo _).drew⟩, by simp [intOf]; omega⟩
    · obtain rfl : k = bs.length := by omega
      rw [List.take_length] at hp
      go_wp2
      go_ret
      exact ⟨os, g, c, rfl, hO, hp, hBl⟩
end Go.Proofs.Ytmebbmofegjgnaa
