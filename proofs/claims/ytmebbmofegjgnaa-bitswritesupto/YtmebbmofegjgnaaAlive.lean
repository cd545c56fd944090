/- The chapter's examples, which every statement of this layer asks for: alive answers true and writes nothing that was there. -/
import Derived.Test.YtmebbmofegjgnaaTake
import Derived.Test.YtmebbmofegjgnaaPut
import Derived.Test.YtmebbmofegjgnaaRcrc
import Derived.Test.YtmebbmofegjgnaaRev
import Derived.Lib.SlBytesConst
namespace Go.Proofs.Ytmebbmofegjgnaa
open Go.RowKit

theorem crc_any (a : Option Addr) (cap : Nat) (zs : List Int) (hz : AreBytes zs) (hl : zs.length ≤ 140737488355328) (w : World) (hI : BytesIn (· < w.heap.size) w (.slice a zs.length cap) zs) :
    Calls Try.prog 31 #[.slice a zs.length cap] w fun e W' => e = .returned (.int .u32 (crcEnd (refFold zs))) ∧ Below w.heap.size w W' := by
  have h := callsIn_wide.1 (crc_in Fence.wide 6 trivial trivial trivial rfl (by omega) a cap zs hz hl w hI)
  rwa [crc_same zs hz] at h

theorem take_any (D : Nat → Prop) (R : Nat) (g : Option Addr) (c pos n : Nat) (zs : List Int) (hz : AreBytes zs) (hl : zs.length ≤ 140737488351232) (w : World) (hD : ∀ k, D k → k < w.heap.size) (hDR : ¬ D R) (h2 : Two w R 57 (.slice g zs.length c) (.int .i64 pos))
    (hI : BytesIn D w (.slice g zs.length c) zs) (hn : n ≤ 32) (hp : pos + n ≤ 8 * zs.length) :
    Calls Try.prog 10 #[.pointer (some ⟨R, 0, none⟩), .int .i64 n] w fun e W' => e = .returned (.tuple #[.int .u32 (orFold (upto (bitF zs pos) n)), .int .i64 0]) ∧ Two W' R 57 (.slice g zs.length c) (.int .i64 ((pos + n : Nat) : Int)) ∧ Kept D w W' :=
  callsIn_wide.1 (take_in D R g c pos n zs hz hl w hD hDR h2 hI hn hp)

theorem areBytes_of (zs : List Int) (h : ∀ z ∈ zs, 0 ≤ z ∧ z ≤ 255) : AreBytes zs := by
  intro j
  by_cases hj : j < zs.length
  · have := h zs[j] (List.getElem_mem hj)
    simpa [hj] using this
  · simp [List.getElem?_eq_none (Nat.le_of_not_lt hj)]

theorem ex_put : pushN (pushN [] 0 1 1) (0 + 1) 2 3 = [5] := by decide +kernel
theorem ex_take : orFold (upto (bitF [5] 0) 3) = 5 := by decide +kernel
theorem ex_crc : crcEnd (refFold [49, 50, 51, 52, 53, 54, 55, 56, 57]) = 3421780262 := by decide +kernel
theorem ex_rev : revN 3 (min (3 : Int).toNat 32) = 6 := by decide +kernel

set_option maxRecDepth 100000 in
set_option maxHeartbeats 1000000 in
theorem alive_any (w : World) : Calls Try.prog 9 #[] w fun e w' => e = .returned (.bool true) ∧ Below w.heap.size w w' := by
  go_enter Try.func9, Try.ntmps9
  go_wp2_with fail
  refine (newWriter_any w).mono ?_
  rintro e w1 ⟨rfl, hw1⟩
  have hT1 : Two w1 w.heap.size 63 (.slice none 0 0) (.int .i64 0) := hw1 ▸ Two.new w _ _ _
  have hs1 : w1.heap.size = w.heap.size + 1 := by rw [hw1]; simp
  have hB1 : Below w.heap.size w w1 := hw1 ▸ (Below.refl _ w).alloc (Nat.le_refl _) _
  have hI1 : IsWr (· < w.heap.size) w1 w.heap.size [] 0 := ⟨none, 0, hT1, World.ownsRow_nil _ _ _ _, fun k hk => by simp [Value.ownBlock] at hk⟩
  clear hw1 hT1
  have HS1 : Hid (w1.heap.size = w.heap.size + 1) := hs1
  clear hs1
  go_wp2_with fail
  refine (put_any (· < w.heap.size) w.heap.size [] 0 1 1 w1 hI1 (fun k hk => by have := HS1.out; omega) (by simp) (by simp) (by omega) (by omega) (by omega)).mono ?_
  rintro e w2 ⟨rfl, hI2, hK2⟩
  go_wp2_with fail
  refine (put_any (· < w.heap.size) w.heap.size (pushN [] 0 1 1) (0 + 1) 2 3 w2 hI2 (fun k hk => by have := HS1.out; have := hK2.size; omega) (by simp) (pushN_length [] 0 1 1 rfl) (by omega) (by omega) (by omega)).mono ?_
  rintro e w3 ⟨rfl, hI3, hK3⟩
  rw [ex_put] at hI3
  obtain ⟨g, c, hT3, hO3, hg3⟩ := hI3
  have hB3 : Below w.heap.size w w3 := (hB1.trans (hK2.below (fun _ h => h))).trans (hK3.below (fun _ h => h))
  have hbI : BytesIn (fun _ => True) w3 (.slice g 1 c) [5] := bytesIn_of_owns _ hO3 (fun _ _ => trivial)
  clear hI1 hI2 hK2 hK3 hB1 HS1 hO3 hg3
  go_wp2_with fail
  refine (done_any w.heap.size g c _ [5] _ w3 (by simp) hT3 hbI).mono ?_
  rintro e w4 ⟨g4, c4, rfl, hO4, hB4⟩
  have hB4' : Below w.heap.size w w4 := hB3.trans (hB4.mono hB3.size)
  clear hT3 hbI hB3 hB4
  obtain ⟨gd, cd, hgd⟩ := ownsRow_succ hO4
  simp only [Value.slice.injEq] at hgd
  obtain ⟨rfl, _, rfl⟩ := hgd
  have hd4 : w4.cell? ⟨gd, 0, none⟩ = some (.int .u8 5) := by
    have h := hO4.cells (g := gd) rfl 0 (.int .u8 5) rfl
    have hadd : (⟨gd, 0, none⟩ : Addr).add 0 = ⟨gd, 0, none⟩ := by unfold Addr.add; split <;> simp_all
    rwa [hadd] at h
  have hgd4 : gd < w4.heap.size := (hO4.lt gd rfl).2
  clear hO4
  have hbN : BytesIn (fun _ => True) (w4.alloc (.cells #[.int .u8 5] 5)) (.slice (some ⟨w4.heap.size, 0, none⟩) 1 1) [5] :=
    .inr ⟨w4.heap.size, 0, 1, rfl, trivial, fun j hj => by
      obtain rfl : j = 0 := by simp at hj; omega
      simp [World.cell?_alloc_at]⟩
  go_wp2_with fail
  refine (newReader_any _ _ 1 [5] _ (by simp) hbN).mono ?_
  rintro e w5 ⟨R5, g5, c5, rfl, hR5, hT5, hO5, hB5⟩
  simp only [World.size_alloc] at hR5
  have hB5' : Below w.heap.size w w5 := (hB4'.alloc hB4'.size _).trans (hB5.mono (by simp; have := hB4'.size; omega))
  have hs5 : w4.heap.size + 1 ≤ w5.heap.size := by have := hB5.size; simpa using this
  have hd5 : w5.cell? ⟨gd, 0, none⟩ = some (.int .u8 5) := by
    rw [hB5.cell (p := ⟨gd, 0, none⟩) (by simp; omega), ((Below.refl w4.heap.size w4).alloc (Nat.le_refl _) _).cell (p := ⟨gd, 0, none⟩) hgd4]
    exact hd4
  have hbR : BytesIn (fun k => k < w5.heap.size ∧ k ≠ R5) w5 (.slice g5 1 c5) [5] := bytesIn_of_owns _ hO5 (fun k hk => ⟨(hO5.lt k hk).2, fun e => hT5.not_row (by decide) hO5 (e ▸ hk.symm)⟩)
  have hws := hB4'.size
  clear hbN hO5 hB5 hd4 hB4'
  go_wp2_with fail
  refine (take_any (fun k => k < w5.heap.size ∧ k ≠ R5) R5 g5 c5 0 3 [5] (areBytes_of _ (by decide)) (by simp) w5 (fun k hk => hk.1) (by simp) hT5 hbR (by omega) (by simp)).mono ?_
  rintro e w6 ⟨rfl, hT6, hK6⟩
  rw [ex_take]
  have hd6 : w6.cell? ⟨gd, 0, none⟩ = some (.int .u8 5) := (hK6.cell (p := ⟨gd, 0, none⟩) ⟨by simp; omega, by simp; omega⟩).trans hd5
  have hB6 : Below w.heap.size w w6 := hB5'.trans (hK6.below (fun k hk => ⟨by have := hB5'.size; omega, by omega⟩))
  clear hT6 hK6 hd5 hB5' hT5 hbR
  have kc := fun (w : World) (C : Array Value) (n c : Nat) => Lib.run_convert_bytes_const (P := Try.prog) w 22 5 C n c Try.underlying22 Try.underlying5
  go_wp2_with fail
  have hbC : BytesIn (· < (w6.alloc (.cells #[.int .u8 49, .int .u8 50, .int .u8 51, .int .u8 52, .int .u8 53, .int .u8 54, .int .u8 55, .int .u8 56, .int .u8 57] 5 (9, 10))).heap.size) (w6.alloc (.cells #[.int .u8 49, .int .u8 50, .int .u8 51, .int .u8 52, .int .u8 53, .int .u8 54, .int .u8 55, .int .u8 56, .int .u8 57] 5 (9, 10))) (.slice (some ⟨w6.heap.size, 0, none⟩) 9 9) [49, 50, 51, 52, 53, 54, 55, 56, 57] :=
    .inr ⟨w6.heap.size, 0, 9, rfl, by simp, fun j hj => by
      rw [Nat.zero_add, World.cell?_alloc_mark]
      match j, hj with
      | 0, _ => rfl
      | 1, _ => rfl
      | 2, _ => rfl
      | 3, _ => rfl
      | 4, _ => rfl
      | 5, _ => rfl
      | 6, _ => rfl
      | 7, _ => rfl
      | 8, _ => rfl⟩
  refine (crc_any _ 9 [49, 50, 51, 52, 53, 54, 55, 56, 57] (areBytes_of _ (by decide)) (by simp) _ hbC).mono ?_
  rintro e w7 ⟨rfl, hB7⟩
  rw [ex_crc]
  have hB7' : Below w.heap.size w w7 := (hB6.alloc hB6.size _).trans (hB7.mono (by simp; have := hB6.size; omega))
  clear hbC hB7 hB6 kc
  go_wp2_with fail
  refine (rev_any 3 3 (by omega) (by omega) (by omega) w7).mono ?_
  rintro e w8 ⟨rfl, hw8⟩
  rw [ex_rev]
  go_wp2
  go_ret
  exact ⟨rfl, hw8 ▸ hB7'⟩
end Go.Proofs.Ytmebbmofegjgnaa
