/- number: a number of some bytes. -/
import Derived.Test.YtibnafngkcpafaaGreatDoorTab
import Derived.Test.YtibnafngkcpafaaGreatDoorMem
import Derived.WalkKit
namespace Go.Proofs.YtibnafngkcpafaaGreatDoor
open Go.RowKit

/-- The number of k bytes at a place. -/
def numAt (zs : List Int) (p : Nat) : Nat → Nat
  | 0 => 0
  | k + 1 => numAt zs p k + (zs[p + k]?.getD 0).toNat * 256 ^ k
theorem numAt_lt (zs : List Int) (hz : AreBytes zs) (p k : Nat) : numAt zs p k < 256 ^ k := by
  induction k with
  | zero => simp [numAt]
  | succ k ih =>
    have := hz (p + k)
    have h2 : (zs[p + k]?.getD 0).toNat ≤ 255 := by omega
    rw [numAt, Nat.pow_succ]
    have h3 : (zs[p + k]?.getD 0).toNat * 256 ^ k ≤ 255 * 256 ^ k := Nat.mul_le_mul_right _ h2
    omega
theorem i64_or_nat (a b : Nat) (ha : a < 2 ^ 62) (hb : b < 2 ^ 62) : bits .or .i64 (a : Int) (b : Int) = ((a ||| b : Nat) : Int) := by
  show IntKind.i64.wrap ((BitVec.ofInt 64 (a : Int) ||| BitVec.ofInt 64 (b : Int)).toNat : Int) = _
  have h : a ||| b < 2 ^ 62 := Nat.or_lt_two_pow ha hb
  have e1 : (BitVec.ofInt 64 (a : Int)).toNat = a := by rw [BitVec.toNat_ofInt]; omega
  have e2 : (BitVec.ofInt 64 (b : Int)).toNat = b := by rw [BitVec.toNat_ofInt]; omega
  rw [BitVec.toNat_or, e1, e2]
  simp [IntKind.wrap, IntKind.bits, IntKind.signed]
  omega
theorem or_add (v z j : Nat) (hv : v < 2 ^ j) (hj : j ≤ 24) (hz : z ≤ 255) : bits .or .i64 (v : Int) ((z * 2 ^ j : Nat) : Int) = ((v + z * 2 ^ j : Nat) : Int) := by
  have h1 : (2 : Nat) ^ j ≤ 2 ^ 24 := Nat.pow_le_pow_right (by omega) hj
  have h2 : z * 2 ^ j ≤ 255 * 2 ^ 24 := Nat.mul_le_mul hz h1
  rw [i64_or_nat v _ (by omega) (by omega), Nat.or_comm, Nat.mul_comm z, ← Nat.two_pow_add_eq_or_of_lt hv z, Nat.add_comm]
theorem BytesIn.at {S : Nat → Prop} {W : World} {a : Option Addr} {n cap : Nat} {zs : List Int} (h : BytesIn S W (.slice a n cap) zs) (k : Nat) (hk : k < zs.length) :
    ∃ b off, a = some ⟨b, off, none⟩ ∧ S b ∧ W.cell? ⟨b, off + k, none⟩ = some (.int .u8 (zs[k]?.getD 0)) := by
  rcases h with ⟨rfl, _⟩ | ⟨b, off, c, e, hb, hc⟩
  · simp at hk
  · simp only [Value.slice.injEq] at e
    obtain ⟨rfl, rfl, rfl⟩ := e
    exact ⟨b, off, rfl, hb, hc k hk⟩

set_option maxRecDepth 100000 in
set_option maxHeartbeats 1000000 in
theorem number_any (S : Nat → Prop) (a : Option Addr) (cap : Nat) (zs : List Int) (p n : Nat) (w : World) (hz : AreBytes zs) (hl : zs.length ≤ 2000000) (hn : n ≤ 4) (hp : p + n ≤ zs.length) (hI : BytesIn S w (.slice a zs.length cap) zs) :
    Calls Tryz.prog 43 #[.slice a zs.length cap, .int .i64 (p : Int), .int .i64 (n : Int)] w fun e w' => e = .returned (.int .i64 (numAt zs p n : Int)) ∧ w' = w := by
  go_enter Tryz.func43, Tryz.ntmps43
  go_wp2
  go_loop [7, 10] (fun v7 v10 => ∃ k : Nat, k ≤ n ∧ v10 = .int .i64 (k : Int) ∧ v7 = .int .i64 (numAt zs p k : Int)) (fun _ v10 => n - (intOf v10).toNat)
  case atStart => exact ⟨0, Nat.zero_le _, rfl, rfl⟩
  case round =>
    obtain ⟨k, hk, rfl, rfl⟩ := hrel
    by_cases hlt : k < n
    · have t1 : (k : Int) < (n : Int) := by omega
      obtain ⟨b, off, rfl, hSb, hc⟩ := hI.at (p + k) (by omega)
      have hzk := hz (p + k)
      have HS : Hid (numAt zs p (k + 1) = numAt zs p k + (zs[p + k]?.getD 0).toNat * 256 ^ k) := rfl
      have HL : Hid (numAt zs p k < 256 ^ k) := numAt_lt zs hz p k
      generalize zs[p + k]?.getD 0 = z at hc hzk HS
      generalize numAt zs p k = v at HS HL ⊢
      obtain ⟨zn, rfl⟩ : ∃ zn : Nat, z = (zn : Int) := ⟨z.toNat, by omega⟩
      rw [Int.toNat_natCast] at HS
      have hz255 : zn ≤ 255 := by omega
      rcases (by omega : k = 0 ∨ k = 1 ∨ k = 2 ∨ k = 3) with rfl | rfl | rfl | rfl
      · rw [Nat.add_zero] at hc
        have HO : Hid (bits .or .i64 (v : Int) (zn : Int) = ((numAt zs p 1 : Nat) : Int)) := by
          have := or_add v zn 0 (by simpa using HL.out) (by omega) hz255
          simp only [Nat.pow_zero, Nat.mul_one] at this
          show _ = _
          rw [this, HS.out]
          simp
        go_wp2
        exact ⟨⟨1, by omega, by go_num, by rw [HO.out]⟩, by simp [intOf]; omega⟩
      · have HO : Hid (bits .or .i64 (v : Int) ((zn : Int) * 256) = ((numAt zs p 2 : Nat) : Int)) := by
          have := or_add v zn 8 (by simpa using HL.out) (by omega) hz255
          show _ = _
          rw [HS.out, show (zn : Int) * 256 = ((zn * 2 ^ 8 : Nat) : Int) by simp, this]
        go_wp2
        exact ⟨⟨2, by omega, by go_num, by rw [HO.out]⟩, by simp [intOf]; omega⟩
      · have HO : Hid (bits .or .i64 (v : Int) ((zn : Int) * 65536) = ((numAt zs p 3 : Nat) : Int)) := by
          have := or_add v zn 16 (by simpa using HL.out) (by omega) hz255
          show _ = _
          rw [HS.out, show (zn : Int) * 65536 = ((zn * 2 ^ 16 : Nat) : Int) by simp, this]
        go_wp2
        exact ⟨⟨3, by omega, by go_num, by rw [HO.out]⟩, by simp [intOf]; omega⟩
      · have HO : Hid (bits .or .i64 (v : Int) ((zn : Int) * 16777216) = ((numAt zs p 4 : Nat) : Int)) := by
          have := or_add v zn 24 (by simpa using HL.out) (by omega) hz255
          show _ = _
          rw [HS.out, show (zn : Int) * 16777216 = ((zn * 2 ^ 24 : Nat) : Int) by simp, this]
        go_wp2
        exact ⟨⟨4, by omega, by go_num, by rw [HO.out]⟩, by simp [intOf]; omega⟩
    · have t1 : ¬ ((k : Int) < (n : Int)) := by omega
      obtain rfl : k = n := by omega
      go_wp2
      go_ret
      exact ⟨rfl, rfl⟩
end Go.Proofs.YtibnafngkcpafaaGreatDoor
