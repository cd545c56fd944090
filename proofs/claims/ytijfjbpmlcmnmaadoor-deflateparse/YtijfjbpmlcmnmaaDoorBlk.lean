/- A block that is stored: its head, the closure that writes it. -/
import Derived.Test.YtijfjbpmlcmnmaaDoorWb
import Derived.Test.YtijfjbpmlcmnmaaDoorTab
namespace Go.Proofs.YtijfjbpmlcmnmaaDoor
open Go.RowKit

/-- What stands behind a block's head. -/
def headY (ys : List Int) (sz : Nat) (last : Bool) (kind : Nat) : List Int := pushN (pushN ys sz last.toNat 1) (sz + 1) kind 2
theorem headY_length (ys : List Int) (sz : Nat) (last : Bool) (kind : Nat) (h : ys.length = (sz + 7) / 8) : (headY ys sz last kind).length = (sz + 3 + 7) / 8 := by
  unfold headY
  rw [pushN_length _ _ _ _ (by rw [pushN_length _ _ _ _ h])]

set_option maxRecDepth 100000 in
set_option maxHeartbeats 1000000 in
theorem putHead_any (T : Nat → Prop) (K R : Nat) (ys : List Int) (sz kind : Nat) (last : Bool) (w : World) (hK : w.cell? ⟨K, 1, none⟩ = some (.bool last)) (hW : IsWr T w R ys sz) (hT : ∀ k, T k → k < w.heap.size) (hTR : ¬ T R) (hlen : ys.length = (sz + 7) / 8) (hsz : sz + 64 < 1125899906842624) (hk : kind < 4) :
    Calls Tryd.prog 52 #[.pointer (some ⟨K, 0, none⟩), .pointer (some ⟨R, 0, none⟩), .int .u32 (kind : Int)] w fun e w' => e = .returned (.tuple #[]) ∧ IsWr T w' R (headY ys sz last kind) (sz + 3) ∧ Kept T w w' := by
  have H1 : Hid (Calls Tryd.prog 54 #[.pointer (some ⟨R, 0, none⟩), .int .u32 ((last.toNat : Nat) : Int), .int .i64 ((1 : Nat) : Int)] w fun e w' => e = .returned (.int .i64 0) ∧ IsWr T w' R (pushN ys sz last.toNat 1) (sz + 1) ∧ Kept T w w') := put_any T R ys sz last.toNat 1 w hW hT hTR hlen (by omega) (by cases last <;> decide) (by omega)
  clear hW
  cases last
  all_goals
    go_enter Tryd.func52, Tryd.ntmps52
    go_wp2_with fail
    refine H1.out.mono ?_
    clear H1
    rintro e w1 ⟨rfl, hW1, hk1⟩
    have H2 : Hid (Calls Tryd.prog 54 #[.pointer (some ⟨R, 0, none⟩), .int .u32 (kind : Int), .int .i64 ((2 : Nat) : Int)] w1 fun e w' => e = .returned (.int .i64 0) ∧ IsWr T w' R (pushN _ (sz + 1) kind 2) (sz + 1 + 2) ∧ Kept T w1 w') := put_any T R _ (sz + 1) kind 2 w1 hW1 (fun j hj => Nat.lt_of_lt_of_le (hT j hj) hk1.size) hTR (pushN_length _ _ _ _ hlen) (by omega) (by omega) (by omega)
    clear hW1
    go_wp2_with fail
    refine H2.out.mono ?_
    clear H2
    rintro e w2 ⟨rfl, hW2, hk2⟩
    go_wp2
    go_end0
    exact ⟨rfl, hW2, hk1.trans hk2⟩

/-- The number whose low 16 bits are those of n, turned. -/
@[irreducible] def nots (n : Nat) : Nat := 4294967295 - n
theorem nots_lt (n : Nat) : nots n < 4294967296 := by unfold nots; omega
theorem nots_val (n : Nat) (h : n ≤ 65535) : ((nots n : Nat) : Int) = 4294967295 - (n : Int) := by unfold nots; omega
theorem nots_xor (n : Nat) (h : n ≤ 65535) : bits .xor .u32 IntKind.u32.max (n : Int) = ((nots n : Nat) : Int) := by
  show IntKind.u32.wrap ((BitVec.ofInt 32 IntKind.u32.max ^^^ BitVec.ofInt 32 (n : Int)).toNat : Int) = _
  have h1 : BitVec.ofInt 32 IntKind.u32.max = BitVec.allOnes 32 := by decide
  have h2 : (BitVec.ofInt 32 (n : Int)).toNat = n := by
    rw [BitVec.toNat_ofInt]
    omega
  rw [h1, BitVec.xor_comm, BitVec.xor_allOnes, BitVec.toNat_not, h2, IntKind.wrap_u32', nots_val n h]
  omega

/-- What stands behind a stored block. -/
def storedY (ys : List Int) (sz : Nat) (last : Bool) (zs : List Int) : List Int :=
  let h := headY ys sz last 0
  pushN (pushN h (8 * h.length) zs.length 16) (8 * h.length + 16) (nots zs.length) 16 ++ zs
theorem storedY_length (ys : List Int) (sz : Nat) (last : Bool) (zs : List Int) (h : ys.length = (sz + 7) / 8) : (storedY ys sz last zs).length = (sz + 3 + 7) / 8 + 4 + zs.length := by
  unfold storedY
  simp only [List.length_append]
  rw [pushN_length _ _ _ _ (by rw [pushN_length _ _ _ _ (by omega)]), headY_length _ _ _ _ h]
  omega

set_option maxRecDepth 100000 in
set_option maxHeartbeats 2000000 in
theorem storedF_any (T : Nat → Prop) (B K R : Nat) (ys : List Int) (sz : Nat) (last : Bool) (a : Option Addr) (cap : Nat) (zs : List Int) (w : World) (hB : w.cell? ⟨B, 0, none⟩ = some (.pointer (some ⟨K, 0, none⟩))) (h0 : w.cell? ⟨K, 0, none⟩ = some (.slice a zs.length cap)) (h1 : w.cell? ⟨K, 1, none⟩ = some (.bool last))
    (hTB : T B) (hTK : T K) (ha : a = none → cap = 0) (hI : BytesIn T w (.slice a zs.length cap) zs) (hz : zs.length ≤ 65535) (hW : IsWr T w R ys sz) (hT : ∀ k, T k → k < w.heap.size) (hTR : ¬ T R) (hlen : ys.length = (sz + 7) / 8) (hsz : sz < 140737488355328) :
    Calls Tryd.prog 51 #[.pointer (some ⟨R, 0, none⟩), .pointer (some ⟨B, 0, none⟩)] w fun e w' => e = .returned (.tuple #[]) ∧ IsWr T w' R (storedY ys sz last zs) (8 * (storedY ys sz last zs).length) ∧ Kept T w w' := by
  have H1 : Hid (Calls Tryd.prog 52 #[.pointer (some ⟨K, 0, none⟩), .pointer (some ⟨R, 0, none⟩), .int .u32 ((0 : Nat) : Int)] w fun e w' => e = .returned (.tuple #[]) ∧ IsWr T w' R (headY ys sz last 0) (sz + 3) ∧ Kept T w w') := putHead_any T K R ys sz 0 last w h1 hW hT hTR hlen (by omega) (by omega)
  have HL : Hid ((headY ys sz last 0).length = (sz + 3 + 7) / 8) := headY_length _ _ _ _ hlen
  have hu : IntKind.u32.wrap (zs.length : Int) = zs.length := by simp [IntKind.wrap, IntKind.bits, IntKind.signed]; omega
  have hx : bits .xor .u32 IntKind.u32.max (zs.length : Int) = ((nots zs.length : Nat) : Int) := nots_xor _ hz
  have HY : Hid (storedY ys sz last zs = pushN (pushN (headY ys sz last 0) (8 * (headY ys sz last 0).length) zs.length 16) (8 * (headY ys sz last 0).length + 16) (nots zs.length) 16 ++ zs) := by unfold storedY; exact rfl
  clear hW
  generalize headY ys sz last 0 = hy at H1 HL HY
  go_enter Tryd.func51, Tryd.ntmps51
  go_wp2_with fail
  refine H1.out.mono ?_
  clear H1
  rintro e w1 ⟨rfl, ⟨g, c, hR1, hown1, hg1⟩, hk1⟩
  have H2 : Hid (Calls Tryd.prog 53 #[.pointer (some ⟨R, 0, none⟩)] w1 fun e w' => e = .returned (.tuple #[]) ∧ w' = w1.setCell ⟨R, 1, none⟩ (.int .i64 ((8 * hy.length : Nat) : Int))) := walign_any R g hy.length c _ w1 (by have := HL.out; omega) hR1 ⟨sz + 3, rfl⟩
  go_wp2_with fail
  refine H2.out.mono ?_
  clear H2
  rintro e w2 ⟨rfl, rfl⟩
  have hk2 : Kept T w (w1.setCell ⟨R, 1, none⟩ (.int .i64 ((8 * hy.length : Nat) : Int))) := hk1.setCell (p := ⟨R, 1, none⟩) hTR _
  have hW2 : IsWr T (w1.setCell ⟨R, 1, none⟩ (.int .i64 ((8 * hy.length : Nat) : Int))) R hy (8 * hy.length) := by
    have hne : (Value.slice g hy.length c).ownBlock ≠ some R := fun e => hR1.not_row (by decide) hown1 e.symm
    exact ⟨g, c, hR1.set1 _, ownsRow_setCell_other hown1 (a := ⟨R, 1, none⟩) hne _, hg1⟩
  generalize (w1.setCell ⟨R, 1, none⟩ (.int .i64 ((8 * hy.length : Nat) : Int))) = w2 at hk2 hW2
  have hB2 := (hk2.cell (p := ⟨B, 0, none⟩) hTB).trans hB
  have h02 := (hk2.cell (p := ⟨K, 0, none⟩) hTK).trans h0
  have hT2 : ∀ k, T k → k < w2.heap.size := fun j hj => Nat.lt_of_lt_of_le (hT j hj) hk2.size
  clear hR1 hown1 hg1 hk1 hB h0 h1
  have H3 : Hid (Calls Tryd.prog 54 #[.pointer (some ⟨R, 0, none⟩), .int .u32 (zs.length : Int), .int .i64 ((16 : Nat) : Int)] w2 fun e w' => e = .returned (.int .i64 0) ∧ IsWr T w' R (pushN hy (8 * hy.length) zs.length 16) (8 * hy.length + 16) ∧ Kept T w2 w') := put_any T R hy (8 * hy.length) zs.length 16 w2 hW2 hT2 hTR (by omega) (by have := HL.out; omega) (by omega) (by omega)
  clear hW2
  go_wp2_with fail
  refine H3.out.mono ?_
  clear H3
  rintro e w3 ⟨rfl, hW3, hk3⟩
  have hB3 := (hk3.cell (p := ⟨B, 0, none⟩) hTB).trans hB2
  have h03 := (hk3.cell (p := ⟨K, 0, none⟩) hTK).trans h02
  have hT3 : ∀ k, T k → k < w3.heap.size := fun j hj => Nat.lt_of_lt_of_le (hT2 j hj) hk3.size
  have HL3 : Hid ((pushN hy (8 * hy.length) zs.length 16).length = (8 * hy.length + 16 + 7) / 8) := pushN_length _ _ _ _ (by omega)
  generalize pushN hy (8 * hy.length) zs.length 16 = y3 at HY hW3 HL3
  have H4 : Hid (Calls Tryd.prog 54 #[.pointer (some ⟨R, 0, none⟩), .int .u32 ((nots zs.length : Nat) : Int), .int .i64 ((16 : Nat) : Int)] w3 fun e w' => e = .returned (.int .i64 0) ∧ IsWr T w' R (pushN y3 (8 * hy.length + 16) (nots zs.length) 16) (8 * hy.length + 16 + 16) ∧ Kept T w3 w') := put_any T R y3 (8 * hy.length + 16) (nots zs.length) 16 w3 hW3 hT3 hTR HL3.out (by have := HL.out; omega) (nots_lt _) (by omega)
  clear hW3 hB2 h02
  go_wp2_with fail
  refine H4.out.mono ?_
  clear H4
  rintro e w4 ⟨rfl, hW4, hk4⟩
  have hB4 := (hk4.cell (p := ⟨B, 0, none⟩) hTB).trans hB3
  have h04 := (hk4.cell (p := ⟨K, 0, none⟩) hTK).trans h03
  have hT4 : ∀ k, T k → k < w4.heap.size := fun j hj => Nat.lt_of_lt_of_le (hT3 j hj) hk4.size
  have HL4 : Hid ((pushN y3 (8 * hy.length + 16) (nots zs.length) 16).length = (8 * hy.length + 16 + 16 + 7) / 8) := pushN_length _ _ _ _ HL3.out
  generalize pushN y3 (8 * hy.length + 16) (nots zs.length) 16 = y4 at HY hW4 HL4
  have hI4 := hI.kept ((hk2.trans hk3).trans hk4)
  have H5 : Hid (Calls Tryd.prog 55 #[.pointer (some ⟨R, 0, none⟩), .slice a zs.length cap] w4 fun e w' => e = .returned (.tuple #[]) ∧ IsWr T w' R (y4 ++ zs) (8 * (y4.length + zs.length)) ∧ Kept T w4 w') := wbytes_any T R y4 _ a cap zs w4 ha hW4 hT4 hTR (by have := HL.out; have := HL4.out; omega) hI4
  clear hW4 hB3 h03
  go_wp2_with fail
  refine H5.out.mono ?_
  clear H5
  rintro e w5 ⟨rfl, hW5, hk5⟩
  go_wp2
  go_end0
  refine ⟨rfl, ?_, ((hk2.trans hk3).trans hk4).trans hk5⟩
  rw [HY.out, List.length_append]
  exact hW5
end Go.Proofs.YtijfjbpmlcmnmaaDoor
