/- The document's writer, which keeps its bits in a list: Put and Align. -/
import Derived.Test.YtmebbmofegjgnaaPk
import Derived.Deep.LoopGhost
namespace Go.Proofs.Ytmebbmofegjgnaa
open Go.RowKit

def bitCells (bs : List Bool) : List Value := bs.map fun b => Value.int .u8 ((b.toNat : Nat) : Int)
theorem bitCells_length (bs : List Bool) : (bitCells bs).length = bs.length := by simp [bitCells]

/-- The document's writer at R: its bits bs; its row lies outside T. -/
def IsDr (T : Nat → Prop) (w : World) (R : Nat) (bs : List Bool) : Prop :=
  ∃ g c, Boxed w R 45 (.slice g bs.length c) ∧ w.ownsRow 0 5 1 (.slice g bs.length c) bs.length (bitCells bs) ∧ ∀ k, (Value.slice g bs.length c).ownBlock = some k → ¬ T k

set_option maxHeartbeats 400000 in
theorem dput_arg (R : Nat) (v n : Int) (w : World) (hn : n < 0 ∨ 32 < n) : Calls Try.prog 21 #[.pointer (some ⟨R, 0, none⟩), .int .u32 v, .int .i64 n] w fun e w' => e = .returned (.int .i64 1) ∧ w' = w := by
  rcases hn with h | h
  · go_enter Try.func21, Try.ntmps21
    go_wp2
    go_ret
    exact ⟨rfl, rfl⟩
  · have h' : ¬ n < 0 := by omega
    go_enter Try.func21, Try.ntmps21
    go_wp2
    go_ret
    exact ⟨rfl, rfl⟩

/-- What stands behind one append to the list. -/
theorem dr_step {T : Nat → Prop} {w w1 : World} {R : Nat} {bs : List Bool} {g : Option Addr} {c g' cap' : Nat} {tmp : Obj} (b : Bool) (hB : Boxed w R 45 (.slice g bs.length c)) (hown : w.ownsRow 0 5 1 (.slice g bs.length c) bs.length (bitCells bs))
    (hg : ∀ k, (Value.slice g bs.length c).ownBlock = some k → ¬ T k) (hT : ∀ k, T k → k < w.heap.size) (hTR : ¬ T R)
    (hown' : w1.ownsRow 0 5 1 (.slice (some ⟨g', 0, none⟩) (bs.length + 1) cap') (bs.length + 1) (bitCells bs ++ [.int .u8 ((b.toNat : Nat) : Int)])) (hgrow : (w.alloc tmp).grownBy w1 (Value.slice g bs.length c).ownBlock)
    (hblk : (Value.slice g bs.length c).ownBlock = some g' ∨ w.heap.size ≤ g') :
    Boxed w1 R 45 (.slice g bs.length c) ∧ IsDr T (w1.setCell ⟨R, 0, none⟩ (.slice (some ⟨g', 0, none⟩) (bs.length + 1) cap')) R (bs ++ [b]) ∧ Kept T w (w1.setCell ⟨R, 0, none⟩ (.slice (some ⟨g', 0, none⟩) (bs.length + 1) cap')) := by
  have hB1 : Boxed w1 R 45 (.slice g bs.length c) := (hB.alloc tmp).kept hgrow (hB.not_row (by decide) hown)
  have hk1 : Kept T w w1 := ((Kept.refl T w).alloc hT _).grown hgrow (fun k hk => by simp; have := hT k hk; omega) hg
  have hg' : ¬ T g' := by
    rcases hblk with h | h
    · exact hg g' h
    · exact fun ht => by have := hT g' ht; omega
  refine ⟨hB1, ⟨some ⟨g', 0, none⟩, cap', ?_, ?_, ?_⟩, hk1.setCell (p := ⟨R, 0, none⟩) hTR _⟩
  · rw [List.length_append]; exact hB1.set _
  · rw [List.length_append]
    have e : bitCells (bs ++ [b]) = bitCells bs ++ [.int .u8 ((b.toNat : Nat) : Int)] := by simp [bitCells]
    rw [e]
    exact hown'.kept (grownBy_setCell' w1 R _) (.inr (fun h => hB1.not_row (by decide) hown' h.symm))
  · intro k hk
    simp [Value.ownBlock] at hk
    subst hk
    exact hg'

theorem u8_and_one (x : Int) (h0 : 0 ≤ x) (h1 : x < 256) : bits .and .u8 x 1 = x % 2 := by
  rw [u8_and x 1 h0 h1 (by omega) (by omega)]
  simp only [show (1 : Int).toNat = 1 from rfl, Nat.and_one_is_mod]
  omega
theorem dbit_walk (v k : Nat) : bits .and .u8 ((v : Int) / 2 ^ k % 256) 1 = (((v.testBit k).toNat : Nat) : Int) := by
  have e : (v : Int) / 2 ^ k = ((v / 2 ^ k : Nat) : Int) := by simp
  rw [e, Nat.toNat_testBit]
  generalize v / 2 ^ k = q
  rw [u8_and_one _ (by omega) (by omega)]
  omega

set_option maxHeartbeats 1000000 in
theorem dput_any (T : Nat → Prop) (R : Nat) (bs : List Bool) (v n : Nat) (w : World) (hW : IsDr T w R bs) (hT : ∀ k, T k → k < w.heap.size) (hTR : ¬ T R) (hsz : bs.length + 32 < 140737488355328) (hn : n ≤ 32) :
    Calls Try.prog 21 #[.pointer (some ⟨R, 0, none⟩), .int .u32 v, .int .i64 n] w fun e w' => e = .returned (.int .i64 0) ∧ IsDr T w' R (bs ++ lowBits v n) ∧ Kept T w w' := by
  obtain ⟨i0, hi, hz0, hz1, hz2⟩ := info_parts Try.info5
  go_enter Try.func21, Try.ntmps21
  go_wp2
  go_loopw [7] (fun i wr => ∃ k : Nat, k ≤ n ∧ i = .int .i64 k ∧ IsDr T wr R (bs ++ lowBits v k) ∧ Kept T w wr) (fun i _ => n - (intOf i).toNat)
  case atStart => exact ⟨0, by omega, rfl, by simpa [lowBits] using hW, Kept.refl _ _⟩
  case round =>
    obtain ⟨k, hk, rfl, hI, hK⟩ := hrel
    by_cases hlt : k < n
    · obtain ⟨g, c, hB, hown, hg⟩ := hI
      have hlen : (bs ++ lowBits v k).length = bs.length + k := by rw [List.length_append, lowBits_length]
      have hb := dbit_walk v k
      have HS : Hid (bs ++ lowBits v (k + 1) = (bs ++ lowBits v k) ++ [v.testBit k]) := by show _ = _; rw [lowBits_succ, List.append_assoc]
      have hTr : ∀ j, T j → j < wr.heap.size := fun j hj => Nat.lt_of_lt_of_le (hT j hj) hK.size
      have hm : (bs ++ lowBits v k).length < 140737488355328 := by omega
      generalize bs ++ lowBits v k = us at hB hown hg HS hm
      generalize v.testBit k = b at hb HS
      have c0 := hB.cell
      clear hlen
      go_wp2_with (at_builtin; refine wpList_append_own2 _ rfl (.tmp 23) (.tmp 30) 22 rfl 0 5 i0 (.int .u8 0) 1 1 Try.underlying22 hi hz0 hz1 hz2 rfl (by decide) _ _ _ rfl (hown.alloc _) ⟨wr.heap.size, 0, none⟩ 1 1 [.int .u8 ((b.toNat : Nat) : Int)] rfl rfl (cell_one_new _ _ _) (by simp [Value.oneCell']) (by unfold maxLen; omega) (by omega) (by simp) ?_)
      intro v' w1 hown' hgrow hblk
      obtain ⟨g', cap', rfl⟩ := ownsRow_succ hown'
      have hblk' : (Value.slice g us.length c).ownBlock = some g' ∨ wr.heap.size ≤ g' := by
        rcases hblk g' rfl with h | h
        · exact .inl h
        · exact .inr (by first | omega | (simp at h; omega))
      obtain ⟨hB1, hI1, hK1⟩ := dr_step b hB hown hg hTr hTR hown' hgrow hblk'
      have k0 := hB1.cell
      have k1 := hB1.frozen
      clear hblk hblk' c0 hB hown hg hown' hgrow hi hz0 hz1 hz2
      go_wp2
      exact ⟨⟨k + 1, by omega, by go_num, by rw [HS.out]; exact hI1, hK.trans hK1⟩, by simp [intOf]; omega⟩
    · obtain rfl : k = n := by omega
      go_wp2
      go_ret
      exact ⟨rfl, hI, hK⟩

/-- How many noughts fill a byte that was begun. -/
def padN (n : Nat) : Nat := (8 - n % 8) % 8
def pad (bs : List Bool) : List Bool := bs ++ List.replicate (padN bs.length) false
theorem pad_length (bs : List Bool) : (pad bs).length = (bs.length + 7) / 8 * 8 := by
  simp only [pad, List.length_append, List.length_replicate, padN]
  omega

set_option maxHeartbeats 1000000 in
theorem dalign_any (T : Nat → Prop) (R : Nat) (bs : List Bool) (w : World) (hW : IsDr T w R bs) (hT : ∀ k, T k → k < w.heap.size) (hTR : ¬ T R) (hsz : bs.length + 32 < 140737488355328) :
    Calls Try.prog 23 #[.pointer (some ⟨R, 0, none⟩)] w fun e w' => e = .returned (.tuple #[]) ∧ IsDr T w' R (pad bs) ∧ Kept T w w' := by
  obtain ⟨i0, hi, hz0, hz1, hz2⟩ := info_parts Try.info5
  go_enter Try.func23, Try.ntmps23
  go_wp2
  go_loopg [] (padN bs.length) (fun k wr => ∃ m : Nat, m + k = padN bs.length ∧ IsDr T wr R (bs ++ List.replicate m false) ∧ Kept T w wr)
  case atStart => exact ⟨0, by omega, by simpa using hW, Kept.refl _ _⟩
  case round =>
    obtain ⟨m, hm, hI, hK⟩ := hrel
    have HP : Hid (padN bs.length = (8 - bs.length % 8) % 8) := rfl
    have hlen : (bs ++ List.replicate m false).length = bs.length + m := by simp
    by_cases hlt : m < padN bs.length
    · obtain ⟨g, c, hB, hown, hg⟩ := hI
      have HS : Hid (bs ++ List.replicate (m + 1) false = (bs ++ List.replicate m false) ++ [false]) := by show _ = _; rw [List.append_assoc, List.replicate_succ']
      have hTr : ∀ j, T j → j < wr.heap.size := fun j hj => Nat.lt_of_lt_of_le (hT j hj) hK.size
      have ht : (((bs ++ List.replicate m false).length : Int) % 8 != 0) = true := by rw [bne_iff_ne]; have := HP.out; omega
      have hmx : (bs ++ List.replicate m false).length < 140737488355328 := by have := HP.out; omega
      have HM : Hid (m + gk = padN bs.length ∧ m < padN bs.length) := ⟨hm, hlt⟩
      generalize bs ++ List.replicate m false = us at hB hown hg HS ht hmx
      have c0 := hB.cell
      clear hlen hm hlt
      go_wp2_with (at_builtin; refine wpList_append_own2 _ rfl (.tmp 13) (.tmp 14) 22 rfl 0 5 i0 (.int .u8 0) 1 1 Try.underlying22 hi hz0 hz1 hz2 rfl (by decide) _ _ _ rfl (hown.alloc _) ⟨wr.heap.size, 0, none⟩ 1 1 [.int .u8 0] rfl rfl (cell_one_new _ _ _) (by simp [Value.oneCell']) (by unfold maxLen; omega) (by omega) (by simp) ?_)
      intro v' w1 hown' hgrow hblk
      obtain ⟨g', cap', rfl⟩ := ownsRow_succ hown'
      have hblk' : (Value.slice g us.length c).ownBlock = some g' ∨ wr.heap.size ≤ g' := by
        rcases hblk g' rfl with h | h
        · exact .inl h
        · exact .inr (by first | omega | (simp at h; omega))
      obtain ⟨hB1, hI1, hK1⟩ := dr_step false hB hown hg hTr hTR hown' hgrow hblk'
      have k0 := hB1.cell
      have k1 := hB1.frozen
      clear hblk hblk' c0 hB hown hg hown' hgrow hi hz0 hz1 hz2
      go_wp2
      go_roundg (gk - 1)
      case measure => have := HM.out; omega
      case rel => exact ⟨m + 1, by have := HM.out; omega, by rw [HS.out]; exact hI1, hK.trans hK1⟩
    · obtain rfl : m = padN bs.length := by omega
      obtain ⟨g, c, hB, hown, hg⟩ := hI
      have ht : (((bs ++ List.replicate (padN bs.length) false).length : Int) % 8 != 0) = false := by rw [bne_eq_false_iff_eq]; have := HP.out; omega
      have HI : Hid (IsDr T wr R (pad bs)) := ⟨g, c, hB, hown, hg⟩
      have c0 := hB.cell
      generalize (bs ++ List.replicate (padN bs.length) false).length = L at hB ht c0
      clear hown hg hlen hm
      go_wp2
      go_end0
      exact ⟨rfl, HI.out, hK⟩
end Go.Proofs.Ytmebbmofegjgnaa
