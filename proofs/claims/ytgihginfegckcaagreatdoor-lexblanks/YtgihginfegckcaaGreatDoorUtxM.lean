import Derived.Test.YtgihginfegckcaaGreatDoorUtnM
import Derived.Test.YtgihginfegckcaaGreatDoorBaseM
import Derived.WalkSmall
/- utf: the document's Text. -/
namespace Go.Proofs.YtgihginfegckcaaGreatDoor
open Go.RowKit

def textZ (ns : List Int) : List Int := (textL ns).map Int.ofNat
theorem textZ_snoc (ns : List Int) (m : Int) : textZ (ns ++ [m]) = textZ ns ++ (wrN (chrZ m)).map Int.ofNat := by simp [textZ, textL]
theorem wr_le4 (n : Nat) : (wrN n).length ≤ 4 ∧ 1 ≤ (wrN n).length := by
  rw [wrN_len]
  repeat' split
  all_goals simp
theorem textZ_len (ns : List Int) : (textZ ns).length ≤ 4 * ns.length := by
  induction ns with
  | nil => simp [textZ, textL]
  | cons n r ih =>
    have := (wr_le4 (chrZ n)).1
    have e : (textZ (n :: r)).length = (wrN (chrZ n)).length + (textZ r).length := by simp [textZ, textL]
    rw [e, List.length_cons]
    omega
theorem wrV_list (m : Int) : (wrVu m).toList = ((wrN (chrZ m)).map Int.ofNat).map (Value.int .u8) := by
  unfold wrVu
  simp
theorem wrV_size (m : Int) : (wrVu m).size = (wrN (chrZ m)).length := by unfold wrVu; simp

end Go.Proofs.YtgihginfegckcaaGreatDoor
/- utf: the document's Valid, from what 'first' finds. -/
namespace Go.Proofs.YtgihginfegckcaaGreatDoor
open Go.RowKit

def natsOf (s : ByteArray) : List Nat := s.data.toList.map UInt8.toNat
def strV : Value → ByteArray
  | .string s => s
  | _ => ByteArray.empty
theorem natsOf_len (s : ByteArray) : (natsOf s).length = s.size := by
  unfold natsOf
  rw [List.length_map, Array.length_toList]
  rfl
/-- What 'first' answers at a text with a byte or more. -/
def FirstSays : Prop := ∀ (s : ByteArray) (w : World), 0 < s.size → s.size ≤ 140737488351232 → Calls Tryz.prog 64 #[.string s] w fun e w' =>
  e = .returned (.tuple #[.int .i64 ((decL (natsOf s)).1 : Nat), .int .i64 ((decL (natsOf s)).2 : Nat), .bool (decide (decL (natsOf s) ≠ (65533, 1)))]) ∧ Below w.heap.size w w'
theorem dec_le {l : List Nat} (hn : l ≠ []) : (decL l).2 ≤ l.length := by
  have := dec_eq hn
  unfold decL Go.Lib.decodeN
  repeat' split
  all_goals simp only
  all_goals omega
theorem natsOf_drop (s : ByteArray) (n : Nat) : natsOf (s.extract n s.size) = (natsOf s).drop n := by
  have hl := natsOf_len s
  unfold natsOf at hl ⊢
  rw [ByteArray.data_extract, Array.toList_extract, List.extract_eq_take_drop]
  simp only [List.map_take, List.map_drop]
  rw [List.take_of_length_le]
  rw [List.length_drop]
  omega

end Go.Proofs.YtgihginfegckcaaGreatDoor
/- utf: what a range over a string finds; the program's Count, broken, Valid. -/
namespace Go.Proofs.YtgihginfegckcaaGreatDoor
open Go.RowKit

theorem natsOf_getD (s : ByteArray) (j : Nat) : (natsOf s).getD j 0 = (s.get! j).toNat := by
  unfold natsOf
  by_cases h : j < s.size
  · have h' : j < s.data.toList.length := by simpa using h
    have h2 : j < s.data.size := h
    rw [List.getD_eq_getElem?_getD, List.getElem?_map, List.getElem?_eq_getElem h']
    simp only [ByteArray.get!, getElem!_pos s.data j h2]
    simp
  · have h' : ¬ j < s.data.toList.length := by simpa using h
    have h2 : ¬ j < s.data.size := h
    rw [List.getD_eq_getElem?_getD, List.getElem?_map, List.getElem?_eq_none (by omega)]
    simp only [ByteArray.get!, getElem!_neg s.data j h2]
    rfl
theorem drop_getD (l : List Nat) (i j : Nat) : (l.drop i).getD j 0 = l.getD (i + j) 0 := by
  rw [List.getD_eq_getElem?_getD, List.getD_eq_getElem?_getD, List.getElem?_drop]
/-- What the range finds at a place. -/
theorem decode_nats (s : ByteArray) (i : Nat) : Utf8.decode s i = decL ((natsOf s).drop i) := by
  rw [Lib.decode_at]
  unfold decL
  rw [List.length_drop, natsOf_len, drop_getD, drop_getD, drop_getD, drop_getD, natsOf_getD, natsOf_getD, natsOf_getD, natsOf_getD]
  rfl
theorem drop_ne {s : ByteArray} {i : Nat} (h : i < s.size) : (natsOf s).drop i ≠ [] := by
  intro e
  have := congrArg List.length e
  rw [List.length_drop, natsOf_len] at this
  simp at this
  omega
theorem drop_end {s : ByteArray} {i : Nat} (h : ¬ i < s.size) : (natsOf s).drop i = [] := List.drop_eq_nil_of_le (by rw [natsOf_len]; omega)
theorem decL_le (l : List Nat) : (decL l).1 ≤ 1114111 := by
  unfold decL Lib.decodeN
  repeat' split
  all_goals simp only
  all_goals omega
/-- How far the range goes with one step. -/
theorem step_in {s : ByteArray} {i : Nat} (h : i < s.size) : i + (decL ((natsOf s).drop i)).2 ≤ s.size ∧ 1 ≤ (decL ((natsOf s).drop i)).2 := by
  have h1 := dec_le (drop_ne h)
  rw [List.length_drop, natsOf_len] at h1
  have := (dec_size ((natsOf s).drop i)).1
  omega
theorem runes_at {s : ByteArray} {i : Nat} (h : i < s.size) : runesL ((natsOf s).drop i) = (decL ((natsOf s).drop i)).1 :: runesL ((natsOf s).drop (i + (decL ((natsOf s).drop i)).2)) := by
  rw [runesL_step (drop_ne h), List.drop_drop]

/-- The stand-in that is really written. -/
theorem wr_fffd : wrN 65533 = [239, 191, 189] := by decide
theorem dec_fffd {l : List Nat} (hb : Bys l) (hn : l ≠ []) (h1 : (decL l).1 = 65533) : (decL l ≠ (65533, 1)) ↔ [239, 191, 189] <+: l := by
  constructor
  · intro h
    obtain ⟨_, r, hl, _⟩ := dec_ok hb hn h
    rw [h1, wr_fffd] at hl
    exact ⟨r, hl.symm⟩
  · rintro ⟨r, rfl⟩ h
    have := dec_wr 65533 ⟨by omega, by omega, by omega⟩ r
    rw [wr_fffd, h] at this
    simp at this
theorem bys_nats (s : ByteArray) : Bys (natsOf s) := by
  intro x hx
  obtain ⟨b, _, rfl⟩ := List.mem_map.1 hx
  exact b.toNat_lt
theorem bys_drop {l : List Nat} (h : Bys l) (n : Nat) : Bys (l.drop n) := fun x hx => h x (List.mem_of_mem_drop hx)
theorem prefix_map : ∀ (p l : List UInt8), p.isPrefixOf l = (p.map UInt8.toNat).isPrefixOf (l.map UInt8.toNat)
  | [], l => by simp
  | a :: p, [] => by simp
  | a :: p, b :: l => by
    simp only [List.map_cons, List.isPrefixOf_cons_cons, prefix_map p l]
    congr 1
    rw [Bool.eq_iff_iff, beq_iff_eq, beq_iff_eq, UInt8.toNat_inj]
theorem hasP (s : ByteArray) (pos : Nat) (h : pos < s.size) (h1 : (decL ((natsOf s).drop pos)).1 = 65533) :
    Lib.hasPrefix (s.extract pos s.size).data.toList [239, 191, 189] = decide (decL ((natsOf s).drop pos) ≠ (65533, 1)) := by
  unfold Lib.hasPrefix
  rw [prefix_map]
  have e : (s.extract pos s.size).data.toList.map UInt8.toNat = (natsOf s).drop pos := natsOf_drop s pos
  rw [e, Bool.eq_iff_iff, decide_eq_true_iff, List.isPrefixOf_iff_prefix]
  exact (dec_fffd (bys_drop (bys_nats s) pos) (drop_ne h) h1).symm

set_option maxRecDepth 100000 in
set_option maxHeartbeats 2000000 in
/-- Does the byte at a place begin no character? -/
theorem broken_any (s : ByteArray) (pos : Nat) (h : pos < s.size) (w : World) :
    Calls Tryz.prog 52 #[.string s, .int .i64 (pos : Int), .int .i32 ((decL ((natsOf s).drop pos)).1 : Nat)] w fun e w' => e = .returned (.bool (decide (decL ((natsOf s).drop pos) = (65533, 1)))) ∧ w' = w := by
  have hle := decL_le ((natsOf s).drop pos)
  by_cases h1 : (decL ((natsOf s).drop pos)).1 = 65533
  · have hp := hasP s pos h h1
    have HC : Hid _ := Tryz.strings_HasPrefix (s.extract pos s.size) ⟨#[239, 191, 189]⟩ w
    have e : decide (decL ((natsOf s).drop pos) = (65533, 1)) = !decide (decL ((natsOf s).drop pos) ≠ (65533, 1)) := by simp
    rw [h1, e]
    clear e
    obtain ⟨b, hb⟩ : ∃ b, decide (decL ((natsOf s).drop pos) ≠ (65533, 1)) = b := ⟨_, rfl⟩
    rw [hb] at hp ⊢
    clear hb
    have HP : Hid _ := hp
    clear hp
    go_enter Tryz.func52, Tryz.ntmps52
    go_wp2_with fail
    refine Calls.mono HC.out ?_
    rintro e w1 ⟨rfl, rfl⟩
    clear HC
    rw [HP.out]
    go_wp2
    go_ret
    exact ⟨rfl, rfl⟩
  · have e : decide (decL ((natsOf s).drop pos) = (65533, 1)) = false := by
      rw [decide_eq_false_iff_not]
      intro h2
      rw [h2] at h1
      exact h1 rfl
    rw [e]
    obtain ⟨c, hc⟩ : ∃ c, (decL ((natsOf s).drop pos)).1 = c := ⟨_, rfl⟩
    rw [hc] at h1 hle ⊢
    have h2 : ¬ (c : Int) = 65533 := by omega
    clear e hc
    go_enter Tryz.func52, Tryz.ntmps52
    go_wp2
    go_ret
    exact ⟨rfl, rfl⟩
end Go.Proofs.YtgihginfegckcaaGreatDoor
