/- Col: the column that letters are. -/
import Derived.Test.YtnblbakjfpfipaaGreatDoorWah
namespace Go.Proofs.YtnblbakjfpfipaaGreatDoor
open Go.RowKit

def isCap (c : UInt8) : Bool := decide (65 ≤ c.toNat) && decide (c.toNat ≤ 90)
/-- The column so far; none: it is given up. -/
def colStep (o : Option Nat) (c : UInt8) : Option Nat := o.bind fun n => if isCap c && decide (n * 26 + (c.toNat - 65) + 1 ≤ 64) then some (n * 26 + (c.toNat - 65) + 1) else none
def colN (l : List UInt8) : Option Nat := l.foldl colStep (some 0)
theorem colN_none (l : List UInt8) : l.foldl colStep none = none := by
  induction l with
  | nil => rfl
  | cons a l ih => exact ih
theorem colN_le : ∀ (l : List UInt8) (n m : Nat), n ≤ 64 → l.foldl colStep (some n) = some m → m ≤ 64 ∧ (l ≠ [] → 1 ≤ m)
  | [], n, m, h, e => by
    cases e
    exact ⟨h, fun h => absurd rfl h⟩
  | a :: l, n, m, _, e => by
    simp only [List.foldl_cons] at e
    unfold colStep at e
    simp only [Option.bind_some] at e
    split at e
    · rename_i hc
      have hc2 : n * 26 + (a.toNat - 65) + 1 ≤ 64 := by simp at hc; omega
      have := colN_le l _ m hc2 e
      refine ⟨this.1, fun _ => ?_⟩
      cases l with
      | nil => cases e; omega
      | cons b l => exact this.2 (by simp)
    · have := colN_none l
      change l.foldl colStep none = some m at e
      rw [this] at e
      cases e
/-- The column that letters are; none: they are no column. -/
def colOf (l : List UInt8) : Option Nat := if l = [] then none else colN l
theorem colOf_le {l : List UInt8} {m : Nat} (h : colOf l = some m) : 1 ≤ m ∧ m ≤ 64 := by
  unfold colOf at h
  split at h
  · cases h
  · rename_i h0
    have := colN_le l 0 m (by omega) h
    exact ⟨this.2 h0, this.1⟩
theorem take_snocL (l : List UInt8) (k : Nat) (h : k < l.length) : l.take (k + 1) = l.take k ++ [l[k]] := List.take_succ_eq_append_getElem h
theorem colN_split (l : List UInt8) (k : Nat) (h : k < l.length) : colN l = (l.drop (k + 1)).foldl colStep (colStep (colN (l.take k)) l[k]) := by
  have e : l = l.take k ++ (l[k] :: l.drop (k + 1)) := by
    rw [← List.drop_eq_getElem_cons h, List.take_append_drop]
  conv => lhs; rw [e]
  unfold colN
  rw [List.foldl_append, List.foldl_cons]
theorem bs_get (l : List UInt8) (k : Nat) (h : k < (bs l).size) (h' : k < l.length) : (bs l)[k]'h = l[k]'h' := rfl

set_option maxRecDepth 100000 in
set_option maxHeartbeats 1000000 in
theorem col_any (l : List UInt8) (hl : l.length ≤ 9223372036854775807) (w : World) :
    Calls Tryz.prog 6 #[.string (bs l)] w fun e w' => e = .returned (.tuple #[.int .i64 ((colOf l).getD 0 : Nat), .bool (colOf l).isSome]) ∧ w' = w := by
  obtain ⟨r, hr⟩ : ∃ r, colOf l = r := ⟨_, rfl⟩
  rw [hr]
  have H : Hid ((if l = [] then none else colN l) = r) := by unfold colOf at hr; exact hr
  clear hr
  have HS : Hid ((bs l).size = l.length) := bs_size l
  have hsz : (bs l).size ≤ 9223372036854775807 := by rw [bs_size]; exact hl
  clear hl
  have HC : ∀ n : Nat, Hid (Calls Tryz.prog 31 #[.int .i64 (n : Int)] w fun e w' => e = .returned (.bool (decide (1 ≤ n) && decide (n ≤ 64))) ∧ w' = w) := fun n => by
    have := column_any (n : Int) w
    rw [show colB (n : Int) = (decide (1 ≤ n) && decide (n ≤ 64)) by unfold colB; congr 1 <;> (apply decide_eq_decide.2; omega)] at this
    exact this
  go_enter Tryz.func6, Tryz.ntmps6
  go_wp2
  go_loop [8, 4, 5] (fun v8 v4 _ => ∃ k n : Nat, k ≤ (bs l).size ∧ n ≤ 64 ∧ v8 = .int .i64 (k : Int) ∧ v4 = .int .i64 (n : Int) ∧ Hid (colN (l.take k) = some n)) (fun v8 _ _ => (bs l).size - (intOf v8).toNat)
  case atStart => exact ⟨0, 0, Nat.zero_le _, by omega, rfl, rfl, by show _ = _; simp [colN]⟩
  case round =>
    obtain ⟨k, n, hk, hn, rfl, rfl, HA⟩ := hrel
    by_cases hlt : k < (bs l).size
    · have HLT : Hid (k < l.length) := by have := HS.out; show _ < _; omega
      have HK : Hid (k + 1 ≤ (bs l).size) := hlt
      have hlt := hlt
      have HE : Hid (colN l = (l.drop (k + 1)).foldl colStep (colStep (some n) (bs l)[k])) := by
        show _ = _
        rw [bs_get l k hlt HLT.out, colN_split l k HLT.out, HA.out]
      have HT : Hid (colN (l.take (k + 1)) = colStep (some n) (bs l)[k]) := by
        show _ = _
        rw [take_snocL l k HLT.out, bs_get l k hlt HLT.out]
        unfold colN
        rw [List.foldl_append]
        have := HA.out
        unfold colN at this
        rw [this]
        rfl
      have HN : Hid (r = colN l) := by
        have := H.out
        rw [if_neg (fun e => by have := HLT.out; rw [e] at this; simp at this)] at this
        exact this.symm
      have HNone : Hid (colStep (some n) (bs l)[k] = none → r = none) := by
        intro e
        rw [HN.out, HE.out, e, colN_none]
      have HU : Hid ((bs l)[k].toNat < 256) := (bs l)[k].toNat_lt
      have HStep : Hid (colStep (some n) (bs l)[k] = if isCap (bs l)[k] && decide (n * 26 + ((bs l)[k].toNat - 65) + 1 ≤ 64) then some (n * 26 + ((bs l)[k].toNat - 65) + 1) else none) := rfl
      clear HE HN H HA
      by_cases c1 : 65 ≤ (bs l)[k].toNat
      rotate_left
      · have d1 : ((bs l)[k].toNat : Int) < 65 := by omega
        obtain rfl : r = none := HNone.out (by rw [HStep.out]; simp [isCap, c1])
        clear c1 HT HNone HStep HU
        go_wp2
        go_ret2
        exact ⟨rfl, rfl⟩
      have d1 : ¬ (((bs l)[k].toNat : Int) < 65) := by omega
      by_cases c2 : (bs l)[k].toNat ≤ 90
      rotate_left
      · have d2 : (90 : Int) < ((bs l)[k].toNat : Int) := by omega
        obtain rfl : r = none := HNone.out (by rw [HStep.out]; simp [isCap, c2])
        clear c1 c2 HT HNone HStep HU
        go_wp2
        go_ret2
        exact ⟨rfl, rfl⟩
      have d2 : ¬ ((90 : Int) < ((bs l)[k].toNat : Int)) := by omega
      obtain ⟨q, hq⟩ : ∃ q : Nat, n * 26 + ((bs l)[k].toNat - 65) + 1 = q := ⟨_, rfl⟩
      have HI : Hid ((n : Int) * 26 + (((bs l)[k].toNat : Int) - 65) + 1 = (q : Int)) := by show _ = _; omega
      have HQ : Hid (colStep (some n) (bs l)[k] = if q ≤ 64 then some q else none) := by
        have := HStep.out
        show _ = _
        rw [this, hq]
        simp [isCap, c1, c2]
      have HQ1 : Hid (1 ≤ q) := by show _ ≤ _; omega
      have e2 : IntKind.u8.wrap (((bs l)[k].toNat : Int) - 65) = ((bs l)[k].toNat : Int) - 65 := by simp [IntKind.wrap, IntKind.bits, IntKind.signed]; omega
      clear c1 c2 HStep HU hq
      go_wp2_with fail
      rw [HI.out]
      refine Calls.mono (HC q).out ?_
      rintro _ w1 ⟨rfl, rfl⟩
      by_cases c3 : q ≤ 64
      · rw [show (decide (1 ≤ q) && decide (q ≤ 64)) = true by have := HQ1.out; simp; omega]
        have HR : Hid (colN (l.take (k + 1)) = some q) := by have := HT.out; show _ = _; rw [this, HQ.out, if_pos c3]
        clear HT HNone HI HQ HQ1
        go_wp2
        go_round
        case rel => exact ⟨k + 1, q, HK.out, c3, by go_num, rfl, HR.out⟩
        case measure => have := HK.out; simp [intOf]; omega
      · rw [show (decide (1 ≤ q) && decide (q ≤ 64)) = false by simp; omega]
        obtain rfl : r = none := HNone.out (by rw [HQ.out, if_neg c3])
        clear HT HNone HI HQ HQ1
        go_wp2
        go_ret2
        exact ⟨rfl, rfl⟩
    · have t2 : ¬ ((k : Int) < ((bs l).size : Int)) := by omega
      have HR : Hid (colN l = some n) := by
        have := HA.out
        rwa [List.take_of_length_le (by have := HS.out; omega)] at this
      have HV : Hid ((n = 0 ∧ r = none) ∨ (1 ≤ n ∧ r = some n)) := by
        have := H.out
        by_cases e : l = []
        · left
          rw [if_pos e] at this
          refine ⟨?_, this.symm⟩
          have h2 := HR.out
          rw [e] at h2
          exact (Option.some.inj h2).symm
        · right
          rw [if_neg e] at this
          exact ⟨(colN_le l 0 n (by omega) HR.out).2 e, by rw [← this]; exact HR.out⟩
      clear HR H HA
      go_wp2_with fail
      refine Calls.mono (HC n).out ?_
      rintro _ w1 ⟨rfl, rfl⟩
      rcases HV.out with ⟨rfl, rfl⟩ | ⟨h1, rfl⟩
      · clear HV HC
        go_wp2
        go_ret2
        exact ⟨rfl, rfl⟩
      · rw [show (decide (1 ≤ n) && decide (n ≤ 64)) = true by simp; omega]
        clear HV HC
        go_wp2
        go_ret2
        exact ⟨rfl, rfl⟩
end Go.Proofs.YtnblbakjfpfipaaGreatDoor
