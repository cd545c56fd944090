import Derived.Test.YtgihginfegckcaaGreatDoorShfM
import Derived.WalkKit
import Derived.WalkSpells
/- column, row, further. -/
namespace Go.Proofs.YtgihginfegckcaaGreatDoor
open Go.RowKit

theorem wrap64_id (n : Int) (h : -9223372036854775808 ≤ n ∧ n ≤ 9223372036854775807) : wrap64 n = n := by unfold wrap64; omega
def colB (n : Int) : Bool := decide (1 ≤ n) && decide (n ≤ 64)
def rowB (n : Int) : Bool := decide (1 ≤ n) && decide (n ≤ 512)

set_option maxHeartbeats 400000 in
theorem column_any (n : Int) (w : World) : Calls Tryz.prog 120 #[.int .i64 n] w fun e w' => e = .returned (.bool (colB n)) ∧ w' = w := by
  by_cases h1 : 1 ≤ n
  · by_cases h2 : n ≤ 64
    all_goals
      go_enter Tryz.func120, Tryz.ntmps120
      go_wp2
      go_ret
      exact ⟨by simp [colB, h1, h2], rfl⟩
  · go_enter Tryz.func120, Tryz.ntmps120
    go_wp2
    go_ret
    exact ⟨by simp [colB]; omega, rfl⟩
set_option maxHeartbeats 400000 in
theorem row_any (n : Int) (w : World) : Calls Tryz.prog 93 #[.int .i64 n] w fun e w' => e = .returned (.bool (rowB n)) ∧ w' = w := by
  by_cases h1 : 1 ≤ n
  · by_cases h2 : n ≤ 512
    all_goals
      go_enter Tryz.func93, Tryz.ntmps93
      go_wp2
      go_ret
      exact ⟨by simp [rowB, h1, h2], rfl⟩
  · go_enter Tryz.func93, Tryz.ntmps93
    go_wp2
    go_ret
    exact ⟨by simp [rowB]; omega, rfl⟩

end Go.Proofs.YtgihginfegckcaaGreatDoor
/- SheetName. -/
namespace Go.Proofs.YtgihginfegckcaaGreatDoor
open Go.RowKit

/-- May a sheet's name have this byte? -/
def barred : List UInt8 := [58, 92, 47, 63, 42, 91, 93]
def okC (c : UInt8) : Bool := decide (32 ≤ c.toNat) && decide (c.toNat ≤ 126) && decide (Lib.indexByte barred c < 0)
def firstC (l : List UInt8) : Nat := (l.head?.getD 0).toNat
def lastC (l : List UInt8) : Nat := (l.getLast?.getD 0).toNat
/-- May a sheet have this name? -/
@[irreducible] def nameS (l : List UInt8) : Bool := decide (l ≠ []) && decide (l.length ≤ 31) && l.all okC && decide (firstC l ≠ 39) && decide (lastC l ≠ 39)
theorem take_snocB (s : ByteArray) (k : Nat) (h : k < s.size) : s.data.toList.take (k + 1) = s.data.toList.take k ++ [s[k]] := by
  rw [List.take_succ_eq_append_getElem (by simpa using h)]; rfl
theorem firstC_eq (s : ByteArray) (h : 0 < s.size) : firstC s.data.toList = s[0].toNat := by
  unfold firstC
  rw [List.head?_eq_getElem?, List.getElem?_eq_getElem (by simpa using h)]; rfl
theorem lastC_eq (s : ByteArray) (h : s.size - 1 < s.size) : lastC s.data.toList = s[s.size - 1].toNat := by
  unfold lastC
  rw [List.getLast?_eq_getElem?, List.getElem?_eq_getElem (by simpa using h)]; rfl

set_option maxRecDepth 100000 in
set_option maxHeartbeats 1000000 in
theorem sheetName_any (s : ByteArray) (w : World) :
    Calls Tryz.prog 116 #[.string s] w fun e w' => e = .returned (.bool (nameS s.data.toList)) ∧ w' = w := by
  obtain ⟨r, hr⟩ : ∃ r, nameS s.data.toList = r := ⟨_, rfl⟩
  rw [hr]
  have hlen : s.data.toList.length = s.size := by simp
  have H : Hid ((decide (s.data.toList ≠ []) && decide (s.data.toList.length ≤ 31) && s.data.toList.all okC && decide (firstC s.data.toList ≠ 39) && decide (lastC s.data.toList ≠ 39)) = r) := by unfold nameS at hr; exact hr
  clear hr
  by_cases he : s.toList.isEmpty = true
  · have hz : s.data.toList = [] := by rw [Lib.toList_data] at he; simpa using he
    have e : r = false := by rw [← H.out, hz]; rfl
    subst e
    clear hlen
    go_enter Tryz.func116, Tryz.ntmps116
    go_wp2
    go_ret
    exact ⟨rfl, rfl⟩
  have he : s.toList.isEmpty = false := by simpa using he
  have h0 : 0 < s.size := by
    rw [← hlen]
    cases h : s.data.toList with
    | nil => exact absurd (show s.toList.isEmpty = true by rw [Lib.toList_data, h]; rfl) (by rw [he]; simp)
    | cons a b => simp
  by_cases hbig : 31 < s.size
  · have e : r = false := by rw [← H.out, hlen]; simp; omega
    subst e
    have t1 : (31 : Int) < (s.size : Int) := by omega
    clear hlen
    go_enter Tryz.func116, Tryz.ntmps116
    go_wp2
    go_ret
    exact ⟨rfl, rfl⟩
  · have t1 : ¬ ((31 : Int) < (s.size : Int)) := by omega
    have HL : Hid (s.data.toList.length = s.size) := hlen
    clear hlen
    go_enter Tryz.func116, Tryz.ntmps116
    go_wp2
    go_loop [13, 3] (fun v13 _ => ∃ k : Nat, k ≤ s.size ∧ v13 = .int .i64 (k : Int) ∧ Hid ((s.data.toList.take k).all okC = true)) (fun v13 _ => s.size - (intOf v13).toNat)
    case atStart => exact ⟨0, Nat.zero_le _, rfl, by show _ = _; simp⟩
    case round =>
      obtain ⟨k, hk, rfl, HA⟩ := hrel
      by_cases hlt : k < s.size
      · have HT : Hid ((s.data.toList.take (k + 1)).all okC = okC s[k]) := by
          have := HA.out
          show _ = _
          rw [take_snocB s k hlt, List.all_append, this]
          simp
        have HM : Hid (s[k] ∈ s.data.toList) := by show _ ∈ _; exact List.getElem_mem (by simpa using hlt)
        have HN : Hid (okC s[k] = false → r = false) := by
          intro hf
          rw [← H.out, show s.data.toList.all okC = false from List.all_eq_false.2 ⟨_, HM.out, by rw [hf]; simp⟩]
          simp
        have HO : Hid (okC s[k] = (decide (32 ≤ s[k].toNat) && decide (s[k].toNat ≤ 126) && decide (Lib.indexByte barred s[k] < 0))) := rfl
        have HB : Hid (Calls Tryz.prog 24 #[.string ⟨#[58, 92, 47, 63, 42, 91, 93]⟩, .int .u8 (s[k].toNat : Int)] w fun e w' => e = .returned (.int .i64 (Lib.indexByte barred s[k])) ∧ w' = w) := by
          have := Tryz.strings_IndexByte ⟨#[58, 92, 47, 63, 42, 91, 93]⟩ (s[k].toNat : Int) w
          show Calls _ _ _ _ _
          simpa [barred] using this
        by_cases c1 : 32 ≤ s[k].toNat
        rotate_left
        · have d1 : (s[k].toNat : Int) < 32 := by omega
          obtain rfl : r = false := HN.out (by rw [HO.out]; simp [c1])
          clear c1 HA HT HM HN HO HB
          go_wp2
          go_ret
          exact ⟨rfl, rfl⟩
        have d1 : ¬ ((s[k].toNat : Int) < 32) := by omega
        by_cases c2 : s[k].toNat ≤ 126
        rotate_left
        · have d2 : (126 : Int) < (s[k].toNat : Int) := by omega
          obtain rfl : r = false := HN.out (by rw [HO.out]; simp [c2])
          clear c1 c2 HA HT HM HN HO HB
          go_wp2
          go_ret
          exact ⟨rfl, rfl⟩
        have d2 : ¬ ((126 : Int) < (s[k].toNat : Int)) := by omega
        generalize Lib.indexByte barred s[k] = ix at HB HO
        have HC : Hid (okC s[k] = decide (ix < 0)) := by have := HO.out; show _ = _; rw [this]; simp [c1, c2]
        clear HO c1 c2
        by_cases c3 : ix < 0
        · have d3 : ¬ ((0 : Int) ≤ ix) := by omega
          have HR : Hid ((s.data.toList.take (k + 1)).all okC = true) := by have := HT.out; show _ = _; rw [this, HC.out]; simp [c3]
          clear HA HT HM HN HC
          go_wp2_with fail
          refine Calls.mono HB.out ?_
          clear HB
          rintro e w1 ⟨rfl, rfl⟩
          go_wp2
          go_round
          case rel => exact ⟨k + 1, by omega, by go_num, HR.out⟩
          case measure => simp [intOf]; omega
        · have d3 : (0 : Int) ≤ ix := by omega
          obtain rfl : r = false := HN.out (by rw [HC.out]; simp [c3])
          clear HA HT HM HN HC
          go_wp2_with fail
          refine Calls.mono HB.out ?_
          clear HB
          rintro e w1 ⟨rfl, rfl⟩
          go_wp2
          go_ret
          exact ⟨rfl, rfl⟩
      · have t2 : ¬ ((k : Int) < (s.size : Int)) := by omega
        have h1 : s.data.toList.all okC = true := by
          have := HA.out
          rwa [List.take_of_length_le (by simp; omega)] at this
        have hls : s.size - 1 < s.size := by omega
        have HR : Hid (r = (decide (s[0].toNat ≠ 39) && decide (s[s.size - 1].toNat ≠ 39))) := by
          have := H.out
          rw [h1, HL.out, firstC_eq s h0, lastC_eq s hls, show decide (s.data.toList ≠ []) = true from decide_eq_true (fun e => by have := HL.out; rw [e] at this; simp at this; omega), show decide (s.size ≤ 31) = true from decide_eq_true (by omega)] at this
          show _ = _
          rw [← this]; simp
        have e1 : wrap64 ((s.size : Int) - 1) = ((s.size - 1 : Nat) : Int) := by rw [wrap64_id _ (by omega)]; omega
        clear HA h1 H HL
        by_cases c1 : s[0].toNat = 39
        · have d1 : ((s[0].toNat : Int) != 39) = false := by rw [c1]; rfl
          obtain rfl : r = false := by rw [HR.out]; simp [c1]
          clear HR c1
          go_wp2
          go_ret
          exact ⟨rfl, rfl⟩
        · have d1 : ((s[0].toNat : Int) != 39) = true := by rw [bne_iff_ne]; omega
          have HR2 : Hid (r = decide (s[s.size - 1].toNat ≠ 39)) := by show _ = _; rw [HR.out]; simp [c1]
          clear HR c1
          by_cases c2 : s[s.size - 1].toNat = 39
          · have d2 : ((s[s.size - 1].toNat : Int) != 39) = false := by rw [c2]; rfl
            obtain rfl : r = false := by rw [HR2.out]; simp [c2]
            clear HR2 c2
            go_wp2
            go_ret
            exact ⟨rfl, rfl⟩
          · have d2 : ((s[s.size - 1].toNat : Int) != 39) = true := by rw [bne_iff_ne]; omega
            obtain rfl : r = true := by rw [HR2.out]; simp [c2]
            clear HR2 c2
            go_wp2
            go_ret
            exact ⟨rfl, rfl⟩
end Go.Proofs.YtgihginfegckcaaGreatDoor
/- Right, Shift. -/
namespace Go.Proofs.YtgihginfegckcaaGreatDoor
open Go.RowKit

/-- A reference: its sheet's name, column, row, what is fixed. -/
structure Rf where
  s : ByteArray
  c : Int
  r : Int
  ac : Bool
  ar : Bool
def Rf.v (x : Rf) : Value := .agg #[.string x.s, .int .i64 x.c, .int .i64 x.r, .bool x.ac, .bool x.ar]
def Rf.zero : Rf := ⟨.empty, 0, 0, false, false⟩
end Go.Proofs.YtgihginfegckcaaGreatDoor
