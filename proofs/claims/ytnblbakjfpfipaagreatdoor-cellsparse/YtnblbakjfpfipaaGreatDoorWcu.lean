import Derived.Test.YtnblbakjfpfipaaGreatDoorWah
import Derived.BigQuiet
import Derived.Lib.IndexLaws
/- strings.Cut at a sign. -/
namespace Go.Proofs.YtnblbakjfpfipaaGreatDoor
open Go.RowKit

/-- What stands ahead of the first c, what behind it, and whether there is one. -/
def cutB (l : List UInt8) (c : UInt8) : List UInt8 × List UInt8 × Bool :=
  if 0 ≤ Lib.indexByte l c then (l.take (Lib.indexByte l c).toNat, l.drop ((Lib.indexByte l c).toNat + 1), true) else (l, [], false)

set_option maxRecDepth 100000 in
set_option maxHeartbeats 1000000 in
theorem scut_any (l : List UInt8) (c : UInt8) (hl : l.length ≤ 9223372036854775806) (w : World) :
    Calls Tryz.prog 63 #[.string (bs l), .string ⟨#[c]⟩] w fun e w' => e = .returned (.tuple #[.string (bs (cutB l c).1), .string (bs (cutB l c).2.1), .bool (cutB l c).2.2]) ∧ ∃ n, w' = w.drewN n := by
  have HI : Hid _ := Tryz.stringslite_Index_one (bs l) c w
  have hge := Lib.indexByte_ge l c
  by_cases h0 : 0 ≤ Lib.indexByte l c
  · have e : cutB l c = (l.take (Lib.indexByte l c).toNat, l.drop ((Lib.indexByte l c).toNat + 1), true) := if_pos h0
    rw [e]
    obtain ⟨i, hi⟩ : ∃ i : Nat, Lib.indexByte l c = i := ⟨(Lib.indexByte l c).toNat, by omega⟩
    have hil : i < l.length := by
      have := (Lib.indexByte_some hi).1
      exact (List.getElem?_eq_some_iff.1 this).1
    rw [show (bs l).data.toList = l from rfl, hi] at HI
    rw [hi]
    have HS : Hid ((bs l).size = l.length) := bs_size l
    have hs1 : i + 1 ≤ (bs l).size := by have := HS.out; omega
    have hs2 : (bs l).size ≤ 9223372036854775806 := by have := HS.out; omega
    have e1 : (bs l).extract 0 i = bs (l.take i) := bs_take l i
    have e2 : (bs l).extract (i + 1) (bs l).size = bs (l.drop (i + 1)) := bs_drop l (i + 1)
    simp only [Int.toNat_natCast]
    have E1 : Hid _ := e1
    have E2 : Hid _ := e2
    clear e1 e2 e hi h0 hge hl HS hil
    go_enter Tryz.func63, Tryz.ntmps63
    go_wp2_with fail
    refine Calls.mono HI.out ?_
    rintro _ w1 ⟨rfl, rfl⟩
    clear HI
    have hz : (⟨#[c]⟩ : ByteArray).size = 1 := rfl
    go_wp2_with fail
    go_quiet (fail)
    go_wp2
    go_ret3
    refine ⟨congrArg Ending.returned (congrArg Value.tuple ?_), _, rfl⟩
    rw [← E1.out, ← E2.out]
    rfl
  · have e : cutB l c = (l, [], false) := if_neg h0
    rw [e]
    rw [show (bs l).data.toList = l from rfl] at HI
    generalize Lib.indexByte l c = i at HI h0
    have h0' : ¬ (0 ≤ i) := h0
    clear e hge hl h0
    go_enter Tryz.func63, Tryz.ntmps63
    go_wp2_with fail
    refine Calls.mono HI.out ?_
    rintro _ w1 ⟨rfl, rfl⟩
    clear HI
    go_wp2
    go_ret3
    exact ⟨rfl, 0, rfl⟩
set_option maxRecDepth 100000 in
set_option maxHeartbeats 1000000 in
theorem cut_any (l : List UInt8) (c : UInt8) (hl : l.length ≤ 9223372036854775806) (w : World) :
    Calls Tryz.prog 45 #[.string (bs l), .string ⟨#[c]⟩] w fun e w' => e = .returned (.tuple #[.string (bs (cutB l c).1), .string (bs (cutB l c).2.1), .bool (cutB l c).2.2]) ∧ Below w.heap.size w w' := by
  have HC : Hid _ := scut_any l c hl w
  generalize cutB l c = q at HC ⊢
  obtain ⟨a, b, d⟩ := q
  simp only at HC ⊢
  go_enter Tryz.func45, Tryz.ntmps45
  go_wp2_with fail
  refine Calls.mono HC.out ?_
  rintro _ w1 ⟨rfl, n, rfl⟩
  clear HC
  go_wp2
  go_ret3
  exact ⟨rfl, below_drewN (Below.refl _ w) n⟩
end Go.Proofs.YtnblbakjfpfipaaGreatDoor
