import Derived.Test.YtnblbakjfpfipaaGreatDoorRcv
/- A text without a sheet, by places (pure). -/
namespace Go.Proofs.YtnblbakjfpfipaaGreatDoor
open Go.RowKit

theorem ahead_place (l m cs : List UInt8) (p : Nat) (h : l.drop p = m) (k : Nat) (hk : k < (aheadL m cs).length) : ∃ h' : p + k < l.length, cs.contains (l[p + k]) = true := by
  have hm : (aheadL m cs).length ≤ m.length := by have := ahead_len m cs; omega
  have hl : m.length = l.length - p := by rw [← h]; simp
  have h' : p + k < l.length := by omega
  refine ⟨h', ?_⟩
  have e1 : l[p + k] = m[k]'(by omega) := by subst h; simp
  have e2 : m[k]'(by omega) = (aheadL m cs)[k] := by
    have hs := ahead_behind m cs
    have : (aheadL m cs ++ behindL m cs)[k]'(by rw [hs]; omega) = (aheadL m cs)[k] := List.getElem_append_left hk
    rw [← this]
    congr 1
    exact hs.symm
  rw [e1, e2]
  exact ahead_mem (List.getElem_mem hk)
theorem behind_head {m cs : List UInt8} {b : UInt8} {r : List UInt8} (h : behindL m cs = b :: r) : cs.contains b = false := by
  have := List.head?_dropWhile_not (p := (cs.contains ·)) (l := m)
  unfold behindL at h
  rw [h] at this
  simpa using this
theorem behind_drop (l m cs : List UInt8) (p : Nat) (h : l.drop p = m) : l.drop (p + (aheadL m cs).length) = behindL m cs := by
  rw [← List.drop_drop, h]
  have e := ahead_behind m cs
  generalize aheadL m cs = a at e ⊢
  generalize behindL m cs = b at e ⊢
  rw [← e]
  simp
theorem behind_place (l m cs : List UInt8) (p : Nat) (h : l.drop p = m) (h' : p + (aheadL m cs).length < l.length) : cs.contains (l[p + (aheadL m cs).length]) = false := by
  have hd := behind_drop l m cs p h
  rw [List.drop_eq_getElem_cons h'] at hd
  exact behind_head hd.symm
theorem pre_drop (l : List UInt8) (p : Nat) (m : List UInt8) (c : UInt8) (h : l.drop p = m) : l.drop (p + (if Lib.hasPrefix m [c] then 1 else 0)) = Lib.trimPrefix m [c] := by
  cases m with
  | nil => simp [Lib.hasPrefix, Lib.trimPrefix, h]
  | cons a r =>
    by_cases e : a = c
    · subst e
      simp [Lib.hasPrefix, Lib.trimPrefix, ← List.drop_drop, h]
    · simp [Lib.hasPrefix, Lib.trimPrefix, h, Ne.symm e]
theorem cap_bounds_all : (List.range 256).all (fun n => capL.contains (UInt8.ofNat n) == (decide (65 ≤ n) && decide (n ≤ 90))) = true := by kernel_rfl
theorem cap_bounds (c : UInt8) : capL.contains c = (decide (65 ≤ c.toNat) && decide (c.toNat ≤ 90)) := by
  have := List.all_eq_true.1 cap_bounds_all c.toNat (List.mem_range.2 c.toNat_lt)
  simpa using this
theorem dig_all : (List.range 256).all (fun n => digL.contains (UInt8.ofNat n) == digB (UInt8.ofNat n)) = true := by kernel_rfl
theorem dig_same (c : UInt8) : digL.contains c = digB c := by
  have := List.all_eq_true.1 dig_all c.toNat (List.mem_range.2 c.toNat_lt)
  simpa using this
theorem ret_three_b {fn : Func} {p u u2 : Tmp} {ty : TypeId} (h : fn.results = #[.cell p ty, .tmp u, .tmp u2]) {tmps : Array Value} {w : World} {g : Nat} {v x y : Value}
    (hp : tmps.getD p undef = .pointer (some ⟨g, 0, none⟩)) (hx : tmps.getD u undef = x) (hy : tmps.getD u2 undef = y) (hl : (loadVar ty ⟨g, 0, none⟩).run Tryz.prog w = .ok v w) :
    (results fn tmps).run Tryz.prog w = .ok (.tuple #[v, x, y]) w := by
  have hp' : tmps[p]?.getD undef = .pointer (some ⟨g, 0, none⟩) := by simpa using hp
  have hy' : tmps[u2]?.getD undef = y := by simpa using hy
  have hx' : tmps[u]?.getD undef = x := by simpa using hx
  simp [results, h, hp', hy', hx', asAddr, hl]
theorem row_snoc (l : List UInt8) (c : UInt8) : rowN (l ++ [c]) = rowN l * 10 + (c.toNat - 48) := by
  unfold rowN; rw [List.foldl_append]; rfl
end Go.Proofs.YtnblbakjfpfipaaGreatDoor
/- What the document's cell is walked by. -/
namespace Go.Proofs.YtnblbakjfpfipaaGreatDoor
open Go.RowKit

/-- What is known of the places. -/
structure PlAt (l : List UInt8) (p0 p1 p2 p3 : Nat) (q : Nat → Nat) : Prop where
  le1 : p0 ≤ p1
  le3 : p2 ≤ p3
  end3 : p3 ≤ (bs l).size
  cap : ∀ k, p0 ≤ k → k < p1 → ∃ h : k < (bs l).size, 65 ≤ ((bs l)[k]'h).toNat ∧ ((bs l)[k]'h).toNat ≤ 90
  capE : ∀ h : p1 < (bs l).size, ¬ (65 ≤ ((bs l)[p1]'h).toNat ∧ ((bs l)[p1]'h).toNat ≤ 90)
  dig : ∀ k, p2 ≤ k → k < p3 → ∃ h : k < (bs l).size, digB ((bs l)[k]'h) = true
  digE : ∀ h : p3 < (bs l).size, digB ((bs l)[p3]'h) = false
  q0 : q 0 = 0
  qs : ∀ k, p2 ≤ k → k < p3 → ∀ h : k < (bs l).size, q (k - p2 + 1) = q (k - p2) * 10 + (((bs l)[k]'h).toNat - 48)
  qb : ∀ k, k ≤ 7 → q k < 10000000
theorem digB_of {c : UInt8} (h : digB c = true) : 48 ≤ c.toNat ∧ c.toNat ≤ 57 := by simpa [digB] using h
theorem ba_get {l : List UInt8} {k : Nat} (h : k < (bs l).size) : (bs l)[k]? = some ((bs l)[k]'h) := by simp [h]
def RowsAt (w W : World) (r : Int) (a b : Bool) : Prop := Row W w.heap.size 23 #[.string .empty, .int .i64 0, .int .i64 0, .bool false, .bool false] ∧ Row W (w.heap.size + 1) 23 #[.string .empty, .int .i64 0, .int .i64 r, .bool a, .bool b] ∧ Below w.heap.size w W
def cellE (c : Int) (f : Bool) (r : Nat) (a b ok : Bool) : Ending := if ok then .returned (.tuple #[.agg #[.string .empty, .int .i64 c, .int .i64 (r : Int), .bool a, .bool b], .bool true, .bool (f && decide ((r : Int) ≤ 512))]) else .returned (.tuple #[.agg #[.string .empty, .int .i64 0, .int .i64 0, .bool false, .bool false], .bool false, .bool false])

end Go.Proofs.YtnblbakjfpfipaaGreatDoor
