import Derived.Test.YtgihginfegckcaaGreatDoorWah
import Derived.Test.YtgihginfegckcaaGreatDoorWrpM
import Derived.Lib.AtoiErrMem
/- Col: the column that letters are. -/
namespace Go.Proofs.YtgihginfegckcaaGreatDoor
open Go.RowKit

def isCap (c : UInt8) : Bool := decide (65 ≤ c.toNat) && decide (c.toNat ≤ 90)
/-- The column so far; none: it is given up. -/
def colStep (o : Option Nat) (c : UInt8) : Option Nat := o.bind fun n => if isCap c && decide (n * 26 + (c.toNat - 65) + 1 ≤ 64) then some (n * 26 + (c.toNat - 65) + 1) else none
def colN (l : List UInt8) : Option Nat := l.foldl colStep (some 0)
theorem colN_none (l : List UInt8) : l.foldl colStep none = none := by
  induction l with
  | nil => rfl
  | cons a l ih => exact ih
theorem colN_le : ∀ (l : List UInt8) (n m : Nat), n ≤ 64 → l.foldl colStep (some n) = some m → m ≤ 64 ∧ (l ≠ [] → 1 ≤ m)
  | [], n, m, h, e => by
    cases e
    exact ⟨h, fun h => absurd rfl h⟩
  | a :: l, n, m, _, e => by
    simp only [List.foldl_cons] at e
    unfold colStep at e
    simp only [Option.bind_some] at e
    split at e
    · rename_i hc
      have hc2 : n * 26 + (a.toNat - 65) + 1 ≤ 64 := by simp at hc; omega
      have := colN_le l _ m hc2 e
      refine ⟨this.1, fun _ => ?_⟩
      cases l with
      | nil => cases e; omega
      | cons b l => exact this.2 (by simp)
    · have := colN_none l
      change l.foldl colStep none = some m at e
      rw [this] at e
      cases e
/-- The column that letters are; none: they are no column. -/
def colOf (l : List UInt8) : Option Nat := if l = [] then none else colN l
theorem colOf_le {l : List UInt8} {m : Nat} (h : colOf l = some m) : 1 ≤ m ∧ m ≤ 64 := by
  unfold colOf at h
  split at h
  · cases h
  · rename_i h0
    have := colN_le l 0 m (by omega) h
    exact ⟨this.2 h0, this.1⟩
theorem take_snocL (l : List UInt8) (k : Nat) (h : k < l.length) : l.take (k + 1) = l.take k ++ [l[k]] := List.take_succ_eq_append_getElem h
theorem colN_split (l : List UInt8) (k : Nat) (h : k < l.length) : colN l = (l.drop (k + 1)).foldl colStep (colStep (colN (l.take k)) l[k]) := by
  have e : l = l.take k ++ (l[k] :: l.drop (k + 1)) := by
    rw [← List.drop_eq_getElem_cons h, List.take_append_drop]
  conv => lhs; rw [e]
  unfold colN
  rw [List.foldl_append, List.foldl_cons]
theorem bs_get (l : List UInt8) (k : Nat) (h : k < (bs l).size) (h' : k < l.length) : (bs l)[k]'h = l[k]'h' := rfl

set_option maxRecDepth 100000 in
set_option maxHeartbeats 1000000 in
theorem col_any (l : List UInt8) (hl : l.length ≤ 9223372036854775807) (w : World) :
    Calls Tryz.prog 91 #[.string (bs l)] w fun e w' => e = .returned (.tuple #[.int .i64 ((colOf l).getD 0 : Nat), .bool (colOf l).isSome]) ∧ w' = w := by
  obtain ⟨r, hr⟩ : ∃ r, colOf l = r := ⟨_, rfl⟩
  rw [hr]
  have H : Hid ((if l = [] then none else colN l) = r) := by unfold colOf at hr; exact hr
  clear hr
  have HS : Hid ((bs l).size = l.length) := bs_size l
  have hsz : (bs l).size ≤ 9223372036854775807 := by rw [bs_size]; exact hl
  clear hl
  have HC : ∀ n : Nat, Hid (Calls Tryz.prog 120 #[.int .i64 (n : Int)] w fun e w' => e = .returned (.bool (decide (1 ≤ n) && decide (n ≤ 64))) ∧ w' = w) := fun n => by
    have := column_any (n : Int) w
    rw [show colB (n : Int) = (decide (1 ≤ n) && decide (n ≤ 64)) by unfold colB; congr 1 <;> (apply decide_eq_decide.2; omega)] at this
    exact this
  go_enter Tryz.func91, Tryz.ntmps91
  go_wp2
  go_loop [8, 4, 5] (fun v8 v4 _ => ∃ k n : Nat, k ≤ (bs l).size ∧ n ≤ 64 ∧ v8 = .int .i64 (k : Int) ∧ v4 = .int .i64 (n : Int) ∧ Hid (colN (l.take k) = some n)) (fun v8 _ _ => (bs l).size - (intOf v8).toNat)
  case atStart => exact ⟨0, 0, Nat.zero_le _, by omega, rfl, rfl, by show _ = _; simp [colN]⟩
  case round =>
    obtain ⟨k, n, hk, hn, rfl, rfl, HA⟩ := hrel
    by_cases hlt : k < (bs l).size
    · have HLT : Hid (k < l.length) := by have := HS.out; show _ < _; omega
      have HK : Hid (k + 1 ≤ (bs l).size) := hlt
      have hlt := hlt
      have HE : Hid (colN l = (l.drop (k + 1)).foldl colStep (colStep (some n) (bs l)[k])) := by
        show _ = _
        rw [bs_get l k hlt HLT.out, colN_split l k HLT.out, HA.out]
      have HT : Hid (colN (l.take (k + 1)) = colStep (some n) (bs l)[k]) := by
        show _ = _
        rw [take_snocL l k HLT.out, bs_get l k hlt HLT.out]
        unfold colN
        rw [List.foldl_append]
        have := HA.out
        unfold colN at this
        rw [this]
        rfl
      have HN : Hid (r = colN l) := by
        have := H.out
        rw [if_neg (fun e => by have := HLT.out; rw [e] at this; simp at this)] at this
        exact this.symm
      have HNone : Hid (colStep (some n) (bs l)[k] = none → r = none) := by
        intro e
        rw [HN.out, HE.out, e, colN_none]
      have HU : Hid ((bs l)[k].toNat < 256) := (bs l)[k].toNat_lt
      have HStep : Hid (colStep (some n) (bs l)[k] = if isCap (bs l)[k] && decide (n * 26 + ((bs l)[k].toNat - 65) + 1 ≤ 64) then some (n * 26 + ((bs l)[k].toNat - 65) + 1) else none) := rfl
      clear HE HN H HA
      by_cases c1 : 65 ≤ (bs l)[k].toNat
      rotate_left
      · have d1 : ((bs l)[k].toNat : Int) < 65 := by omega
        obtain rfl : r = none := HNone.out (by rw [HStep.out]; simp [isCap, c1])
        clear c1 HT HNone HStep HU
        go_wp2
        go_ret2
        exact ⟨rfl, rfl⟩
      have d1 : ¬ (((bs l)[k].toNat : Int) < 65) := by omega
      by_cases c2 : (bs l)[k].toNat ≤ 90
      rotate_left
      · have d2 : (90 : Int) < ((bs l)[k].toNat : Int) := by omega
        obtain rfl : r = none := HNone.out (by rw [HStep.out]; simp [isCap, c2])
        clear c1 c2 HT HNone HStep HU
        go_wp2
        go_ret2
        exact ⟨rfl, rfl⟩
      have d2 : ¬ ((90 : Int) < ((bs l)[k].toNat : Int)) := by omega
      obtain ⟨q, hq⟩ : ∃ q : Nat, n * 26 + ((bs l)[k].toNat - 65) + 1 = q := ⟨_, rfl⟩
      have HI : Hid ((n : Int) * 26 + (((bs l)[k].toNat : Int) - 65) + 1 = (q : Int)) := by show _ = _; omega
      have HQ : Hid (colStep (some n) (bs l)[k] = if q ≤ 64 then some q else none) := by
        have := HStep.out
        show _ = _
        rw [this, hq]
        simp [isCap, c1, c2]
      have HQ1 : Hid (1 ≤ q) := by show _ ≤ _; omega
      have e2 : IntKind.u8.wrap (((bs l)[k].toNat : Int) - 65) = ((bs l)[k].toNat : Int) - 65 := by simp [IntKind.wrap, IntKind.bits, IntKind.signed]; omega
      clear c1 c2 HStep HU hq
      go_wp2_with fail
      rw [HI.out]
      refine Calls.mono (HC q).out ?_
      rintro _ w1 ⟨rfl, rfl⟩
      by_cases c3 : q ≤ 64
      · rw [show (decide (1 ≤ q) && decide (q ≤ 64)) = true by have := HQ1.out; simp; omega]
        have HR : Hid (colN (l.take (k + 1)) = some q) := by have := HT.out; show _ = _; rw [this, HQ.out, if_pos c3]
        clear HT HNone HI HQ HQ1
        go_wp2
        go_round
        case rel => exact ⟨k + 1, q, HK.out, c3, by go_num, rfl, HR.out⟩
        case measure => have := HK.out; simp [intOf]; omega
      · rw [show (decide (1 ≤ q) && decide (q ≤ 64)) = false by simp; omega]
        obtain rfl : r = none := HNone.out (by rw [HQ.out, if_neg c3])
        clear HT HNone HI HQ HQ1
        go_wp2
        go_ret2
        exact ⟨rfl, rfl⟩
    · have t2 : ¬ ((k : Int) < ((bs l).size : Int)) := by omega
      have HR : Hid (colN l = some n) := by
        have := HA.out
        rwa [List.take_of_length_le (by have := HS.out; omega)] at this
      have HV : Hid ((n = 0 ∧ r = none) ∨ (1 ≤ n ∧ r = some n)) := by
        have := H.out
        by_cases e : l = []
        · left
          rw [if_pos e] at this
          refine ⟨?_, this.symm⟩
          have h2 := HR.out
          rw [e] at h2
          exact (Option.some.inj h2).symm
        · right
          rw [if_neg e] at this
          exact ⟨(colN_le l 0 n (by omega) HR.out).2 e, by rw [← this]; exact HR.out⟩
      clear HR H HA
      go_wp2_with fail
      refine Calls.mono (HC n).out ?_
      rintro _ w1 ⟨rfl, rfl⟩
      rcases HV.out with ⟨rfl, rfl⟩ | ⟨h1, rfl⟩
      · clear HV HC
        go_wp2
        go_ret2
        exact ⟨rfl, rfl⟩
      · rw [show (decide (1 ≤ n) && decide (n ≤ 64)) = true by simp; omega]
        clear HV HC
        go_wp2
        go_ret2
        exact ⟨rfl, rfl⟩
end Go.Proofs.YtgihginfegckcaaGreatDoor
/- found: the reference that a text is written for. -/
namespace Go.Proofs.YtgihginfegckcaaGreatDoor
open Go.RowKit

/-- The number that digits are. -/
def rowN (l : List UInt8) : Nat := l.foldl (fun a b => a * 10 + (b.toNat - 48)) 0
theorem decFrom_all : ∀ (l : List UInt8) (acc : Nat), (∀ b ∈ l, 48 ≤ b.toNat ∧ b.toNat ≤ 57) → Lib.decFrom acc l = some (l.foldl (fun a b => a * 10 + (b.toNat - 48)) acc)
  | [], acc, _ => rfl
  | b :: l, acc, h => by
    have hb := h b (by simp)
    unfold Lib.decFrom Lib.digitVal
    rw [if_pos hb]
    exact decFrom_all l _ (fun c hc => h c (by simp [hc]))
theorem dig_bounds {b : UInt8} (h : digL.contains b = true) : 48 ≤ b.toNat ∧ b.toNat ≤ 57 := by
  simp [digL] at h
  rcases h with rfl | rfl | rfl | rfl | rfl | rfl | rfl | rfl | rfl | rfl <;> decide
theorem ahead_mem {l cs : List UInt8} {b : UInt8} (h : b ∈ aheadL l cs) : cs.contains b = true := by
  unfold aheadL at h
  induction l with
  | nil => simp at h
  | cons a l ih =>
    rw [List.takeWhile_cons] at h
    split at h
    · rcases List.mem_cons.1 h with rfl | h
      · assumption
      · exact ih h
    · simp at h
theorem atoi_dig {l : List UInt8} (h0 : l ≠ []) (h : ∀ b ∈ l, 48 ≤ b.toNat ∧ b.toNat ≤ 57) : Lib.atoi l = some ((rowN l : Nat) : Int) := by
  cases l with
  | nil => exact absurd rfl h0
  | cons b r =>
    have hb := h b (by simp)
    show (if (b == 45) = true then (Lib.decNat r).map (fun (m : Nat) => -(m : Int)) else if (b == 43) = true then (Lib.decNat r).map (fun (m : Nat) => (m : Int)) else (Lib.decNat (b :: r)).map (fun (m : Nat) => (m : Int))) = _
    rw [if_neg (by intro e; rw [beq_iff_eq.1 e] at hb; exact absurd hb (by decide)), if_neg (by intro e; rw [beq_iff_eq.1 e] at hb; exact absurd hb (by decide))]
    unfold Lib.decNat
    rw [if_neg (by simp), decFrom_all _ 0 h]
    rfl
/-- The reference that is written; none: there is no such column or row. -/
def foundR (s : ByteArray) (p : Pl) : Option Rf := if (colOf p.letters).isSome && rowB (rowN p.digits) then some ⟨s, ((colOf p.letters).getD 0 : Nat), (rowN p.digits : Nat), p.ac, p.ar⟩ else none

set_option maxRecDepth 100000 in
set_option maxHeartbeats 2000000 in
theorem found_raw (s : ByteArray) (L D : List UInt8) (ac ar : Bool) (hL : L.length ≤ 3) (hD : D.length ≤ 7) (n : Int) (hn : Lib.atoi D = some n) (w : World) :
    Calls Tryz.prog 57 #[.agg #[.string s, .string (bs L), .string (bs D), .bool ac, .bool ar]] w fun e w' => e = .returned (.tuple #[if (colOf L).isSome && rowB n then .agg #[.string s, .int .i64 ((colOf L).getD 0 : Nat), .int .i64 n, .bool ac, .bool ar] else .agg #[.string .empty, .int .i64 0, .int .i64 0, .bool false, .bool false], .bool ((colOf L).isSome && rowB n)]) ∧ Below w.heap.size w w' := by
  have HC : ∀ W, Hid _ := fun W => col_any L (by omega) W
  have HA : ∀ W, Hid _ := fun W => Tryz.strconv_Atoi (bs D) n (by rw [bs_size]; omega) hn W
  have HR : ∀ W, Hid _ := fun W => row_any n W
  clear hn hL hD
  generalize colOf L = o at HC ⊢
  generalize rowB n = q at HR ⊢
  go_enter Tryz.func57, Tryz.ntmps57
  go_wp2_with fail
  refine Calls.mono (HC _).out ?_
  rintro _ w1 ⟨rfl, rfl⟩
  go_wp2_with fail
  refine Calls.mono (HA _).out ?_
  rintro _ w1 ⟨rfl, t, hw1⟩
  obtain ⟨hA, hZ, hB⟩ := two_rows w w1 _ _ _ _ (by rw [hw1]; exact Lib.bytesWorld_below _ _ _)
  clear hw1 HC HA
  obtain ⟨c0, c1, c2, c3, c4⟩ := hA.five
  obtain ⟨d0, d1, d2, d3, d4⟩ := hZ.five
  have z1 := hA.frozen
  have z2 := hZ.frozen
  cases o with
  | none =>
    clear HR
    go_wp2
    refine bodyPost_ret (ret_two rfl (g := w.heap.size + 1) rfl rfl (load23 (Row.set5 hZ _ _ _ _ _) rfl)) rfl ⟨rfl, ?_⟩
    exact below_set5 hB (by omega) _ _ _ _ _
  | some c =>
    go_wp2_with fail
    refine Calls.mono (HR _).out ?_
    rintro _ w0 ⟨rfl, rfl⟩
    clear HR
    cases q
    · go_wp2
      refine bodyPost_ret (ret_two rfl (g := w.heap.size + 1) rfl rfl (load23 (Row.set5 hZ _ _ _ _ _) rfl)) rfl ⟨rfl, ?_⟩
      exact below_set5 hB (by omega) _ _ _ _ _
    · go_wp2
      refine bodyPost_ret (ret_two rfl (g := w.heap.size + 1) rfl rfl (load23 (Row.set5 hZ _ _ _ _ _) rfl)) rfl ⟨rfl, ?_⟩
      exact below_set5 hB (by omega) _ _ _ _ _
theorem found_any (s : ByteArray) (l : List UInt8) (h : (placeP l).ok = true) (w : World) :
    Calls Tryz.prog 57 #[wrV s (placeP l)] w fun e w' => e = .returned (.tuple #[((foundR s (placeP l)).getD Rf.zero).v, .bool (foundR s (placeP l)).isSome]) ∧ Below w.heap.size w w' := by
  have h2 : lettersOk (placeP l).letters = true ∧ digitsOk (placeP l).digits = true := by
    unfold Pl.ok at h
    simp only [Bool.and_eq_true] at h
    exact h.1
  have hd0 : (placeP l).digits ≠ [] := by
    intro e
    have := h2.2
    rw [e] at this
    exact absurd this (by decide)
  have hd7 : (placeP l).digits.length ≤ 7 := by
    have := h2.2
    unfold digitsOk at this
    simp only [Bool.and_eq_true, decide_eq_true_eq] at this
    exact this.1.2
  have hl3 : (placeP l).letters.length ≤ 3 := by
    have := h2.1
    unfold lettersOk at this
    simp only [Bool.and_eq_true, decide_eq_true_eq] at this
    exact this.2
  have hn := atoi_dig hd0 (fun b hb => dig_bounds (ahead_mem (l := Lib.trimPrefix (behindL (Lib.trimPrefix l [36]) capL) [36]) (cs := digL) hb))
  generalize placeP l = p at *
  obtain ⟨L, D, R, ac, ar⟩ := p
  refine (found_raw s L D ac ar hl3 hd7 _ hn w).mono ?_
  rintro e w' ⟨rfl, hB⟩
  refine ⟨?_, hB⟩
  unfold foundR
  simp only
  cases ((colOf L).isSome && rowB ((rowN D : Nat) : Int)) <;> rfl
end Go.Proofs.YtgihginfegckcaaGreatDoor
/- Parse. -/
namespace Go.Proofs.YtgihginfegckcaaGreatDoor
open Go.RowKit

/-- The reference that a text is; else why it is none. -/
def parseR (l : List UInt8) : Rf × Int :=
  if readOk l then (match foundR (bs (sheetC l).1) (placeP (sheetC l).2.1) with
    | some r => (r, 0)
    | none => (Rf.zero, 41)) else (Rf.zero, 40)
set_option maxRecDepth 100000 in
set_option maxHeartbeats 2000000 in
theorem parse_syntax (l : List UInt8) (hl : l.length ≤ 140737488351232) (h : readOk l = false) (w : World) :
    Calls Tryz.prog 31 #[.string (bs l)] w fun e w' => e = .returned (.tuple #[Rf.zero.v, .int .i64 40]) ∧ Below w.heap.size w w' := by
  have HR : ∀ W, Hid _ := fun W => read_any l hl W
  rw [h] at HR
  generalize placeP (sheetC l).2.1 = p at HR
  generalize (sheetC l).1 = A at HR
  obtain ⟨L, D, R, ac, ar⟩ := p
  unfold wrV at HR
  unfold Rf.zero Rf.v
  simp only at HR ⊢
  clear hl h
  go_enter Tryz.func31, Tryz.ntmps31
  go_wp2_with fail
  refine Calls.mono (HR _).out ?_
  rintro _ w1 ⟨rfl, b1⟩
  obtain ⟨hZ, hB⟩ := one_row w w1 _ _ b1
  clear b1 HR
  have hlt := hZ.lt
  obtain ⟨e0, e1, e2, e3, e4⟩ := hZ.five
  have z2 := hZ.frozen
  go_wp2
  refine bodyPost_ret (ret_two rfl (g := w.heap.size) rfl rfl (load23 ((Row.set5 hZ _ _ _ _ _).alloc _) rfl)) rfl ⟨rfl, ?_⟩
  exact below_allocS (below_set5 hB (Nat.le_refl _) _ _ _ _ _) _
set_option maxRecDepth 100000 in
set_option maxHeartbeats 2000000 in
theorem parse_read (l : List UInt8) (hl : l.length ≤ 140737488351232) (h : readOk l = true) (x : Rf) (f : Bool) (hx : ((foundR (bs (sheetC l).1) (placeP (sheetC l).2.1)).getD Rf.zero) = x) (hf : (foundR (bs (sheetC l).1) (placeP (sheetC l).2.1)).isSome = f) (w : World) :
    Calls Tryz.prog 31 #[.string (bs l)] w fun e w' => e = .returned (.tuple #[if f then x.v else Rf.zero.v, .int .i64 (if f then 0 else 41)]) ∧ Below w.heap.size w w' := by
  have HR : ∀ W, Hid _ := fun W => read_any l hl W
  have hok : (placeP (sheetC l).2.1).ok = true := by
    unfold readOk at h
    rw [Bool.and_eq_true] at h
    exact h.2
  have HF : ∀ W, Hid _ := fun W => found_any (bs (sheetC l).1) (sheetC l).2.1 hok W
  rw [hx, hf] at HF
  rw [h] at HR
  clear hx hf hok h hl
  generalize placeP (sheetC l).2.1 = p at HR HF
  generalize (sheetC l).1 = A at HR HF
  obtain ⟨L, D, R, ac, ar⟩ := p
  obtain ⟨s, c, r, bc, br⟩ := x
  unfold wrV at HR HF
  unfold Rf.zero Rf.v at *
  simp only at HR HF ⊢
  go_enter Tryz.func31, Tryz.ntmps31
  go_wp2_with fail
  refine Calls.mono (HR _).out ?_
  rintro _ w1 ⟨rfl, b1⟩
  obtain ⟨hZ0, hB0⟩ := one_row w w1 _ _ b1
  have hlt := hZ0.lt
  clear b1 HR
  go_wp2_with fail
  refine Calls.mono (HF _).out ?_
  rintro _ w2 ⟨rfl, b2⟩
  have hZ := (hZ0.alloc (.cells #[.string (bs A), .string (bs L), .string (bs D), .bool ac, .bool ar] 86)).below b2 (by simp; omega)
  have hB := (below_allocS hB0 (.cells #[.string (bs A), .string (bs L), .string (bs D), .bool ac, .bool ar] 86)).trans (b2.mono (below_allocS hB0 _).size)
  clear b2 HF hZ0 hB0
  have hlt := hZ.lt
  obtain ⟨e0, e1, e2, e3, e4⟩ := hZ.five
  have z2 := hZ.frozen
  cases f
  · go_wp2
    refine bodyPost_ret (ret_two rfl (g := w.heap.size) rfl rfl (load23 ((Row.set5 hZ _ _ _ _ _).alloc _) rfl)) rfl ⟨rfl, ?_⟩
    exact below_allocS (below_set5 hB (Nat.le_refl _) _ _ _ _ _) _
  · go_wp2
    refine bodyPost_ret (ret_two rfl (g := w.heap.size) rfl rfl (load23 ((Row.set5 hZ _ _ _ _ _).alloc _) rfl)) rfl ⟨rfl, ?_⟩
    exact below_allocS (below_set5 hB (Nat.le_refl _) _ _ _ _ _) _
theorem parse_any (l : List UInt8) (hl : l.length ≤ 140737488351232) (w : World) :
    Calls Tryz.prog 31 #[.string (bs l)] w fun e w' => e = .returned (.tuple #[(parseR l).1.v, .int .i64 (parseR l).2]) ∧ Below w.heap.size w w' := by
  cases h : readOk l
  · have e : parseR l = (Rf.zero, 40) := by unfold parseR; rw [h]; rfl
    rw [e]
    exact parse_syntax l hl h w
  · cases hf : foundR (bs (sheetC l).1) (placeP (sheetC l).2.1) with
    | none =>
      have e : parseR l = (Rf.zero, 41) := by unfold parseR; rw [h, hf]; rfl
      rw [e]
      exact parse_read l hl h Rf.zero false (by rw [hf]; rfl) (by rw [hf]; rfl) w
    | some r =>
      have e : parseR l = (r, 0) := by unfold parseR; rw [h, hf]; rfl
      rw [e]
      exact parse_read l hl h r true (by rw [hf]; rfl) (by rw [hf]; rfl) w
end Go.Proofs.YtgihginfegckcaaGreatDoor
