import Derived.Test.YtnhflnpjepiceaaGreatDoorDpaM
import Derived.Test.YtnhflnpjepiceaaGreatDoorWfu
import Derived.Test.YtnhflnpjepiceaaGreatDoorWprM
import Derived.Test.YtnhflnpjepiceaaGreatDoorWdgM
import Derived.Test.YtnhflnpjepiceaaGreatDoorPtn
import Derived.Test.YtnhflnpjepiceaaGreatDoorSh2
/- val: the errors' names: the table, ErrName, ErrCode. -/
namespace Go.Proofs.YtnhflnpjepiceaaGreatDoor
open Go.RowKit

def nm1 : ByteArray := ⟨#[35, 68, 73, 86, 47, 48, 33]⟩
theorem nl1 : nm1.toList = ([35, 68, 73, 86, 47, 48, 33] : List UInt8) := by rw [ByteArray.toList_eq]; rfl
def nm2 : ByteArray := ⟨#[35, 86, 65, 76, 85, 69, 33]⟩
theorem nl2 : nm2.toList = ([35, 86, 65, 76, 85, 69, 33] : List UInt8) := by rw [ByteArray.toList_eq]; rfl
def nm3 : ByteArray := ⟨#[35, 82, 69, 70, 33]⟩
theorem nl3 : nm3.toList = ([35, 82, 69, 70, 33] : List UInt8) := by rw [ByteArray.toList_eq]; rfl
def nm4 : ByteArray := ⟨#[35, 78, 65, 77, 69, 63]⟩
theorem nl4 : nm4.toList = ([35, 78, 65, 77, 69, 63] : List UInt8) := by rw [ByteArray.toList_eq]; rfl
def nm5 : ByteArray := ⟨#[35, 78, 85, 77, 33]⟩
theorem nl5 : nm5.toList = ([35, 78, 85, 77, 33] : List UInt8) := by rw [ByteArray.toList_eq]; rfl
def nm6 : ByteArray := ⟨#[35, 78, 47, 65]⟩
theorem nl6 : nm6.toList = ([35, 78, 47, 65] : List UInt8) := by rw [ByteArray.toList_eq]; rfl
def nm7 : ByteArray := ⟨#[35, 67, 89, 67, 76, 69, 33]⟩
theorem nl7 : nm7.toList = ([35, 67, 89, 67, 76, 69, 33] : List UInt8) := by rw [ByteArray.toList_eq]; rfl
/-- The table of names lies as it lay. -/
structure Names (w : World) : Prop where
  n0 : w.cell? ⟨0, 0, none⟩ = some (.string ⟨#[]⟩)
  n1 : w.cell? ⟨0, 1, none⟩ = some (.string ⟨#[35, 68, 73, 86, 47, 48, 33]⟩)
  n2 : w.cell? ⟨0, 2, none⟩ = some (.string ⟨#[35, 86, 65, 76, 85, 69, 33]⟩)
  n3 : w.cell? ⟨0, 3, none⟩ = some (.string ⟨#[35, 82, 69, 70, 33]⟩)
  n4 : w.cell? ⟨0, 4, none⟩ = some (.string ⟨#[35, 78, 65, 77, 69, 63]⟩)
  n5 : w.cell? ⟨0, 5, none⟩ = some (.string ⟨#[35, 78, 85, 77, 33]⟩)
  n6 : w.cell? ⟨0, 6, none⟩ = some (.string ⟨#[35, 78, 47, 65]⟩)
  n7 : w.cell? ⟨0, 7, none⟩ = some (.string ⟨#[35, 67, 89, 67, 76, 69, 33]⟩)
theorem cell_lt {w : World} {b o : Nat} {v : Value} (h : w.cell? ⟨b, o, none⟩ = some v) : b < w.heap.size := by
  by_cases hb : b < w.heap.size
  · exact hb
  · simp [World.cell?, Array.getElem?_eq_none (Nat.le_of_not_lt hb)] at h
theorem Names.below {w w' : World} {N : Nat} (h : Names w) (hN : 0 < N) (hB : Below N w w') : Names w' :=
  have hc : ∀ i, w'.cell? ⟨0, i, none⟩ = w.cell? ⟨0, i, none⟩ := fun _ => World.cell?_of_block (hB.block 0 hN)
  ⟨(hc 0).trans h.n0, (hc 1).trans h.n1, (hc 2).trans h.n2, (hc 3).trans h.n3, (hc 4).trans h.n4, (hc 5).trans h.n5, (hc 6).trans h.n6, (hc 7).trans h.n7⟩
/-- What the calls read of the package's variables. -/
structure Env (w : World) : Prop where
  tab : PTab w
  nam : Names w
theorem Env.next {w w' : World} (h : Env w) (hB : Below w.heap.size w w') : Env w' := ⟨h.tab.below hB, h.nam.below (cell_lt h.nam.n0) hB⟩
theorem Env.alloc {w : World} (h : Env w) (o : Obj) : Env (w.alloc o) := h.next ((Below.refl _ w).alloc (Nat.le_refl _) _)
def nameS (x : Int) : ByteArray := if x = 1 then nm1 else if x = 2 then nm2 else if x = 3 then nm3 else if x = 4 then nm4 else if x = 5 then nm5 else if x = 6 then nm6 else if x = 7 then nm7 else .empty
def codeN (s : ByteArray) : Int := if s = nm1 then 1 else if s = nm2 then 2 else if s = nm3 then 3 else if s = nm4 then 4 else if s = nm5 then 5 else if s = nm6 then 6 else if s = nm7 then 7 else 0
set_option maxRecDepth 100000 in
set_option maxHeartbeats 1200000 in
theorem errName_any (x : Int) (w : World) (hN : Names w) : Calls Tryz.prog 29 #[.int .i64 x] w fun r w' => r = .returned (.string (nameS x)) ∧ w' = w := by
  obtain ⟨n0, n1, n2, n3, n4, n5, n6, n7⟩ := hN
  by_cases h : codeB x = true
  · have h' : 1 ≤ x ∧ x ≤ 7 := of_decide_eq_true h
    obtain h1 | h1 | h1 | h1 | h1 | h1 | h1 : x = 1 ∨ x = 2 ∨ x = 3 ∨ x = 4 ∨ x = 5 ∨ x = 6 ∨ x = 7 := by omega
    all_goals
      subst h1
      clear h'
      go_enter Tryz.func29, Tryz.ntmps29
      go_wp2_with (go_at_call 45; refine (isCode_any _ _).mono ?_; rintro _ w10 ⟨rfl, hw10⟩; rw [hw10, h]; clear hw10 w10)
      go_ret
      exact ⟨rfl, rfl⟩
  · have h2 : codeB x = false := by simpa using h
    have hx : nameS x = .empty := by
      have : ¬ (1 ≤ x ∧ x ≤ 7) := of_decide_eq_false h2
      unfold nameS
      repeat rw [if_neg (by omega)]
    rw [hx]
    clear hx h
    go_enter Tryz.func29, Tryz.ntmps29
    go_wp2_with (go_at_call 45; refine (isCode_any _ _).mono ?_; rintro _ w10 ⟨rfl, hw10⟩; rw [hw10, h2]; clear hw10 w10)
    go_ret
    exact ⟨rfl, rfl⟩
theorem code_no (s : ByteArray) (h : ∀ j : Nat, 1 ≤ j → (j : Int) < 8 → s ≠ nameS j) : codeN s = 0 := by
  unfold codeN
  rw [if_neg (show s ≠ nm1 from h 1 (by decide) (by decide))]
  rw [if_neg (show s ≠ nm2 from h 2 (by decide) (by decide))]
  rw [if_neg (show s ≠ nm3 from h 3 (by decide) (by decide))]
  rw [if_neg (show s ≠ nm4 from h 4 (by decide) (by decide))]
  rw [if_neg (show s ≠ nm5 from h 5 (by decide) (by decide))]
  rw [if_neg (show s ≠ nm6 from h 6 (by decide) (by decide))]
  rw [if_neg (show s ≠ nm7 from h 7 (by decide) (by decide))]
theorem code_is (k : Nat) (s : ByteArray) (h1 : 1 ≤ k) (h7 : k ≤ 7) (hs : s = nameS k) (h : ∀ j : Nat, 1 ≤ j → (j : Int) < k → s ≠ nameS j) : codeN s = k := by
  unfold codeN
  obtain e | e | e | e | e | e | e : k = 1 ∨ k = 2 ∨ k = 3 ∨ k = 4 ∨ k = 5 ∨ k = 6 ∨ k = 7 := by omega
  · subst e
    exact if_pos hs
  · subst e
    rw [if_neg (show s ≠ nm1 from h 1 (by decide) (by decide))]
    exact if_pos hs
  · subst e
    rw [if_neg (show s ≠ nm1 from h 1 (by decide) (by decide))]
    rw [if_neg (show s ≠ nm2 from h 2 (by decide) (by decide))]
    exact if_pos hs
  · subst e
    rw [if_neg (show s ≠ nm1 from h 1 (by decide) (by decide))]
    rw [if_neg (show s ≠ nm2 from h 2 (by decide) (by decide))]
    rw [if_neg (show s ≠ nm3 from h 3 (by decide) (by decide))]
    exact if_pos hs
  · subst e
    rw [if_neg (show s ≠ nm1 from h 1 (by decide) (by decide))]
    rw [if_neg (show s ≠ nm2 from h 2 (by decide) (by decide))]
    rw [if_neg (show s ≠ nm3 from h 3 (by decide) (by decide))]
    rw [if_neg (show s ≠ nm4 from h 4 (by decide) (by decide))]
    exact if_pos hs
  · subst e
    rw [if_neg (show s ≠ nm1 from h 1 (by decide) (by decide))]
    rw [if_neg (show s ≠ nm2 from h 2 (by decide) (by decide))]
    rw [if_neg (show s ≠ nm3 from h 3 (by decide) (by decide))]
    rw [if_neg (show s ≠ nm4 from h 4 (by decide) (by decide))]
    rw [if_neg (show s ≠ nm5 from h 5 (by decide) (by decide))]
    exact if_pos hs
  · subst e
    rw [if_neg (show s ≠ nm1 from h 1 (by decide) (by decide))]
    rw [if_neg (show s ≠ nm2 from h 2 (by decide) (by decide))]
    rw [if_neg (show s ≠ nm3 from h 3 (by decide) (by decide))]
    rw [if_neg (show s ≠ nm4 from h 4 (by decide) (by decide))]
    rw [if_neg (show s ≠ nm5 from h 5 (by decide) (by decide))]
    rw [if_neg (show s ≠ nm6 from h 6 (by decide) (by decide))]
    exact if_pos hs
theorem toList_ne' {a b : ByteArray} (h : a ≠ b) : (a.toList == b.toList) = false := by
  rw [beq_eq_false_iff_ne]
  exact fun e => h ((toList_iff _ _).1 e)
set_option maxRecDepth 100000 in
set_option maxHeartbeats 4000000 in
theorem errCode_any (s : ByteArray) (w : World) (hN : Names w) : Calls Tryz.prog 20 #[.string s] w fun r w' => r = .returned (.tuple #[.int .i64 (codeN s), .bool (decide (codeN s ≠ 0))]) ∧ w' = w := by
  obtain ⟨n0, n1, n2, n3, n4, n5, n6, n7⟩ := hN
  have HPast : Hid (∀ j : Nat, 1 ≤ j → (j : Int) < 1 → s ≠ nameS j) := fun j h1 h2 => absurd h2 (by omega)
  go_enter Tryz.func20, Tryz.ntmps20
  go_wp2_with fail
  go_loopw [4] (fun v4 wr => ∃ k : Int, v4 = .int .i64 k ∧ wr = w ∧ 1 ≤ k ∧ k ≤ 8 ∧ Hid (∀ j : Nat, 1 ≤ j → (j : Int) < k → s ≠ nameS j)) (fun v4 _ => (8 - intOf v4).toNat)
  case atStart => exact ⟨1, rfl, rfl, by omega, by omega, HPast⟩
  case round =>
    clear HPast
    obtain ⟨k, rfl, rfl, hk1, hk8, HP⟩ := hrel
    obtain h1 | h1 | h1 | h1 | h1 | h1 | h1 | h1 : k = 1 ∨ k = 2 ∨ k = 3 ∨ k = 4 ∨ k = 5 ∨ k = 6 ∨ k = 7 ∨ k = 8 := by omega
    · subst h1
      clear hk1 hk8
      by_cases hs : s = nm1
      · have hE : s.toList = ([35, 68, 73, 86, 47, 48, 33] : List UInt8) := by rw [hs, nl1]
        have HC : Hid (codeN s = 1) := code_is 1 s (by omega) (by omega) hs HP.out
        clear HP hs
        go_wp2
        go_ret2
        exact ⟨by rw [HC.out]; rfl, rfl⟩
      · have hE : (([35, 68, 73, 86, 47, 48, 33] : List UInt8) == s.toList) = false := by rw [← nl1]; exact toList_ne' (fun e => hs e.symm)
        have HP2 : Hid (∀ j : Nat, 1 ≤ j → (j : Int) < 2 → s ≠ nameS j) := fun j h1 h2 => by
          by_cases hj : (j : Int) = 1
          · rw [hj]; exact hs
          · exact HP.out j h1 (by omega)
        clear HP hs
        go_wp2
        exact ⟨⟨2, rfl, trivial, by omega, by omega, HP2⟩, by simp [intOf]⟩
    · subst h1
      clear hk1 hk8
      by_cases hs : s = nm2
      · have hE : s.toList = ([35, 86, 65, 76, 85, 69, 33] : List UInt8) := by rw [hs, nl2]
        have HC : Hid (codeN s = 2) := code_is 2 s (by omega) (by omega) hs HP.out
        clear HP hs
        go_wp2
        go_ret2
        exact ⟨by rw [HC.out]; rfl, rfl⟩
      · have hE : (([35, 86, 65, 76, 85, 69, 33] : List UInt8) == s.toList) = false := by rw [← nl2]; exact toList_ne' (fun e => hs e.symm)
        have HP2 : Hid (∀ j : Nat, 1 ≤ j → (j : Int) < 3 → s ≠ nameS j) := fun j h1 h2 => by
          by_cases hj : (j : Int) = 2
          · rw [hj]; exact hs
          · exact HP.out j h1 (by omega)
        clear HP hs
        go_wp2
        exact ⟨⟨3, rfl, trivial, by omega, by omega, HP2⟩, by simp [intOf]⟩
    · subst h1
      clear hk1 hk8
      by_cases hs : s = nm3
      · have hE : s.toList = ([35, 82, 69, 70, 33] : List UInt8) := by rw [hs, nl3]
        have HC : Hid (codeN s = 3) := code_is 3 s (by omega) (by omega) hs HP.out
        clear HP hs
        go_wp2
        go_ret2
        exact ⟨by rw [HC.out]; rfl, rfl⟩
      · have hE : (([35, 82, 69, 70, 33] : List UInt8) == s.toList) = false := by rw [← nl3]; exact toList_ne' (fun e => hs e.symm)
        have HP2 : Hid (∀ j : Nat, 1 ≤ j → (j : Int) < 4 → s ≠ nameS j) := fun j h1 h2 => by
          by_cases hj : (j : Int) = 3
          · rw [hj]; exact hs
          · exact HP.out j h1 (by omega)
        clear HP hs
        go_wp2
        exact ⟨⟨4, rfl, trivial, by omega, by omega, HP2⟩, by simp [intOf]⟩
    · subst h1
      clear hk1 hk8
      by_cases hs : s = nm4
      · have hE : s.toList = ([35, 78, 65, 77, 69, 63] : List UInt8) := by rw [hs, nl4]
        have HC : Hid (codeN s = 4) := code_is 4 s (by omega) (by omega) hs HP.out
        clear HP hs
        go_wp2
        go_ret2
        exact ⟨by rw [HC.out]; rfl, rfl⟩
      · have hE : (([35, 78, 65, 77, 69, 63] : List UInt8) == s.toList) = false := by rw [← nl4]; exact toList_ne' (fun e => hs e.symm)
        have HP2 : Hid (∀ j : Nat, 1 ≤ j → (j : Int) < 5 → s ≠ nameS j) := fun j h1 h2 => by
          by_cases hj : (j : Int) = 4
          · rw [hj]; exact hs
          · exact HP.out j h1 (by omega)
        clear HP hs
        go_wp2
        exact ⟨⟨5, rfl, trivial, by omega, by omega, HP2⟩, by simp [intOf]⟩
    · subst h1
      clear hk1 hk8
      by_cases hs : s = nm5
      · have hE : s.toList = ([35, 78, 85, 77, 33] : List UInt8) := by rw [hs, nl5]
        have HC : Hid (codeN s = 5) := code_is 5 s (by omega) (by omega) hs HP.out
        clear HP hs
        go_wp2
        go_ret2
        exact ⟨by rw [HC.out]; rfl, rfl⟩
      · have hE : (([35, 78, 85, 77, 33] : List UInt8) == s.toList) = false := by rw [← nl5]; exact toList_ne' (fun e => hs e.symm)
        have HP2 : Hid (∀ j : Nat, 1 ≤ j → (j : Int) < 6 → s ≠ nameS j) := fun j h1 h2 => by
          by_cases hj : (j : Int) = 5
          · rw [hj]; exact hs
          · exact HP.out j h1 (by omega)
        clear HP hs
        go_wp2
        exact ⟨⟨6, rfl, trivial, by omega, by omega, HP2⟩, by simp [intOf]⟩
    · subst h1
      clear hk1 hk8
      by_cases hs : s = nm6
      · have hE : s.toList = ([35, 78, 47, 65] : List UInt8) := by rw [hs, nl6]
        have HC : Hid (codeN s = 6) := code_is 6 s (by omega) (by omega) hs HP.out
        clear HP hs
        go_wp2
        go_ret2
        exact ⟨by rw [HC.out]; rfl, rfl⟩
      · have hE : (([35, 78, 47, 65] : List UInt8) == s.toList) = false := by rw [← nl6]; exact toList_ne' (fun e => hs e.symm)
        have HP2 : Hid (∀ j : Nat, 1 ≤ j → (j : Int) < 7 → s ≠ nameS j) := fun j h1 h2 => by
          by_cases hj : (j : Int) = 6
          · rw [hj]; exact hs
          · exact HP.out j h1 (by omega)
        clear HP hs
        go_wp2
        exact ⟨⟨7, rfl, trivial, by omega, by omega, HP2⟩, by simp [intOf]⟩
    · subst h1
      clear hk1 hk8
      by_cases hs : s = nm7
      · have hE : s.toList = ([35, 67, 89, 67, 76, 69, 33] : List UInt8) := by rw [hs, nl7]
        have HC : Hid (codeN s = 7) := code_is 7 s (by omega) (by omega) hs HP.out
        clear HP hs
        go_wp2
        go_ret2
        exact ⟨by rw [HC.out]; rfl, rfl⟩
      · have hE : (([35, 67, 89, 67, 76, 69, 33] : List UInt8) == s.toList) = false := by rw [← nl7]; exact toList_ne' (fun e => hs e.symm)
        have HP2 : Hid (∀ j : Nat, 1 ≤ j → (j : Int) < 8 → s ≠ nameS j) := fun j h1 h2 => by
          by_cases hj : (j : Int) = 7
          · rw [hj]; exact hs
          · exact HP.out j h1 (by omega)
        clear HP hs
        go_wp2
        exact ⟨⟨8, rfl, trivial, by omega, by omega, HP2⟩, by simp [intOf]⟩
    · subst h1
      have HC : Hid (codeN s = 0) := code_no s HP.out
      clear HP hk1 hk8
      go_wp2
      go_ret2
      exact ⟨by rw [HC.out]; rfl, rfl⟩
end Go.Proofs.YtnhflnpjepiceaaGreatDoor
/- val: Num, Text, Bool, Show of any value. -/
namespace Go.Proofs.YtnhflnpjepiceaaGreatDoor
open Go.RowKit

theorem right_cases {v : Vl} (h : rightV v = true) : v = vE ∨ (∃ c e, v = vN c e ∧ rightB c e = true) ∨ (∃ s, v = vT s ∧ textB s = true) ∨ (∃ b, v = vB b) ∨ (∃ x, v = vX x ∧ codeB x = true) := by
  unfold rightV at h
  split at h
  · exact .inl ((Vl.eqB_iff _ _).1 h)
  · split at h
    · obtain ⟨h1, h2⟩ := (Bool.and_eq_true_iff).1 h
      exact .inr (.inl ⟨_, _, (Vl.eqB_iff _ _).1 h2, h1⟩)
    · split at h
      · obtain ⟨h1, h2⟩ := (Bool.and_eq_true_iff).1 h
        exact .inr (.inr (.inl ⟨_, (Vl.eqB_iff _ _).1 h2, h1⟩))
      · split at h
        · exact .inr (.inr (.inr (.inl ⟨_, (Vl.eqB_iff _ _).1 h⟩)))
        · split at h
          · obtain ⟨h1, h2⟩ := (Bool.and_eq_true_iff).1 h
            exact .inr (.inr (.inr (.inr ⟨_, (Vl.eqB_iff _ _).1 h2, h1⟩)))
          · cases h
theorem right_x2 : rightV (vX 2) = true := by simp [rightV, vX, Vl.eqB, codeB]
theorem clean_right (v : Vl) : rightV (cleanV v) = true := by
  unfold cleanV
  cases h : rightV v with
  | true => exact h
  | false => exact right_x2
theorem clean_of {v : Vl} (h : rightV v = true) : cleanV v = v := by unfold cleanV; rw [h]; rfl
/-- What is taken, by its kind. -/
theorem clean_cases (v : Vl) : cleanV v = vE ∨ (∃ c e, cleanV v = vN c e ∧ rightB c e = true) ∨ (∃ s, cleanV v = vT s ∧ textB s = true) ∨ (∃ b, cleanV v = vB b) ∨ (∃ x, cleanV v = vX x ∧ codeB x = true) := right_cases (clean_right v)
theorem vE_v : vE.v = .agg #[.int .i64 0, .int .i64 0, .int .i64 0, .string .empty, .bool false, .int .i64 0] := rfl
theorem vN_v (c e : Int) : (vN c e).v = .agg #[.int .i64 1, .int .i64 c, .int .i64 e, .string .empty, .bool false, .int .i64 0] := rfl
theorem vT_v (s : ByteArray) : (vT s).v = .agg #[.int .i64 2, .int .i64 0, .int .i64 0, .string s, .bool false, .int .i64 0] := rfl
theorem vB_v (b : Bool) : (vB b).v = .agg #[.int .i64 3, .int .i64 0, .int .i64 0, .string .empty, .bool b, .int .i64 0] := rfl
theorem vX_v (x : Int) : (vX x).v = .agg #[.int .i64 4, .int .i64 0, .int .i64 0, .string .empty, .bool false, .int .i64 x] := rfl
theorem Vl.v_form (v : Vl) : ∃ k c e s b x, v.v = .agg #[.int .i64 k, .int .i64 c, .int .i64 e, .string s, .bool b, .int .i64 x] := ⟨_, _, _, _, _, _, rfl⟩
theorem text_size {s : ByteArray} (h : textB s = true) : s.size ≤ 255 := of_decide_eq_true ((Bool.and_eq_true_iff).1 h).1
theorem right_within {c e : Int} (h : rightB c e = true) : within e := by
  unfold rightB at h
  unfold within
  split at h
  · have := of_decide_eq_true h; omega
  · simp at h; omega
/-- A value as a number. -/
def numK (v : Vl) : Vl := if v.k = 0 then vN 0 0 else if v.k = 2 then numT v.s else if v.k = 3 then (if v.b then vN 1 0 else vN 0 0) else v
def numV (v : Vl) : Vl := numK (cleanV v)
def textK (v : Vl) : Vl := if v.k = 0 then vT .empty else if v.k = 1 then vT (printS v.c v.e) else if v.k = 3 then vT (wordS v.b) else v
def textV (v : Vl) : Vl := textK (cleanV v)
def upS (s : ByteArray) : ByteArray := strOfNums (upto (turnAt s 97 224) s.size)
def loS (s : ByteArray) : ByteArray := strOfNums (upto (turnAt s 65 32) s.size)
def boolK (v : Vl) : Vl := if v.k = 0 then vB false else if v.k = 1 then vB (!decide (v.c = 0)) else if v.k = 2 then (if upS v.s = wordS true then vB true else if upS v.s = wordS false then vB false else vX 2) else v
def boolV (v : Vl) : Vl := boolK (cleanV v)
def showV (v : Vl) : ByteArray := if (cleanV v).k = 4 then nameS (cleanV v).x else (textV v).s
theorem of_zero : ofW 0 0 0 = vN 0 0 := by simp [ofW, rightB]
theorem of_one : ofW 1 0 0 = vN 1 0 := by simp [ofW, rightB]
theorem toList_ne2 {s : ByteArray} {l : List UInt8} (h : s ≠ ⟨l.toArray⟩) : (s.toList == l) = false := by
  rw [beq_eq_false_iff_ne]
  intro e
  apply h
  rw [ByteArray.toList_eq] at e
  exact ByteArray.ext (Array.toList_inj.1 (by rw [e]))
set_option maxRecDepth 100000 in
set_option maxHeartbeats 2000000 in
theorem vnum_any (v : Vl) (hc : I64 v.c) (w : World) : Calls Tryz.prog 11 #[v.v] w fun r w' => r = .returned (numV v).v ∧ Below w.heap.size w w' := by
  have HT : ∀ V, Hid (Calls Tryz.prog 48 #[v.v] V fun r w' => r = .returned (cleanV v).v ∧ Below V.heap.size V w') := fun V => taken_any v hc V
  obtain ⟨u, hu⟩ : ∃ u, cleanV v = u := ⟨_, rfl⟩
  have hcs := clean_cases v
  unfold numV
  rw [hu] at HT hcs ⊢
  have hhc := hc
  clear hu hc
  obtain ⟨k, c, e, s, b, x, hv⟩ := v.v_form
  rw [hv] at HT ⊢
  clear hv
  have h0 := PR.start w #[.int .i64 k, .int .i64 c, .int .i64 e, .string s, .bool b, .int .i64 x] #[.int .i64 0, .int .i64 0, .int .i64 0, .string .empty, .bool false, .int .i64 0]
  rcases hcs with rfl | ⟨c', e', rfl, hr⟩ | ⟨s', rfl, hr⟩ | ⟨b', rfl⟩ | ⟨x', rfl, hr⟩
  · rw [vE_v] at HT
    go_enter Tryz.func11, Tryz.ntmps11
    go_wp2_with fail
    refine Calls.mono (HT _).out ?_
    rintro _ w1 ⟨rfl, b1⟩
    have h1 := h0.next b1
    obtain ⟨m0, m1, m2, m3, m4, m5⟩ := h1.1.six
    have mf := h1.1.frozen
    have ml := h1.1.lt
    have h2 := h1.setP (.int .i64 0) (.int .i64 0) (.int .i64 0) (.string .empty) (.bool false) (.int .i64 0)
    obtain ⟨n0, n1, n2, n3, n4, n5⟩ := h2.1.six
    obtain ⟨y0, y1, y2, y3, y4, y5⟩ := h2.2.1.six
    have zf := h2.2.1.frozen
    have wl := h2.2.1.lt
    clear h0 b1 HT h1
    go_wp2_with fail
    refine Calls.mono (of_val 0 0 0 ⟨by decide, by decide⟩ _) ?_
    rintro _ w2 ⟨rfl, b2⟩
    rw [of_zero, vN_v]
    have h3 := h2.next b2
    obtain ⟨p0, p1, p2, p3, p4, p5⟩ := h3.2.1.six
    have qf := h3.2.1.frozen
    have ql := h3.2.1.lt
    clear b2 n0 n1 n2 n3 n4 n5 y0 y1 y2 y3 y4 y5 zf wl
    go_wp2
    exact bodyPost_ret (ret_one rfl (g := w.heap.size + 1) rfl ((h3.setR _ _ _ _ _ _).res rfl)) rfl ⟨rfl, (h3.setR _ _ _ _ _ _).2.2⟩
  · rw [vN_v] at HT
    go_enter Tryz.func11, Tryz.ntmps11
    go_wp2_with fail
    refine Calls.mono (HT _).out ?_
    rintro _ w1 ⟨rfl, b1⟩
    have h1 := h0.next b1
    obtain ⟨m0, m1, m2, m3, m4, m5⟩ := h1.1.six
    have mf := h1.1.frozen
    have ml := h1.1.lt
    have h2 := h1.setP (.int .i64 1) (.int .i64 c') (.int .i64 e') (.string .empty) (.bool false) (.int .i64 0)
    obtain ⟨n0, n1, n2, n3, n4, n5⟩ := h2.1.six
    obtain ⟨y0, y1, y2, y3, y4, y5⟩ := h2.2.1.six
    have zf := h2.2.1.frozen
    have wl := h2.2.1.lt
    clear h0 b1 HT h1
    go_wp2
    exact bodyPost_ret (ret_one rfl (g := w.heap.size + 1) rfl ((h2.setR _ _ _ _ _ _).res rfl)) rfl ⟨rfl, (h2.setR _ _ _ _ _ _).2.2⟩
  · rw [vT_v] at HT
    have hs2 := text_size hr
    have HN : ∀ V, Hid (Calls Tryz.prog 49 #[.string s'] V fun r w' => r = .returned (numT s').v ∧ Below V.heap.size V w') := fun V => numberOf_any s' hs2 V
    obtain ⟨k2, c2, e2, s2, b2', x2, hn⟩ := (numT s').v_form
    clear hr hs2
    go_enter Tryz.func11, Tryz.ntmps11
    go_wp2_with fail
    refine Calls.mono (HT _).out ?_
    rintro _ w1 ⟨rfl, b1⟩
    have h1 := h0.next b1
    obtain ⟨m0, m1, m2, m3, m4, m5⟩ := h1.1.six
    have mf := h1.1.frozen
    have ml := h1.1.lt
    have h2 := h1.setP (.int .i64 2) (.int .i64 0) (.int .i64 0) (.string s') (.bool false) (.int .i64 0)
    obtain ⟨n0, n1, n2, n3, n4, n5⟩ := h2.1.six
    obtain ⟨y0, y1, y2, y3, y4, y5⟩ := h2.2.1.six
    have zf := h2.2.1.frozen
    have wl := h2.2.1.lt
    clear h0 b1 HT h1
    go_wp2_with fail
    refine Calls.mono (HN _).out ?_
    rintro _ w2 ⟨rfl, b2⟩
    rw [hn]
    have h3 := h2.next b2
    obtain ⟨p0, p1, p2, p3, p4, p5⟩ := h3.2.1.six
    have qf := h3.2.1.frozen
    have ql := h3.2.1.lt
    clear b2 n0 n1 n2 n3 n4 n5 y0 y1 y2 y3 y4 y5 zf wl
    go_wp2
    exact bodyPost_ret (ret_one rfl (g := w.heap.size + 1) rfl ((h3.setR _ _ _ _ _ _).res rfl)) rfl ⟨by first | rfl | exact congrArg _ hn.symm, (h3.setR _ _ _ _ _ _).2.2⟩
  · rw [vB_v] at HT
    cases b'
    · go_enter Tryz.func11, Tryz.ntmps11
      go_wp2_with fail
      refine Calls.mono (HT _).out ?_
      rintro _ w1 ⟨rfl, b1⟩
      have h1 := h0.next b1
      obtain ⟨m0, m1, m2, m3, m4, m5⟩ := h1.1.six
      have mf := h1.1.frozen
      have ml := h1.1.lt
      have h2 := h1.setP (.int .i64 3) (.int .i64 0) (.int .i64 0) (.string .empty) (.bool false) (.int .i64 0)
      obtain ⟨n0, n1, n2, n3, n4, n5⟩ := h2.1.six
      obtain ⟨y0, y1, y2, y3, y4, y5⟩ := h2.2.1.six
      have zf := h2.2.1.frozen
      have wl := h2.2.1.lt
      clear h0 b1 HT h1
      go_wp2_with fail
      refine Calls.mono (of_val 0 0 0 ⟨by decide, by decide⟩ _) ?_
      rintro _ w2 ⟨rfl, b2⟩
      rw [of_zero, vN_v]
      have h3 := h2.next b2
      obtain ⟨p0, p1, p2, p3, p4, p5⟩ := h3.2.1.six
      have qf := h3.2.1.frozen
      have ql := h3.2.1.lt
      clear b2 n0 n1 n2 n3 n4 n5 y0 y1 y2 y3 y4 y5 zf wl
      go_wp2
      exact bodyPost_ret (ret_one rfl (g := w.heap.size + 1) rfl ((h3.setR _ _ _ _ _ _).res rfl)) rfl ⟨rfl, (h3.setR _ _ _ _ _ _).2.2⟩
    · go_enter Tryz.func11, Tryz.ntmps11
      go_wp2_with fail
      refine Calls.mono (HT _).out ?_
      rintro _ w1 ⟨rfl, b1⟩
      have h1 := h0.next b1
      obtain ⟨m0, m1, m2, m3, m4, m5⟩ := h1.1.six
      have mf := h1.1.frozen
      have ml := h1.1.lt
      have h2 := h1.setP (.int .i64 3) (.int .i64 0) (.int .i64 0) (.string .empty) (.bool true) (.int .i64 0)
      obtain ⟨n0, n1, n2, n3, n4, n5⟩ := h2.1.six
      obtain ⟨y0, y1, y2, y3, y4, y5⟩ := h2.2.1.six
      have zf := h2.2.1.frozen
      have wl := h2.2.1.lt
      clear h0 b1 HT h1
      go_wp2_with fail
      refine Calls.mono (of_val 1 0 0 ⟨by decide, by decide⟩ _) ?_
      rintro _ w2 ⟨rfl, b2⟩
      rw [of_one, vN_v]
      have h3 := h2.next b2
      obtain ⟨p0, p1, p2, p3, p4, p5⟩ := h3.2.1.six
      have qf := h3.2.1.frozen
      have ql := h3.2.1.lt
      clear b2 n0 n1 n2 n3 n4 n5 y0 y1 y2 y3 y4 y5 zf wl
      go_wp2
      exact bodyPost_ret (ret_one rfl (g := w.heap.size + 1) rfl ((h3.setR _ _ _ _ _ _).res rfl)) rfl ⟨rfl, (h3.setR _ _ _ _ _ _).2.2⟩
  · rw [vX_v] at HT
    go_enter Tryz.func11, Tryz.ntmps11
    go_wp2_with fail
    refine Calls.mono (HT _).out ?_
    rintro _ w1 ⟨rfl, b1⟩
    have h1 := h0.next b1
    obtain ⟨m0, m1, m2, m3, m4, m5⟩ := h1.1.six
    have mf := h1.1.frozen
    have ml := h1.1.lt
    have h2 := h1.setP (.int .i64 4) (.int .i64 0) (.int .i64 0) (.string .empty) (.bool false) (.int .i64 x')
    obtain ⟨n0, n1, n2, n3, n4, n5⟩ := h2.1.six
    obtain ⟨y0, y1, y2, y3, y4, y5⟩ := h2.2.1.six
    have zf := h2.2.1.frozen
    have wl := h2.2.1.lt
    clear h0 b1 HT h1
    go_wp2
    exact bodyPost_ret (ret_one rfl (g := w.heap.size + 1) rfl ((h2.setR _ _ _ _ _ _).res rfl)) rfl ⟨rfl, (h2.setR _ _ _ _ _ _).2.2⟩
end Go.Proofs.YtnhflnpjepiceaaGreatDoor
/- val: Text, Bool, Show of any value. -/
namespace Go.Proofs.YtnhflnpjepiceaaGreatDoor
open Go.RowKit

set_option maxRecDepth 100000 in
set_option maxHeartbeats 2000000 in
theorem vtext_any (v : Vl) (hc : I64 v.c) (w : World) (hE : Env w) : Calls Tryz.prog 13 #[v.v] w fun r w' => r = .returned (textV v).v ∧ Below w.heap.size w w' := by
  have hcc : ∀ c' e', cleanV v = vN c' e' → I64 c' := fun c' e' h => by
    unfold cleanV at h
    split at h
    · rw [h] at hc; exact hc
    · cases h
  have HT : ∀ V, Hid (Calls Tryz.prog 48 #[v.v] V fun r w' => r = .returned (cleanV v).v ∧ Below V.heap.size V w') := fun V => taken_any v hc V
  obtain ⟨u, hu⟩ : ∃ u, cleanV v = u := ⟨_, rfl⟩
  have hcs := clean_cases v
  unfold textV
  rw [hu] at HT hcs hcc ⊢
  have hhc := hc
  clear hu hc
  obtain ⟨k, c, e, s, b, x, hv⟩ := v.v_form
  rw [hv] at HT ⊢
  clear hv
  have h0 := PR.start w #[.int .i64 k, .int .i64 c, .int .i64 e, .string s, .bool b, .int .i64 x] #[.int .i64 0, .int .i64 0, .int .i64 0, .string .empty, .bool false, .int .i64 0]
  rcases hcs with rfl | ⟨c', e', rfl, hr⟩ | ⟨s', rfl, hr⟩ | ⟨b', rfl⟩ | ⟨x', rfl, hr⟩
  · rw [vE_v] at HT
    clear hcc hhc hE
    go_enter Tryz.func13, Tryz.ntmps13
    go_wp2_with fail
    refine Calls.mono (HT _).out ?_
    rintro _ w1 ⟨rfl, b1⟩
    have h1 := h0.next b1
    obtain ⟨m0, m1, m2, m3, m4, m5⟩ := h1.1.six
    have mf := h1.1.frozen
    have ml := h1.1.lt
    have h2 := h1.setP (.int .i64 0) (.int .i64 0) (.int .i64 0) (.string .empty) (.bool false) (.int .i64 0)
    go_upto_region 2 with fail
    generalize ((((((w1.setCell ⟨w.heap.size, 0, none⟩ (.int .i64 0)).setCell ⟨w.heap.size, 1, none⟩ (.int .i64 0)).setCell ⟨w.heap.size, 2, none⟩ (.int .i64 0)).setCell ⟨w.heap.size, 3, none⟩ (.string .empty)).setCell ⟨w.heap.size, 4, none⟩ (.bool false)).setCell ⟨w.heap.size, 5, none⟩ (.int .i64 0)) = W at *
    clear h0 b1 HT h1 m0 m1 m2 m3 m4 m5 mf ml
    have t0 := Row.new W 25 #[.int .i64 2, .int .i64 0, .int .i64 0, .string ⟨#[]⟩, .bool false, .int .i64 0]
    have h3 := h2.next ((Below.refl _ W).alloc (Nat.le_refl _) (.cells #[.int .i64 2, .int .i64 0, .int .i64 0, .string ⟨#[]⟩, .bool false, .int .i64 0] 25))
    have hK : w.heap.size + 1 < W.heap.size := h2.2.1.lt
    have hA := (Below.refl _ W).alloc (Nat.le_refl _) (.cells #[.int .i64 2, .int .i64 0, .int .i64 0, .string ⟨#[]⟩, .bool false, .int .i64 0] 25)
    go_upto_region 3 with fail
    generalize W.alloc (.cells #[.int .i64 2, .int .i64 0, .int .i64 0, .string ⟨#[]⟩, .bool false, .int .i64 0] 25) = W2 at *
    obtain ⟨n0, n1, n2, n3, n4, n5⟩ := h3.1.six
    obtain ⟨y0, y1, y2, y3, y4, y5⟩ := h3.2.1.six
    obtain ⟨q0, q1, q2, q3, q4, q5⟩ := t0.six
    have zf := h3.2.1.frozen
    have wl := h3.2.1.lt
    go_wp2
    exact bodyPost_ret (ret_one rfl (g := w.heap.size + 1) rfl ((h3.setR _ _ _ _ _ _).res rfl)) rfl ⟨rfl, (h3.setR _ _ _ _ _ _).2.2⟩
  · rw [vN_v] at HT
    have HP : ∀ V, PTab V → Hid (Calls Tryz.prog 52 #[.agg #[.int .i64 c', .int .i64 e']] V fun r w' => r = .returned (.string (printS c' e')) ∧ Below V.heap.size V w') := fun V hV => print_any c' e' (hcc c' e' rfl) (right_within hr) V hV
    clear hcc hhc hr
    go_enter Tryz.func13, Tryz.ntmps13
    go_wp2_with fail
    refine Calls.mono (HT _).out ?_
    rintro _ w1 ⟨rfl, b1⟩
    have h1 := h0.next b1
    obtain ⟨m0, m1, m2, m3, m4, m5⟩ := h1.1.six
    have mf := h1.1.frozen
    have ml := h1.1.lt
    have h2 := h1.setP (.int .i64 1) (.int .i64 c') (.int .i64 e') (.string .empty) (.bool false) (.int .i64 0)
    go_upto_region 2 with fail
    generalize ((((((w1.setCell ⟨w.heap.size, 0, none⟩ (.int .i64 1)).setCell ⟨w.heap.size, 1, none⟩ (.int .i64 c')).setCell ⟨w.heap.size, 2, none⟩ (.int .i64 e')).setCell ⟨w.heap.size, 3, none⟩ (.string .empty)).setCell ⟨w.heap.size, 4, none⟩ (.bool false)).setCell ⟨w.heap.size, 5, none⟩ (.int .i64 0)) = W at *
    clear h0 b1 HT h1 m0 m1 m2 m3 m4 m5 mf ml
    have t0 := Row.new W 25 #[.int .i64 2, .int .i64 0, .int .i64 0, .string ⟨#[]⟩, .bool false, .int .i64 0]
    have h3 := h2.next ((Below.refl _ W).alloc (Nat.le_refl _) (.cells #[.int .i64 2, .int .i64 0, .int .i64 0, .string ⟨#[]⟩, .bool false, .int .i64 0] 25))
    have hK : w.heap.size + 1 < W.heap.size := h2.2.1.lt
    have hA := (Below.refl _ W).alloc (Nat.le_refl _) (.cells #[.int .i64 2, .int .i64 0, .int .i64 0, .string ⟨#[]⟩, .bool false, .int .i64 0] 25)
    go_upto_region 3 with fail
    generalize W.alloc (.cells #[.int .i64 2, .int .i64 0, .int .i64 0, .string ⟨#[]⟩, .bool false, .int .i64 0] 25) = W2 at *
    obtain ⟨n0, n1, n2, n3, n4, n5⟩ := h3.1.six
    have hT3 := (hE.next h3.2.2).tab
    clear hE
    go_wp2_with fail
    refine Calls.mono (HP _ hT3).out ?_
    rintro _ w2 ⟨rfl, b2⟩
    have t2 := t0.below b2 t0.lt
    have h4 := h3.next b2
    obtain ⟨z0, z1, z2, z3, z4, z5⟩ := t2.six
    have tf := t2.frozen
    have tl := t2.lt
    have t3 := t2.set 3 (.string (printS c' e'))
    have h5 : PR w (w2.setCell ⟨W.heap.size, 3, none⟩ (.string (printS c' e'))) _ _ := ⟨h4.1.off 3 _ (by omega), h4.2.1.off 3 _ (by omega), below_set h4.2.2 3 _ (by omega)⟩
    go_upto_region 11 with fail
    generalize w2.setCell ⟨W.heap.size, 3, none⟩ (.string (printS c' e')) = W3 at *
    obtain ⟨y0, y1, y2, y3, y4, y5⟩ := h5.2.1.six
    obtain ⟨q0, q1, q2, q3, q4, q5⟩ := Row.six (a := .int .i64 2) (b := .int .i64 0) (c := .int .i64 0) (d := .string (printS c' e')) (e := .bool false) (f := .int .i64 0) t3
    have zf := h5.2.1.frozen
    have wl := h5.2.1.lt
    clear HP hT3 b2 n0 n1 n2 n3 n4 n5 z0 z1 z2 z3 z4 z5 tf tl t2 h4 t0 h3 h2
    go_wp2
    exact bodyPost_ret (ret_one rfl (g := w.heap.size + 1) rfl ((h5.setR _ _ _ _ _ _).res rfl)) rfl ⟨rfl, (h5.setR _ _ _ _ _ _).2.2⟩
  · rw [vT_v] at HT
    clear hcc hhc hE hr
    go_enter Tryz.func13, Tryz.ntmps13
    go_wp2_with fail
    refine Calls.mono (HT _).out ?_
    rintro _ w1 ⟨rfl, b1⟩
    have h1 := h0.next b1
    obtain ⟨m0, m1, m2, m3, m4, m5⟩ := h1.1.six
    have mf := h1.1.frozen
    have ml := h1.1.lt
    have h2 := h1.setP (.int .i64 2) (.int .i64 0) (.int .i64 0) (.string s') (.bool false) (.int .i64 0)
    go_upto_region 2 with fail
    generalize ((((((w1.setCell ⟨w.heap.size, 0, none⟩ (.int .i64 2)).setCell ⟨w.heap.size, 1, none⟩ (.int .i64 0)).setCell ⟨w.heap.size, 2, none⟩ (.int .i64 0)).setCell ⟨w.heap.size, 3, none⟩ (.string s')).setCell ⟨w.heap.size, 4, none⟩ (.bool false)).setCell ⟨w.heap.size, 5, none⟩ (.int .i64 0)) = W at *
    clear h0 b1 HT h1 m0 m1 m2 m3 m4 m5 mf ml
    have t0 := Row.new W 25 #[.int .i64 2, .int .i64 0, .int .i64 0, .string ⟨#[]⟩, .bool false, .int .i64 0]
    have h3 := h2.next ((Below.refl _ W).alloc (Nat.le_refl _) (.cells #[.int .i64 2, .int .i64 0, .int .i64 0, .string ⟨#[]⟩, .bool false, .int .i64 0] 25))
    have hK : w.heap.size + 1 < W.heap.size := h2.2.1.lt
    have hA := (Below.refl _ W).alloc (Nat.le_refl _) (.cells #[.int .i64 2, .int .i64 0, .int .i64 0, .string ⟨#[]⟩, .bool false, .int .i64 0] 25)
    go_upto_region 3 with fail
    generalize W.alloc (.cells #[.int .i64 2, .int .i64 0, .int .i64 0, .string ⟨#[]⟩, .bool false, .int .i64 0] 25) = W2 at *
    obtain ⟨n0, n1, n2, n3, n4, n5⟩ := h3.1.six
    obtain ⟨y0, y1, y2, y3, y4, y5⟩ := h3.2.1.six
    have zf := h3.2.1.frozen
    have wl := h3.2.1.lt
    go_wp2
    exact bodyPost_ret (ret_one rfl (g := w.heap.size + 1) rfl ((h3.setR _ _ _ _ _ _).res rfl)) rfl ⟨rfl, (h3.setR _ _ _ _ _ _).2.2⟩
  · rw [vB_v] at HT
    clear hcc hhc hE
    have HP : ∀ V, Hid (Calls Tryz.prog 53 #[.bool b'] V fun r w' => r = .returned (.string (wordS b')) ∧ Below V.heap.size V w') := fun V => (word_any b' V).mono (fun r w h => ⟨h.1, by rw [h.2]; exact Below.refl _ _⟩)
    go_enter Tryz.func13, Tryz.ntmps13
    go_wp2_with fail
    refine Calls.mono (HT _).out ?_
    rintro _ w1 ⟨rfl, b1⟩
    have h1 := h0.next b1
    obtain ⟨m0, m1, m2, m3, m4, m5⟩ := h1.1.six
    have mf := h1.1.frozen
    have ml := h1.1.lt
    have h2 := h1.setP (.int .i64 3) (.int .i64 0) (.int .i64 0) (.string .empty) (.bool b') (.int .i64 0)
    go_upto_region 2 with fail
    generalize ((((((w1.setCell ⟨w.heap.size, 0, none⟩ (.int .i64 3)).setCell ⟨w.heap.size, 1, none⟩ (.int .i64 0)).setCell ⟨w.heap.size, 2, none⟩ (.int .i64 0)).setCell ⟨w.heap.size, 3, none⟩ (.string .empty)).setCell ⟨w.heap.size, 4, none⟩ (.bool b')).setCell ⟨w.heap.size, 5, none⟩ (.int .i64 0)) = W at *
    clear h0 b1 HT h1 m0 m1 m2 m3 m4 m5 mf ml
    have t0 := Row.new W 25 #[.int .i64 2, .int .i64 0, .int .i64 0, .string ⟨#[]⟩, .bool false, .int .i64 0]
    have h3 := h2.next ((Below.refl _ W).alloc (Nat.le_refl _) (.cells #[.int .i64 2, .int .i64 0, .int .i64 0, .string ⟨#[]⟩, .bool false, .int .i64 0] 25))
    have hK : w.heap.size + 1 < W.heap.size := h2.2.1.lt
    have hA := (Below.refl _ W).alloc (Nat.le_refl _) (.cells #[.int .i64 2, .int .i64 0, .int .i64 0, .string ⟨#[]⟩, .bool false, .int .i64 0] 25)
    go_upto_region 3 with fail
    generalize W.alloc (.cells #[.int .i64 2, .int .i64 0, .int .i64 0, .string ⟨#[]⟩, .bool false, .int .i64 0] 25) = W2 at *
    obtain ⟨n0, n1, n2, n3, n4, n5⟩ := h3.1.six
    go_wp2_with fail
    refine Calls.mono (HP _).out ?_
    rintro _ w2 ⟨rfl, b2⟩
    have t2 := t0.below b2 t0.lt
    have h4 := h3.next b2
    obtain ⟨z0, z1, z2, z3, z4, z5⟩ := t2.six
    have tf := t2.frozen
    have tl := t2.lt
    have t3 := t2.set 3 (.string (wordS b'))
    have h5 : PR w (w2.setCell ⟨W.heap.size, 3, none⟩ (.string (wordS b'))) _ _ := ⟨h4.1.off 3 _ (by omega), h4.2.1.off 3 _ (by omega), below_set h4.2.2 3 _ (by omega)⟩
    go_upto_region 11 with fail
    generalize w2.setCell ⟨W.heap.size, 3, none⟩ (.string (wordS b')) = W3 at *
    obtain ⟨y0, y1, y2, y3, y4, y5⟩ := h5.2.1.six
    obtain ⟨q0, q1, q2, q3, q4, q5⟩ := Row.six (a := .int .i64 2) (b := .int .i64 0) (c := .int .i64 0) (d := .string (wordS b')) (e := .bool false) (f := .int .i64 0) t3
    have zf := h5.2.1.frozen
    have wl := h5.2.1.lt
    clear HP b2 n0 n1 n2 n3 n4 n5 z0 z1 z2 z3 z4 z5 tf tl t2 h4 t0 h3 h2
    go_wp2
    exact bodyPost_ret (ret_one rfl (g := w.heap.size + 1) rfl ((h5.setR _ _ _ _ _ _).res rfl)) rfl ⟨rfl, (h5.setR _ _ _ _ _ _).2.2⟩
  · rw [vX_v] at HT
    clear hcc hhc hE hr
    go_enter Tryz.func13, Tryz.ntmps13
    go_wp2_with fail
    refine Calls.mono (HT _).out ?_
    rintro _ w1 ⟨rfl, b1⟩
    have h1 := h0.next b1
    obtain ⟨m0, m1, m2, m3, m4, m5⟩ := h1.1.six
    have mf := h1.1.frozen
    have ml := h1.1.lt
    have h2 := h1.setP (.int .i64 4) (.int .i64 0) (.int .i64 0) (.string .empty) (.bool false) (.int .i64 x')
    go_upto_region 2 with fail
    generalize ((((((w1.setCell ⟨w.heap.size, 0, none⟩ (.int .i64 4)).setCell ⟨w.heap.size, 1, none⟩ (.int .i64 0)).setCell ⟨w.heap.size, 2, none⟩ (.int .i64 0)).setCell ⟨w.heap.size, 3, none⟩ (.string .empty)).setCell ⟨w.heap.size, 4, none⟩ (.bool false)).setCell ⟨w.heap.size, 5, none⟩ (.int .i64 x')) = W at *
    clear h0 b1 HT h1 m0 m1 m2 m3 m4 m5 mf ml
    have t0 := Row.new W 25 #[.int .i64 2, .int .i64 0, .int .i64 0, .string ⟨#[]⟩, .bool false, .int .i64 0]
    have h3 := h2.next ((Below.refl _ W).alloc (Nat.le_refl _) (.cells #[.int .i64 2, .int .i64 0, .int .i64 0, .string ⟨#[]⟩, .bool false, .int .i64 0] 25))
    have hK : w.heap.size + 1 < W.heap.size := h2.2.1.lt
    have hA := (Below.refl _ W).alloc (Nat.le_refl _) (.cells #[.int .i64 2, .int .i64 0, .int .i64 0, .string ⟨#[]⟩, .bool false, .int .i64 0] 25)
    go_upto_region 3 with fail
    generalize W.alloc (.cells #[.int .i64 2, .int .i64 0, .int .i64 0, .string ⟨#[]⟩, .bool false, .int .i64 0] 25) = W2 at *
    obtain ⟨n0, n1, n2, n3, n4, n5⟩ := h3.1.six
    obtain ⟨y0, y1, y2, y3, y4, y5⟩ := h3.2.1.six
    have zf := h3.2.1.frozen
    have wl := h3.2.1.lt
    go_wp2
    exact bodyPost_ret (ret_one rfl (g := w.heap.size + 1) rfl ((h3.setR _ _ _ _ _ _).res rfl)) rfl ⟨rfl, (h3.setR _ _ _ _ _ _).2.2⟩
end Go.Proofs.YtnhflnpjepiceaaGreatDoor
/- val: Bool, Show of any value. -/
namespace Go.Proofs.YtnhflnpjepiceaaGreatDoor
open Go.RowKit

theorem V_sign_zero (c e : Int) : ((V (-18) c e).sign != 0) = !decide (c = 0) := by
  have h : V (-18) c e = 0 ↔ c = 0 := by
    unfold V
    constructor
    · intro h
      rcases Int.mul_eq_zero.1 h with h | h
      · exact h
      · exact absurd h (pow_ne _)
    · rintro rfl; simp
  by_cases hc : c = 0
  · rw [h.2 hc, hc]; rfl
  · have h1 : (V (-18) c e).sign ≠ 0 := fun e1 => hc (h.1 (Int.sign_eq_zero_iff_zero.1 e1))
    simp [h1, hc]
theorem ws_t : wordS true = ⟨#[84, 82, 85, 69]⟩ := rfl
set_option maxRecDepth 100000 in
set_option maxHeartbeats 2000000 in
theorem vbool_any (v : Vl) (hc : I64 v.c) (w : World) : Calls Tryz.prog 15 #[v.v] w fun r w' => r = .returned (boolV v).v ∧ Below w.heap.size w w' := by
  have hcc : ∀ c' e', cleanV v = vN c' e' → I64 c' := fun c' e' h => by
    unfold cleanV at h
    split at h
    · rw [h] at hc; exact hc
    · cases h
  have HT : ∀ V, Hid (Calls Tryz.prog 48 #[v.v] V fun r w' => r = .returned (cleanV v).v ∧ Below V.heap.size V w') := fun V => taken_any v hc V
  obtain ⟨u, hu⟩ : ∃ u, cleanV v = u := ⟨_, rfl⟩
  have hcs := clean_cases v
  unfold boolV
  rw [hu] at HT hcs hcc ⊢
  have hhc := hc
  clear hu hc
  obtain ⟨k, c, e, s, b, x, hv⟩ := v.v_form
  rw [hv] at HT ⊢
  clear hv
  have h0 := PR.start w #[.int .i64 k, .int .i64 c, .int .i64 e, .string s, .bool b, .int .i64 x] #[.int .i64 0, .int .i64 0, .int .i64 0, .string .empty, .bool false, .int .i64 0]
  rcases hcs with rfl | ⟨c', e', rfl, hr⟩ | ⟨s', rfl, hr⟩ | ⟨b', rfl⟩ | ⟨x', rfl, hr⟩
  · rw [vE_v] at HT
    clear hcc hhc
    go_enter Tryz.func15, Tryz.ntmps15
    go_wp2_with fail
    refine Calls.mono (HT _).out ?_
    rintro _ w1 ⟨rfl, b1⟩
    have h1 := h0.next b1
    obtain ⟨m0, m1, m2, m3, m4, m5⟩ := h1.1.six
    have mf := h1.1.frozen
    have ml := h1.1.lt
    have h2 := h1.setP (.int .i64 0) (.int .i64 0) (.int .i64 0) (.string .empty) (.bool false) (.int .i64 0)
    obtain ⟨n0, n1, n2, n3, n4, n5⟩ := h2.1.six
    obtain ⟨y0, y1, y2, y3, y4, y5⟩ := h2.2.1.six
    have zf := h2.2.1.frozen
    have wl := h2.2.1.lt
    clear h0 b1 HT h1
    go_wp2_with fail
    refine Calls.mono (truth_any false _) ?_
    rintro _ w2 ⟨rfl, b2⟩
    rw [vB_v]
    have h3 := h2.next b2
    obtain ⟨p0, p1, p2, p3, p4, p5⟩ := h3.2.1.six
    have qf := h3.2.1.frozen
    have ql := h3.2.1.lt
    clear b2 n0 n1 n2 n3 n4 n5 y0 y1 y2 y3 y4 y5 zf wl
    go_wp2
    exact bodyPost_ret (ret_one rfl (g := w.heap.size + 1) rfl ((h3.setR _ _ _ _ _ _).res rfl)) rfl ⟨rfl, (h3.setR _ _ _ _ _ _).2.2⟩
  · rw [vN_v] at HT
    have HS : ∀ V, Hid (Calls Tryz.prog 56 #[.agg #[.int .i64 c', .int .i64 e']] V fun r w' => r = .returned (.int .i64 ((Go.Proofs.YtnhflnpjepiceaaGreatDoor.V (-18) c' e').sign)) ∧ Below V.heap.size V w') := fun V => by
      have h := psign_any c' e' (hcc c' e' rfl) V
      rw [if_pos (show -18 ≤ e' ∧ e' ≤ 18 from right_within hr)] at h
      exact h
    have hz := V_sign_zero c' e'
    generalize (V (-18) c' e').sign = g at HS hz
    clear hcc hhc hr
    go_enter Tryz.func15, Tryz.ntmps15
    go_wp2_with fail
    refine Calls.mono (HT _).out ?_
    rintro _ w1 ⟨rfl, b1⟩
    have h1 := h0.next b1
    obtain ⟨m0, m1, m2, m3, m4, m5⟩ := h1.1.six
    have mf := h1.1.frozen
    have ml := h1.1.lt
    have h2 := h1.setP (.int .i64 1) (.int .i64 c') (.int .i64 e') (.string .empty) (.bool false) (.int .i64 0)
    obtain ⟨n0, n1, n2, n3, n4, n5⟩ := h2.1.six
    obtain ⟨y0, y1, y2, y3, y4, y5⟩ := h2.2.1.six
    have zf := h2.2.1.frozen
    have wl := h2.2.1.lt
    clear h0 b1 HT h1
    go_wp2_with fail
    refine Calls.mono (HS _).out ?_
    rintro _ w3 ⟨rfl, b3⟩
    have h2' := h2.next b3
    clear b3 HS n0 n1 n2 n3 n4 n5 y0 y1 y2 y3 y4 y5 zf wl h2
    go_wp2_with fail
    refine Calls.mono (truth_any _ _) ?_
    rintro _ w2 ⟨rfl, b2⟩
    rw [vB_v]
    have h3 := h2'.next b2
    obtain ⟨p0, p1, p2, p3, p4, p5⟩ := h3.2.1.six
    have qf := h3.2.1.frozen
    have ql := h3.2.1.lt
    clear b2 h2'
    go_wp2
    exact bodyPost_ret (ret_one rfl (g := w.heap.size + 1) rfl ((h3.setR _ _ _ _ _ _).res rfl)) rfl ⟨rfl, (h3.setR _ _ _ _ _ _).2.2⟩
  · rw [vT_v] at HT
    have HU : ∀ V, Hid (Calls Tryz.prog 57 #[.string s'] V fun r w' => r = .returned (.string (upS s')) ∧ Below V.heap.size V w') := fun V => pupper_any s' (by have := text_size hr; omega) V
    have hK : boolK (vT s') = if upS s' = wordS true then vB true else if upS s' = wordS false then vB false else vX 2 := rfl
    rw [hK]
    clear hcc hhc hr hK
    obtain ⟨U, hU⟩ : ∃ U, upS s' = U := ⟨_, rfl⟩
    rw [hU] at HU ⊢
    clear hU
    by_cases hA : U = wordS true
    · rw [if_pos hA]
      rw [ws_t] at hA
      subst hA
      go_enter Tryz.func15, Tryz.ntmps15
      go_wp2_with fail
      refine Calls.mono (HT _).out ?_
      rintro _ w1 ⟨rfl, b1⟩
      have h1 := h0.next b1
      obtain ⟨m0, m1, m2, m3, m4, m5⟩ := h1.1.six
      have mf := h1.1.frozen
      have ml := h1.1.lt
      have h2 := h1.setP (.int .i64 2) (.int .i64 0) (.int .i64 0) (.string s') (.bool false) (.int .i64 0)
      obtain ⟨n0, n1, n2, n3, n4, n5⟩ := h2.1.six
      obtain ⟨y0, y1, y2, y3, y4, y5⟩ := h2.2.1.six
      have zf := h2.2.1.frozen
      have wl := h2.2.1.lt
      clear h0 b1 HT h1
      go_wp2_with fail
      refine Calls.mono (HU _).out ?_
      rintro _ w3 ⟨rfl, b3⟩
      have h2' := h2.next b3
      clear b3 HU n0 n1 n2 n3 n4 n5 y0 y1 y2 y3 y4 y5 zf wl h2
      go_wp2_with fail
      refine Calls.mono (truth_any true _) ?_
      rintro _ w2 ⟨rfl, b2⟩
      rw [vB_v]
      have h3 := h2'.next b2
      obtain ⟨p0, p1, p2, p3, p4, p5⟩ := h3.2.1.six
      have qf := h3.2.1.frozen
      have ql := h3.2.1.lt
      clear b2 h2'
      go_wp2
      exact bodyPost_ret (ret_one rfl (g := w.heap.size + 1) rfl ((h3.setR _ _ _ _ _ _).res rfl)) rfl ⟨rfl, (h3.setR _ _ _ _ _ _).2.2⟩
    · rw [if_neg hA]
      have hAE := toList_ne2 (s := U) (l := [84, 82, 85, 69]) hA
      clear hA
      by_cases hB : U = wordS false
      · rw [if_pos hB]
        have hBE : U.toList = [70, 65, 76, 83, 69] := by rw [hB, ByteArray.toList_eq]; rfl
        clear hB
        go_enter Tryz.func15, Tryz.ntmps15
        go_wp2_with fail
        refine Calls.mono (HT _).out ?_
        rintro _ w1 ⟨rfl, b1⟩
        have h1 := h0.next b1
        obtain ⟨m0, m1, m2, m3, m4, m5⟩ := h1.1.six
        have mf := h1.1.frozen
        have ml := h1.1.lt
        have h2 := h1.setP (.int .i64 2) (.int .i64 0) (.int .i64 0) (.string s') (.bool false) (.int .i64 0)
        obtain ⟨n0, n1, n2, n3, n4, n5⟩ := h2.1.six
        obtain ⟨y0, y1, y2, y3, y4, y5⟩ := h2.2.1.six
        have zf := h2.2.1.frozen
        have wl := h2.2.1.lt
        clear h0 b1 HT h1
        go_wp2_with fail
        refine Calls.mono (HU _).out ?_
        rintro _ w3 ⟨rfl, b3⟩
        have h2a := h2.next b3
        clear b3 n0 n1 n2 n3 n4 n5 y0 y1 y2 y3 y4 y5 zf wl h2
        obtain ⟨n0, n1, n2, n3, n4, n5⟩ := h2a.1.six
        go_wp2_with fail
        refine Calls.mono (HU _).out ?_
        rintro _ w4 ⟨rfl, b4⟩
        have h2' := h2a.next b4
        clear b4 HU n0 n1 n2 n3 n4 n5 h2a
        go_wp2_with fail
        refine Calls.mono (truth_any false _) ?_
        rintro _ w2 ⟨rfl, b2⟩
        rw [vB_v]
        have h3 := h2'.next b2
        obtain ⟨p0, p1, p2, p3, p4, p5⟩ := h3.2.1.six
        have qf := h3.2.1.frozen
        have ql := h3.2.1.lt
        clear b2 h2'
        go_wp2
        exact bodyPost_ret (ret_one rfl (g := w.heap.size + 1) rfl ((h3.setR _ _ _ _ _ _).res rfl)) rfl ⟨rfl, (h3.setR _ _ _ _ _ _).2.2⟩
      · rw [if_neg hB]
        have hBE := toList_ne2 (s := U) (l := [70, 65, 76, 83, 69]) hB
        clear hB
        go_enter Tryz.func15, Tryz.ntmps15
        go_wp2_with fail
        refine Calls.mono (HT _).out ?_
        rintro _ w1 ⟨rfl, b1⟩
        have h1 := h0.next b1
        obtain ⟨m0, m1, m2, m3, m4, m5⟩ := h1.1.six
        have mf := h1.1.frozen
        have ml := h1.1.lt
        have h2 := h1.setP (.int .i64 2) (.int .i64 0) (.int .i64 0) (.string s') (.bool false) (.int .i64 0)
        obtain ⟨n0, n1, n2, n3, n4, n5⟩ := h2.1.six
        obtain ⟨y0, y1, y2, y3, y4, y5⟩ := h2.2.1.six
        have zf := h2.2.1.frozen
        have wl := h2.2.1.lt
        clear h0 b1 HT h1
        go_wp2_with fail
        refine Calls.mono (HU _).out ?_
        rintro _ w3 ⟨rfl, b3⟩
        have h2a := h2.next b3
        clear b3 n0 n1 n2 n3 n4 n5 y0 y1 y2 y3 y4 y5 zf wl h2
        obtain ⟨n0, n1, n2, n3, n4, n5⟩ := h2a.1.six
        go_wp2_with fail
        refine Calls.mono (HU _).out ?_
        rintro _ w4 ⟨rfl, b4⟩
        have h2' := h2a.next b4
        clear b4 HU n0 n1 n2 n3 n4 n5 h2a
        go_wp2_with fail
        refine Calls.mono (err_any 2 _) ?_
        rintro _ w2 ⟨rfl, b2⟩
        rw [errW2]
        have h3 := h2'.next b2
        obtain ⟨p0, p1, p2, p3, p4, p5⟩ := h3.2.1.six
        have qf := h3.2.1.frozen
        have ql := h3.2.1.lt
        clear b2 h2'
        go_wp2
        exact bodyPost_ret (ret_one rfl (g := w.heap.size + 1) rfl ((h3.setR _ _ _ _ _ _).res rfl)) rfl ⟨rfl, (h3.setR _ _ _ _ _ _).2.2⟩
  · rw [vB_v] at HT
    clear hcc hhc
    go_enter Tryz.func15, Tryz.ntmps15
    go_wp2_with fail
    refine Calls.mono (HT _).out ?_
    rintro _ w1 ⟨rfl, b1⟩
    have h1 := h0.next b1
    obtain ⟨m0, m1, m2, m3, m4, m5⟩ := h1.1.six
    have mf := h1.1.frozen
    have ml := h1.1.lt
    have h2 := h1.setP (.int .i64 3) (.int .i64 0) (.int .i64 0) (.string .empty) (.bool b') (.int .i64 0)
    obtain ⟨n0, n1, n2, n3, n4, n5⟩ := h2.1.six
    obtain ⟨y0, y1, y2, y3, y4, y5⟩ := h2.2.1.six
    have zf := h2.2.1.frozen
    have wl := h2.2.1.lt
    clear h0 b1 HT h1
    go_wp2
    exact bodyPost_ret (ret_one rfl (g := w.heap.size + 1) rfl ((h2.setR _ _ _ _ _ _).res rfl)) rfl ⟨rfl, (h2.setR _ _ _ _ _ _).2.2⟩
  · rw [vX_v] at HT
    clear hcc hhc
    go_enter Tryz.func15, Tryz.ntmps15
    go_wp2_with fail
    refine Calls.mono (HT _).out ?_
    rintro _ w1 ⟨rfl, b1⟩
    have h1 := h0.next b1
    obtain ⟨m0, m1, m2, m3, m4, m5⟩ := h1.1.six
    have mf := h1.1.frozen
    have ml := h1.1.lt
    have h2 := h1.setP (.int .i64 4) (.int .i64 0) (.int .i64 0) (.string .empty) (.bool false) (.int .i64 x')
    obtain ⟨n0, n1, n2, n3, n4, n5⟩ := h2.1.six
    obtain ⟨y0, y1, y2, y3, y4, y5⟩ := h2.2.1.six
    have zf := h2.2.1.frozen
    have wl := h2.2.1.lt
    clear h0 b1 HT h1
    go_wp2
    exact bodyPost_ret (ret_one rfl (g := w.heap.size + 1) rfl ((h2.setR _ _ _ _ _ _).res rfl)) rfl ⟨rfl, (h2.setR _ _ _ _ _ _).2.2⟩
end Go.Proofs.YtnhflnpjepiceaaGreatDoor
/- val: Show, Typed. -/
namespace Go.Proofs.YtnhflnpjepiceaaGreatDoor
open Go.RowKit

theorem field25 (k c e x : Int) (s : ByteArray) (b : Bool) (W : World) : (Instr.field 25 (.agg #[.int .i64 k, .int .i64 c, .int .i64 e, .string s, .bool b, .int .i64 x]) 2).run Tryz.prog W = .ok (.string s) W := by
  simp [Instr.field, go_sem, asAgg, Result.andThen]
theorem clean_bd {v : Vl} (hc : I64 v.c) : I64 (cleanV v).c := by
  unfold cleanV
  split
  · exact hc
  · exact ⟨by decide, by decide⟩
theorem text_of {u : Vl} (hr : rightV u = true) (hk : u.k ≠ 4) : (textV u).v = .agg #[.int .i64 2, .int .i64 0, .int .i64 0, .string (textK u).s, .bool false, .int .i64 0] := by
  unfold textV
  rw [clean_of hr]
  rcases right_cases hr with rfl | ⟨c, e, rfl, h⟩ | ⟨s, rfl, h⟩ | ⟨b, rfl⟩ | ⟨x, rfl, h⟩
  · rfl
  · rfl
  · rfl
  · rfl
  · exact absurd rfl hk
set_option maxRecDepth 100000 in
set_option maxHeartbeats 2000000 in
theorem vshow_any (v : Vl) (hc : I64 v.c) (w : World) (hE : Env w) : Calls Tryz.prog 17 #[v.v] w fun r w' => r = .returned (.string (showV v)) ∧ Below w.heap.size w w' := by
  have HT : ∀ V, Hid (Calls Tryz.prog 48 #[v.v] V fun r w' => r = .returned (cleanV v).v ∧ Below V.heap.size V w') := fun V => taken_any v hc V
  have hcb := clean_bd hc
  have hcr := clean_right v
  unfold showV textV
  obtain ⟨u, hu⟩ : ∃ u, cleanV v = u := ⟨_, rfl⟩
  rw [hu] at HT hcb hcr ⊢
  clear hu hc
  obtain ⟨k, c, e, s, b, x, hv⟩ := v.v_form
  rw [hv] at HT ⊢
  clear hv
  have h0 := R1.start w #[.int .i64 k, .int .i64 c, .int .i64 e, .string s, .bool b, .int .i64 x]
  by_cases h4 : u.k = 4
  · rw [if_pos h4]
    rcases right_cases hcr with rfl | ⟨c', e', rfl, hr⟩ | ⟨s', rfl, hr⟩ | ⟨b', rfl⟩ | ⟨x', rfl, hr⟩
    · cases h4
    · cases h4
    · cases h4
    · cases h4
    · rw [vX_v] at HT
      show Calls Tryz.prog 17 _ w fun r w' => r = .returned (.string (nameS x')) ∧ _
      clear h4 hcb hcr
      go_enter Tryz.func17, Tryz.ntmps17
      go_wp2_with fail
      refine Calls.mono (HT _).out ?_
      rintro _ w1 ⟨rfl, b1⟩
      have h1 := h0.next b1
      obtain ⟨m0, m1, m2, m3, m4, m5⟩ := h1.1.six
      have mf := h1.1.frozen
      have ml := h1.1.lt
      have h2 := h1.set (.int .i64 4) (.int .i64 0) (.int .i64 0) (.string .empty) (.bool false) (.int .i64 x')
      have hN := (hE.next h2.2).nam
      obtain ⟨n0, n1, n2, n3, n4, n5⟩ := h2.1.six
      clear h0 b1 HT h1 hE
      go_upto_region 2 with fail
      generalize ((((((w1.setCell ⟨w.heap.size, 0, none⟩ (.int .i64 4)).setCell ⟨w.heap.size, 1, none⟩ (.int .i64 0)).setCell ⟨w.heap.size, 2, none⟩ (.int .i64 0)).setCell ⟨w.heap.size, 3, none⟩ (.string .empty)).setCell ⟨w.heap.size, 4, none⟩ (.bool false)).setCell ⟨w.heap.size, 5, none⟩ (.int .i64 x')) = W at *
      clear m0 m1 m2 m3 m4 m5 mf ml
      go_wp2_with fail
      refine Calls.mono (errName_any x' W hN) ?_
      rintro _ w2 ⟨rfl, rfl⟩
      go_wp2
      go_ret
      exact ⟨rfl, h2.2⟩
  · rw [if_neg h4]
    have HX : ∀ V, Env V → Hid (Calls Tryz.prog 13 #[u.v] V fun r w' => r = .returned (.agg #[.int .i64 2, .int .i64 0, .int .i64 0, .string (textK u).s, .bool false, .int .i64 0]) ∧ Below V.heap.size V w') := fun V hV => by
      have h := vtext_any u hcb V hV
      rw [text_of hcr h4] at h
      exact h
    generalize (textK u).s = t at HX ⊢
    obtain ⟨k', c', e', s', b', x'⟩ := u
    unfold Vl.v Vl.cells at HT HX
    simp only at HT HX h4
    have h5 : (k' == 4) = false := by simpa using h4
    clear h4 hcb hcr
    go_enter Tryz.func17, Tryz.ntmps17
    go_wp2_with fail
    refine Calls.mono (HT _).out ?_
    rintro _ w1 ⟨rfl, b1⟩
    have h1 := h0.next b1
    obtain ⟨m0, m1, m2, m3, m4, m5⟩ := h1.1.six
    have mf := h1.1.frozen
    have ml := h1.1.lt
    have h2 := h1.set (.int .i64 k') (.int .i64 c') (.int .i64 e') (.string s') (.bool b') (.int .i64 x')
    have hN := hE.next h2.2
    obtain ⟨n0, n1, n2, n3, n4, n5⟩ := h2.1.six
    clear h0 b1 HT h1 hE
    go_upto_region 2 with fail
    generalize ((((((w1.setCell ⟨w.heap.size, 0, none⟩ (.int .i64 k')).setCell ⟨w.heap.size, 1, none⟩ (.int .i64 c')).setCell ⟨w.heap.size, 2, none⟩ (.int .i64 e')).setCell ⟨w.heap.size, 3, none⟩ (.string s')).setCell ⟨w.heap.size, 4, none⟩ (.bool b')).setCell ⟨w.heap.size, 5, none⟩ (.int .i64 x')) = W at *
    clear m0 m1 m2 m3 m4 m5 mf ml
    go_wp2_with fail
    refine Calls.mono (HX W hN).out ?_
    rintro _ w2 ⟨rfl, b2⟩
    have hf := field25 2 0 0 0 t false
    go_wp2
    go_ret
    exact ⟨rfl, (h2.next b2).2⟩
/-- What a text is that is typed. -/
def typedV (l : List UInt8) : Vl := if l = [] then vE else if (parseQ l).2.2 = 0 then ofW (parseQ l).1 (parseQ l).2.1 0 else if bs l = wordS true then vB true else if bs l = wordS false then vB false else if codeN (bs l) ≠ 0 then errW (codeN (bs l)) else strW (bs (Lib.trimPrefix l [39]))
set_option maxRecDepth 100000 in
set_option maxHeartbeats 4000000 in
theorem vtyped_any (l : List UInt8) (hl : l.length ≤ 140737488351232) (w : World) (hE : Env w) : Calls Tryz.prog 30 #[.string (bs l)] w fun r w' => r = .returned (typedV l).v ∧ Below w.heap.size w w' := by
  have HP : ∀ V, Hid (Calls Tryz.prog 60 #[.string (bs l)] V fun e w' => e = .returned (.tuple #[.agg #[.int .i64 (parseQ l).1, .int .i64 (parseQ l).2.1], .int .i64 (parseQ l).2.2]) ∧ Below V.heap.size V w') := fun V => parse_val l hl V
  have hbd := parseQ_bd l
  have hsl : (bs l).toList = l := bs_toList l
  have h0 := R1.start w #[.int .i64 0, .int .i64 0, .int .i64 0, .string .empty, .bool false, .int .i64 0]
  unfold typedV
  by_cases hn : l = []
  · rw [if_pos hn]
    subst hn
    obtain ⟨y0, y1, y2, y3, y4, y5⟩ := h0.1.six
    clear HP hbd hE
    go_enter Tryz.func30, Tryz.ntmps30
    go_wp2
    exact bodyPost_ret (ret_one rfl (g := w.heap.size) rfl (h0.res rfl)) rfl ⟨rfl, h0.2⟩
  rw [if_neg hn]
  have HE0 : ((bs l).toList == []) = false := by rw [hsl]; simpa using hn
  have HTR : bs l ≠ wordS true → ((bs l).toList == [84, 82, 85, 69]) = false := fun h => toList_ne2 h
  have HFA : bs l ≠ wordS false → ((bs l).toList == [70, 65, 76, 83, 69]) = false := fun h => toList_ne2 h
  have HTQ : bs l = wordS true → (bs l).toList = [84, 82, 85, 69] := fun h => by rw [h, ByteArray.toList_eq]; rfl
  have HFQ : bs l = wordS false → (bs l).toList = [70, 65, 76, 83, 69] := fun h => by rw [h, ByteArray.toList_eq]; rfl
  have HTP : ∀ V, Hid (Calls Tryz.prog 61 #[.string (bs l), .string ⟨#[39]⟩] V fun e w' => e = .returned (.string (bs (Lib.trimPrefix l [39]))) ∧ w' = V) := fun V => Tryz.strings_TrimPrefix (bs l) ⟨#[39]⟩ V
  have HEC : ∀ V, Names V → Hid (Calls Tryz.prog 20 #[.string (bs l)] V fun r w' => r = .returned (.tuple #[.int .i64 (codeN (bs l)), .bool (decide (codeN (bs l) ≠ 0))]) ∧ w' = V) := fun V hV => errCode_any (bs l) V hV
  generalize bs (Lib.trimPrefix l [39]) = tp at *
  generalize bs l = S at *
  obtain ⟨c, hc⟩ : ∃ c, (parseQ l).1 = c := ⟨_, rfl⟩
  obtain ⟨e, he⟩ : ∃ e, (parseQ l).2.1 = e := ⟨_, rfl⟩
  obtain ⟨er, her⟩ : ∃ er, (parseQ l).2.2 = er := ⟨_, rfl⟩
  rw [hc] at hbd
  simp only [hc, he, her] at HP ⊢
  clear hc he her hsl hn hl
  have HO : ∀ V, Hid (Calls Tryz.prog 23 #[.agg #[.int .i64 c, .int .i64 e], .int .i64 0] V fun r w' => r = .returned (ofW c e 0).v ∧ Below V.heap.size V w') := fun V => of_val c e 0 hbd V
  clear hbd
  by_cases h00 : er = 0
  · subst h00
    rw [if_pos rfl]
    clear HTR HFA HTQ HFQ HTP HEC hE
    go_enter Tryz.func30, Tryz.ntmps30
    go_wp2_with fail
    refine Calls.mono (HP _).out ?_
    rintro _ w2 ⟨rfl, b2⟩
    have h2 := (h0.next b2).alloc (.cells #[.int .i64 c, .int .i64 e] 23)
    clear b2 h0 HP
    go_wp2_with fail
    refine Calls.mono (HO _).out ?_
    rintro _ w3 ⟨rfl, b3⟩
    obtain ⟨k', c', e', x', hv⟩ := ofW_form c e 0
    rw [hv]
    have h3 := h2.next b3
    obtain ⟨y0, y1, y2, y3, y4, y5⟩ := h3.1.six
    have zf := h3.1.frozen
    have wl := h3.1.lt
    clear b3 h2 HO
    go_wp2
    exact bodyPost_ret (ret_one rfl (g := w.heap.size) rfl ((h3.set _ _ _ _ _ _).res rfl)) rfl ⟨by first | rfl | exact congrArg _ hv.symm, (h3.set _ _ _ _ _ _).2⟩
  have h01 : (er == 0) = false := by simpa using h00
  rw [if_neg h00]
  clear HO h00
  by_cases hA : S = wordS true
  · rw [if_pos hA]
    have hAE := HTQ hA
    clear hA HTR HFA HTQ HFQ HTP HEC hE
    go_enter Tryz.func30, Tryz.ntmps30
    go_wp2_with fail
    refine Calls.mono (HP _).out ?_
    rintro _ w2 ⟨rfl, b2⟩
    have h2 := (h0.next b2).alloc (.cells #[.int .i64 c, .int .i64 e] 23)
    clear b2 h0 HP
    go_wp2_with fail
    refine Calls.mono (truth_any true _) ?_
    rintro _ w3 ⟨rfl, b3⟩
    rw [vB_v]
    have h3 := h2.next b3
    obtain ⟨y0, y1, y2, y3, y4, y5⟩ := h3.1.six
    have zf := h3.1.frozen
    have wl := h3.1.lt
    clear b3 h2
    go_wp2
    exact bodyPost_ret (ret_one rfl (g := w.heap.size) rfl ((h3.set _ _ _ _ _ _).res rfl)) rfl ⟨by first | rfl | rfl, (h3.set _ _ _ _ _ _).2⟩
  rw [if_neg hA]
  have hAN := HTR hA
  clear hA HTR HTQ
  by_cases hB : S = wordS false
  · rw [if_pos hB]
    have hBE := HFQ hB
    clear hB HFA HFQ HTP HEC hE
    go_enter Tryz.func30, Tryz.ntmps30
    go_wp2_with fail
    refine Calls.mono (HP _).out ?_
    rintro _ w2 ⟨rfl, b2⟩
    have h2 := (h0.next b2).alloc (.cells #[.int .i64 c, .int .i64 e] 23)
    clear b2 h0 HP
    go_wp2_with fail
    refine Calls.mono (truth_any false _) ?_
    rintro _ w3 ⟨rfl, b3⟩
    rw [vB_v]
    have h3 := h2.next b3
    obtain ⟨y0, y1, y2, y3, y4, y5⟩ := h3.1.six
    have zf := h3.1.frozen
    have wl := h3.1.lt
    clear b3 h2
    go_wp2
    exact bodyPost_ret (ret_one rfl (g := w.heap.size) rfl ((h3.set _ _ _ _ _ _).res rfl)) rfl ⟨by first | rfl | rfl, (h3.set _ _ _ _ _ _).2⟩
  rw [if_neg hB]
  have hBN := HFA hB
  clear hB HFA HFQ
  generalize codeN S = n at *
  by_cases hz : n = 0
  · rw [if_neg (by simpa using hz)]
    subst hz
    go_enter Tryz.func30, Tryz.ntmps30
    go_wp2_with fail
    refine Calls.mono (HP _).out ?_
    rintro _ w2 ⟨rfl, b2⟩
    have h2 := (h0.next b2).alloc (.cells #[.int .i64 c, .int .i64 e] 23)
    have hN := (hE.next h2.2).nam
    clear b2 h0 HP
    go_wp2_with fail
    refine Calls.mono (HEC _ hN).out ?_
    rintro _ w3 ⟨rfl, rfl⟩
    go_wp2_with fail
    refine Calls.mono (HTP _).out ?_
    rintro _ w3 ⟨rfl, rfl⟩
    go_wp2_with fail
    refine Calls.mono (str_any tp _) ?_
    rintro _ w4 ⟨rfl, b4⟩
    obtain ⟨k', c', e', s', b', x', hv⟩ := (strW tp).v_form
    rw [hv]
    have h3 := h2.next b4
    obtain ⟨y0, y1, y2, y3, y4, y5⟩ := h3.1.six
    have zf := h3.1.frozen
    have wl := h3.1.lt
    clear b4 h2 HTP HEC hE hN
    go_wp2
    exact bodyPost_ret (ret_one rfl (g := w.heap.size) rfl ((h3.set _ _ _ _ _ _).res rfl)) rfl ⟨by first | rfl | exact congrArg _ hv.symm, (h3.set _ _ _ _ _ _).2⟩
  · rw [if_pos hz]
    have hd : decide (n ≠ 0) = true := decide_eq_true hz
    simp only [hd] at HEC
    clear hd hz HTP
    go_enter Tryz.func30, Tryz.ntmps30
    go_wp2_with fail
    refine Calls.mono (HP _).out ?_
    rintro _ w2 ⟨rfl, b2⟩
    have h2 := (h0.next b2).alloc (.cells #[.int .i64 c, .int .i64 e] 23)
    have hN := (hE.next h2.2).nam
    clear b2 h0 HP
    go_wp2_with fail
    refine Calls.mono (HEC _ hN).out ?_
    rintro _ w3 ⟨rfl, rfl⟩
    go_wp2_with fail
    refine Calls.mono (err_any n _) ?_
    rintro _ w4 ⟨rfl, b4⟩
    obtain ⟨k', c', e', s', b', x', hv⟩ := (errW n).v_form
    rw [hv]
    have h3 := h2.next b4
    obtain ⟨y0, y1, y2, y3, y4, y5⟩ := h3.1.six
    have zf := h3.1.frozen
    have wl := h3.1.lt
    clear b4 h2 HEC hE hN
    go_wp2
    exact bodyPost_ret (ret_one rfl (g := w.heap.size) rfl ((h3.set _ _ _ _ _ _).res rfl)) rfl ⟨by first | rfl | exact congrArg _ hv.symm, (h3.set _ _ _ _ _ _).2⟩
end Go.Proofs.YtnhflnpjepiceaaGreatDoor
/- val: firstError of two, filled, compared. -/
namespace Go.Proofs.YtnhflnpjepiceaaGreatDoor
open Go.RowKit

def ferr (a b : Vl) : Vl × Bool := if a.k = 4 then (a, true) else if b.k = 4 then (b, true) else (vE, false)
def c12 (k c e : Int) (s : ByteArray) (b : Bool) (x : Int) (k2 c2 e2 : Int) (s2 : ByteArray) (b2 : Bool) (x2 : Int) : Array Value :=
  #[.int .i64 k, .int .i64 c, .int .i64 e, .string s, .bool b, .int .i64 x, .int .i64 k2, .int .i64 c2, .int .i64 e2, .string s2, .bool b2, .int .i64 x2]
set_option maxRecDepth 100000 in
set_option maxHeartbeats 4000000 in
theorem first_one (c e : Int) (s : ByteArray) (b : Bool) (x : Int) (k2 : Int) (c2 e2 : Int) (s2 : ByteArray) (b2 : Bool) (x2 : Int) (K : Nat) (w : World) (hK : Row w K 25 (c12 4 c e s b x k2 c2 e2 s2 b2 x2)) :
    Calls Tryz.prog 62 #[.slice (some ⟨K, 0, none⟩) 2 2] w fun r w' => r = .returned (.tuple #[.agg #[.int .i64 4, .int .i64 c, .int .i64 e, .string s, .bool b, .int .i64 x], .bool true]) ∧ Below w.heap.size w w' := by
  unfold c12 at hK
  have hKl := hK.lt
  have d0 : w.cell? ⟨K, 0, none⟩ = some (.int .i64 4) := hK.cell rfl
  have d1 : w.cell? ⟨K, 1, none⟩ = some (.int .i64 c) := hK.cell rfl
  have d2 : w.cell? ⟨K, 2, none⟩ = some (.int .i64 e) := hK.cell rfl
  have d3 : w.cell? ⟨K, 3, none⟩ = some (.string s) := hK.cell rfl
  have d4 : w.cell? ⟨K, 4, none⟩ = some (.bool b) := hK.cell rfl
  have d5 : w.cell? ⟨K, 5, none⟩ = some (.int .i64 x) := hK.cell rfl
  have d6 : w.cell? ⟨K, 6, none⟩ = some (.int .i64 k2) := hK.cell rfl
  have d7 : w.cell? ⟨K, 7, none⟩ = some (.int .i64 c2) := hK.cell rfl
  have d8 : w.cell? ⟨K, 8, none⟩ = some (.int .i64 e2) := hK.cell rfl
  have d9 : w.cell? ⟨K, 9, none⟩ = some (.string s2) := hK.cell rfl
  have d10 : w.cell? ⟨K, 10, none⟩ = some (.bool b2) := hK.cell rfl
  have d11 : w.cell? ⟨K, 11, none⟩ = some (.int .i64 x2) := hK.cell rfl
  clear hK
  go_enter Tryz.func62, Tryz.ntmps62
  go_wp2_with fail
  refine wp_loop_rounds 3 ?_
  rw [rounds_succ]
  go_wp2_with fail
  exact bodyPost_ret (ret_two rfl (g := w.heap.size) rfl rfl (load25 ((Row.new w 25 _).alloc _) rfl)) rfl ⟨rfl, ((Below.refl _ w).alloc (Nat.le_refl _) _).alloc (by simp) _⟩
set_option maxRecDepth 100000 in
set_option maxHeartbeats 4000000 in
theorem first_two (c e : Int) (s : ByteArray) (b : Bool) (x : Int) (k : Int) (c2 e2 : Int) (s2 : ByteArray) (b2 : Bool) (x2 : Int) (K : Nat) (w : World) (hK : Row w K 25 (c12 k c e s b x 4 c2 e2 s2 b2 x2)) (h1 : ¬ k = 4) :
    Calls Tryz.prog 62 #[.slice (some ⟨K, 0, none⟩) 2 2] w fun r w' => r = .returned (.tuple #[.agg #[.int .i64 4, .int .i64 c2, .int .i64 e2, .string s2, .bool b2, .int .i64 x2], .bool true]) ∧ Below w.heap.size w w' := by
  unfold c12 at hK
  have hKl := hK.lt
  have d0 : w.cell? ⟨K, 0, none⟩ = some (.int .i64 k) := hK.cell rfl
  have d1 : w.cell? ⟨K, 1, none⟩ = some (.int .i64 c) := hK.cell rfl
  have d2 : w.cell? ⟨K, 2, none⟩ = some (.int .i64 e) := hK.cell rfl
  have d3 : w.cell? ⟨K, 3, none⟩ = some (.string s) := hK.cell rfl
  have d4 : w.cell? ⟨K, 4, none⟩ = some (.bool b) := hK.cell rfl
  have d5 : w.cell? ⟨K, 5, none⟩ = some (.int .i64 x) := hK.cell rfl
  have d6 : w.cell? ⟨K, 6, none⟩ = some (.int .i64 4) := hK.cell rfl
  have d7 : w.cell? ⟨K, 7, none⟩ = some (.int .i64 c2) := hK.cell rfl
  have d8 : w.cell? ⟨K, 8, none⟩ = some (.int .i64 e2) := hK.cell rfl
  have d9 : w.cell? ⟨K, 9, none⟩ = some (.string s2) := hK.cell rfl
  have d10 : w.cell? ⟨K, 10, none⟩ = some (.bool b2) := hK.cell rfl
  have d11 : w.cell? ⟨K, 11, none⟩ = some (.int .i64 x2) := hK.cell rfl
  clear hK
  have h2 : (k == 4) = false := by simpa using h1
  clear h1
  go_enter Tryz.func62, Tryz.ntmps62
  go_wp2_with fail
  refine wp_loop_rounds 3 ?_
  rw [rounds_succ]
  go_wp2_with fail
  rw [rounds_succ]
  go_wp2_with fail
  exact bodyPost_ret (ret_two rfl (g := w.heap.size) rfl rfl (load25 (((Row.new w 25 _).alloc _).alloc _) rfl)) rfl ⟨rfl, (((Below.refl _ w).alloc (Nat.le_refl _) _).alloc (by simp) _).alloc (by simp; omega) _⟩
set_option maxRecDepth 100000 in
set_option maxHeartbeats 4000000 in
theorem first_no (c e : Int) (s : ByteArray) (b : Bool) (x : Int) (k k2 : Int) (c2 e2 : Int) (s2 : ByteArray) (b2 : Bool) (x2 : Int) (K : Nat) (w : World) (hK : Row w K 25 (c12 k c e s b x k2 c2 e2 s2 b2 x2)) (h1 : ¬ k = 4) (h3 : ¬ k2 = 4) :
    Calls Tryz.prog 62 #[.slice (some ⟨K, 0, none⟩) 2 2] w fun r w' => r = .returned (.tuple #[.agg #[.int .i64 0, .int .i64 0, .int .i64 0, .string .empty, .bool false, .int .i64 0], .bool false]) ∧ Below w.heap.size w w' := by
  unfold c12 at hK
  have hKl := hK.lt
  have d0 : w.cell? ⟨K, 0, none⟩ = some (.int .i64 k) := hK.cell rfl
  have d1 : w.cell? ⟨K, 1, none⟩ = some (.int .i64 c) := hK.cell rfl
  have d2 : w.cell? ⟨K, 2, none⟩ = some (.int .i64 e) := hK.cell rfl
  have d3 : w.cell? ⟨K, 3, none⟩ = some (.string s) := hK.cell rfl
  have d4 : w.cell? ⟨K, 4, none⟩ = some (.bool b) := hK.cell rfl
  have d5 : w.cell? ⟨K, 5, none⟩ = some (.int .i64 x) := hK.cell rfl
  have d6 : w.cell? ⟨K, 6, none⟩ = some (.int .i64 k2) := hK.cell rfl
  have d7 : w.cell? ⟨K, 7, none⟩ = some (.int .i64 c2) := hK.cell rfl
  have d8 : w.cell? ⟨K, 8, none⟩ = some (.int .i64 e2) := hK.cell rfl
  have d9 : w.cell? ⟨K, 9, none⟩ = some (.string s2) := hK.cell rfl
  have d10 : w.cell? ⟨K, 10, none⟩ = some (.bool b2) := hK.cell rfl
  have d11 : w.cell? ⟨K, 11, none⟩ = some (.int .i64 x2) := hK.cell rfl
  clear hK
  have h2 : (k == 4) = false := by simpa using h1
  have h4 : (k2 == 4) = false := by simpa using h3
  clear h1 h3
  go_enter Tryz.func62, Tryz.ntmps62
  go_wp2_with fail
  refine wp_loop_rounds 3 ?_
  rw [rounds_succ]
  go_wp2_with fail
  rw [rounds_succ]
  go_wp2_with fail
  rw [rounds_succ]
  go_wp2_with fail
  exact bodyPost_ret (ret_two rfl (g := w.heap.size) rfl rfl (load25 (((Row.new w 25 _).alloc _).alloc _) rfl)) rfl ⟨rfl, (((Below.refl _ w).alloc (Nat.le_refl _) _).alloc (by simp) _).alloc (by simp; omega) _⟩
theorem first_any (a b : Vl) (K : Nat) (w : World) (hK : Row w K 25 (a.cells ++ b.cells)) :
    Calls Tryz.prog 62 #[.slice (some ⟨K, 0, none⟩) 2 2] w fun r w' => r = .returned (.tuple #[(ferr a b).1.v, .bool (ferr a b).2]) ∧ Below w.heap.size w w' := by
  unfold ferr
  obtain ⟨k, c, e, s, b1, x⟩ := a
  obtain ⟨k2, c2, e2, s2, b2, x2⟩ := b
  by_cases h1 : k = 4
  · subst h1
    exact first_one c e s b1 x k2 c2 e2 s2 b2 x2 K w hK
  · by_cases h2 : k2 = 4
    · subst h2
      simp only [h1, if_false]
      exact first_two c e s b1 x k c2 e2 s2 b2 x2 K w hK h1
    · simp only [h1, h2, if_false]
      exact first_no c e s b1 x k k2 c2 e2 s2 b2 x2 K w hK h1 h2
/-- What stands in place of what is empty. -/
def filledV (a b : Vl) : Vl := if a.k = 0 then ⟨b.k, 0, 0, .empty, false, 0⟩ else a
theorem Row.new2 (w : World) (o1 o2 : Obj) (t : TypeId) (cs : Array Value) : Row (((w.alloc o1).alloc o2).alloc (.cells cs t)) (w.heap.size + 1 + 1) t cs := by
  have := Row.new ((w.alloc o1).alloc o2) t cs
  simpa using this
set_option maxRecDepth 100000 in
set_option maxHeartbeats 4000000 in
theorem filled_E (b : Vl) (w : World) : Calls Tryz.prog 75 #[vE.v, b.v] w fun r w' => r = .returned (⟨b.k, 0, 0, .empty, false, 0⟩ : Vl).v ∧ Below w.heap.size w w' := by
  obtain ⟨k2, c2, e2, s2, b2, x2⟩ := b
  rw [vE_v]
  unfold Vl.v Vl.cells
  have hb : ∀ o1 o2 o3, Below w.heap.size w (((w.alloc o1).alloc o2).alloc o3) := fun _ _ _ => (((Below.refl _ w).alloc (Nat.le_refl _) _).alloc (by simp) _).alloc (by simp; omega) _
  go_enter Tryz.func75, Tryz.ntmps75
  go_wp2
  exact bodyPost_ret (ret_one rfl (g := w.heap.size + 1 + 1) rfl (load25 (Row.new2 w _ _ 25 _) rfl)) rfl ⟨rfl, hb _ _ _⟩
set_option maxRecDepth 100000 in
set_option maxHeartbeats 4000000 in
theorem filled_K (a b : Vl) (hk : ¬ a.k = 0) (w : World) : Calls Tryz.prog 75 #[a.v, b.v] w fun r w' => r = .returned a.v ∧ Below w.heap.size w w' := by
  obtain ⟨k, c, e, s, b1, x⟩ := a
  obtain ⟨k2, c2, e2, s2, b2, x2⟩ := b
  unfold Vl.v Vl.cells
  have hk2 : (k == 0) = false := by simpa using hk
  clear hk
  have hb : ∀ o1 o2 o3, Below w.heap.size w (((w.alloc o1).alloc o2).alloc o3) := fun _ _ _ => (((Below.refl _ w).alloc (Nat.le_refl _) _).alloc (by simp) _).alloc (by simp; omega) _
  go_enter Tryz.func75, Tryz.ntmps75
  go_wp2
  exact bodyPost_ret (ret_one rfl (g := w.heap.size + 1 + 1) rfl (load25 (Row.new2 w _ _ 25 _) rfl)) rfl ⟨rfl, hb _ _ _⟩
theorem filled_any (a b : Vl) (ha : a.k = 0 → a = vE) (w : World) : Calls Tryz.prog 75 #[a.v, b.v] w fun r w' => r = .returned (filledV a b).v ∧ Below w.heap.size w w' := by
  unfold filledV
  by_cases h : a.k = 0
  · rw [if_pos h, ha h]
    exact filled_E b w
  · rw [if_neg h]
    exact filled_K a b h w
/-- What an operator says of an order. -/
def cmpV (op o : Int) : Vl := if op = 7 then vB (o == 0) else if op = 8 then vB (o != 0) else if op = 9 then vB (decide (o < 0)) else if op = 10 then vB (decide (o ≤ 0)) else if op = 11 then vB (decide (0 < o)) else if op = 12 then vB (decide (0 ≤ o)) else vX 2
set_option maxRecDepth 100000 in
set_option maxHeartbeats 4000000 in
theorem compared_7 (o : Int) (w : World) : Calls Tryz.prog 69 #[.int .i64 7, .int .i64 o] w fun r w' => r = .returned (vB (o == 0)).v ∧ Below w.heap.size w w' := by
  have h0 := R1.start w #[.int .i64 0, .int .i64 0, .int .i64 0, .string .empty, .bool false, .int .i64 0]
  go_enter Tryz.func69, Tryz.ntmps69
  go_wp2_with fail
  refine Calls.mono (truth_any _ _) ?_
  rintro _ w1 ⟨rfl, b1⟩
  rw [vB_v]
  have h1 := h0.next b1
  obtain ⟨y0, y1, y2, y3, y4, y5⟩ := h1.1.six
  have zf := h1.1.frozen
  have wl := h1.1.lt
  clear h0 b1
  go_wp2
  exact bodyPost_ret (ret_one rfl (g := w.heap.size) rfl ((h1.set _ _ _ _ _ _).res rfl)) rfl ⟨rfl, (h1.set _ _ _ _ _ _).2⟩
set_option maxRecDepth 100000 in
set_option maxHeartbeats 4000000 in
theorem compared_8 (o : Int) (w : World) : Calls Tryz.prog 69 #[.int .i64 8, .int .i64 o] w fun r w' => r = .returned (vB (o != 0)).v ∧ Below w.heap.size w w' := by
  have h0 := R1.start w #[.int .i64 0, .int .i64 0, .int .i64 0, .string .empty, .bool false, .int .i64 0]
  go_enter Tryz.func69, Tryz.ntmps69
  go_wp2_with fail
  refine Calls.mono (truth_any _ _) ?_
  rintro _ w1 ⟨rfl, b1⟩
  rw [vB_v]
  have h1 := h0.next b1
  obtain ⟨y0, y1, y2, y3, y4, y5⟩ := h1.1.six
  have zf := h1.1.frozen
  have wl := h1.1.lt
  clear h0 b1
  go_wp2
  exact bodyPost_ret (ret_one rfl (g := w.heap.size) rfl ((h1.set _ _ _ _ _ _).res rfl)) rfl ⟨rfl, (h1.set _ _ _ _ _ _).2⟩
set_option maxRecDepth 100000 in
set_option maxHeartbeats 4000000 in
theorem compared_9 (o : Int) (w : World) : Calls Tryz.prog 69 #[.int .i64 9, .int .i64 o] w fun r w' => r = .returned (vB (decide (o < 0))).v ∧ Below w.heap.size w w' := by
  have h0 := R1.start w #[.int .i64 0, .int .i64 0, .int .i64 0, .string .empty, .bool false, .int .i64 0]
  go_enter Tryz.func69, Tryz.ntmps69
  go_wp2_with fail
  refine Calls.mono (truth_any _ _) ?_
  rintro _ w1 ⟨rfl, b1⟩
  rw [vB_v]
  have h1 := h0.next b1
  obtain ⟨y0, y1, y2, y3, y4, y5⟩ := h1.1.six
  have zf := h1.1.frozen
  have wl := h1.1.lt
  clear h0 b1
  go_wp2
  exact bodyPost_ret (ret_one rfl (g := w.heap.size) rfl ((h1.set _ _ _ _ _ _).res rfl)) rfl ⟨rfl, (h1.set _ _ _ _ _ _).2⟩
set_option maxRecDepth 100000 in
set_option maxHeartbeats 4000000 in
theorem compared_10 (o : Int) (w : World) : Calls Tryz.prog 69 #[.int .i64 10, .int .i64 o] w fun r w' => r = .returned (vB (decide (o ≤ 0))).v ∧ Below w.heap.size w w' := by
  have h0 := R1.start w #[.int .i64 0, .int .i64 0, .int .i64 0, .string .empty, .bool false, .int .i64 0]
  go_enter Tryz.func69, Tryz.ntmps69
  go_wp2_with fail
  refine Calls.mono (truth_any _ _) ?_
  rintro _ w1 ⟨rfl, b1⟩
  rw [vB_v]
  have h1 := h0.next b1
  obtain ⟨y0, y1, y2, y3, y4, y5⟩ := h1.1.six
  have zf := h1.1.frozen
  have wl := h1.1.lt
  clear h0 b1
  go_wp2
  exact bodyPost_ret (ret_one rfl (g := w.heap.size) rfl ((h1.set _ _ _ _ _ _).res rfl)) rfl ⟨rfl, (h1.set _ _ _ _ _ _).2⟩
set_option maxRecDepth 100000 in
set_option maxHeartbeats 4000000 in
theorem compared_11 (o : Int) (w : World) : Calls Tryz.prog 69 #[.int .i64 11, .int .i64 o] w fun r w' => r = .returned (vB (decide (0 < o))).v ∧ Below w.heap.size w w' := by
  have h0 := R1.start w #[.int .i64 0, .int .i64 0, .int .i64 0, .string .empty, .bool false, .int .i64 0]
  go_enter Tryz.func69, Tryz.ntmps69
  go_wp2_with fail
  refine Calls.mono (truth_any _ _) ?_
  rintro _ w1 ⟨rfl, b1⟩
  rw [vB_v]
  have h1 := h0.next b1
  obtain ⟨y0, y1, y2, y3, y4, y5⟩ := h1.1.six
  have zf := h1.1.frozen
  have wl := h1.1.lt
  clear h0 b1
  go_wp2
  exact bodyPost_ret (ret_one rfl (g := w.heap.size) rfl ((h1.set _ _ _ _ _ _).res rfl)) rfl ⟨rfl, (h1.set _ _ _ _ _ _).2⟩
set_option maxRecDepth 100000 in
set_option maxHeartbeats 4000000 in
theorem compared_12 (o : Int) (w : World) : Calls Tryz.prog 69 #[.int .i64 12, .int .i64 o] w fun r w' => r = .returned (vB (decide (0 ≤ o))).v ∧ Below w.heap.size w w' := by
  have h0 := R1.start w #[.int .i64 0, .int .i64 0, .int .i64 0, .string .empty, .bool false, .int .i64 0]
  go_enter Tryz.func69, Tryz.ntmps69
  go_wp2_with fail
  refine Calls.mono (truth_any _ _) ?_
  rintro _ w1 ⟨rfl, b1⟩
  rw [vB_v]
  have h1 := h0.next b1
  obtain ⟨y0, y1, y2, y3, y4, y5⟩ := h1.1.six
  have zf := h1.1.frozen
  have wl := h1.1.lt
  clear h0 b1
  go_wp2
  exact bodyPost_ret (ret_one rfl (g := w.heap.size) rfl ((h1.set _ _ _ _ _ _).res rfl)) rfl ⟨rfl, (h1.set _ _ _ _ _ _).2⟩
set_option maxRecDepth 100000 in
set_option maxHeartbeats 4000000 in
theorem compared_none (op o : Int) (h : ¬ (7 ≤ op ∧ op ≤ 12)) (w : World) : Calls Tryz.prog 69 #[.int .i64 op, .int .i64 o] w fun r w' => r = .returned (vX 2).v ∧ Below w.heap.size w w' := by
  have h0 := R1.start w #[.int .i64 0, .int .i64 0, .int .i64 0, .string .empty, .bool false, .int .i64 0]
  have e7 : (op == 7) = false := by simp; omega
  have e8 : (op == 8) = false := by simp; omega
  have e9 : (op == 9) = false := by simp; omega
  have e10 : (op == 10) = false := by simp; omega
  have e11 : (op == 11) = false := by simp; omega
  have e12 : (op == 12) = false := by simp; omega
  clear h
  go_enter Tryz.func69, Tryz.ntmps69
  go_wp2_with fail
  refine Calls.mono (err_any 2 _) ?_
  rintro _ w1 ⟨rfl, b1⟩
  rw [errW2]
  have h1 := h0.next b1
  obtain ⟨y0, y1, y2, y3, y4, y5⟩ := h1.1.six
  have zf := h1.1.frozen
  have wl := h1.1.lt
  clear h0 b1
  go_wp2
  exact bodyPost_ret (ret_one rfl (g := w.heap.size) rfl ((h1.set _ _ _ _ _ _).res rfl)) rfl ⟨rfl, (h1.set _ _ _ _ _ _).2⟩
theorem compared_any (op o : Int) (w : World) : Calls Tryz.prog 69 #[.int .i64 op, .int .i64 o] w fun r w' => r = .returned (cmpV op o).v ∧ Below w.heap.size w w' := by
  unfold cmpV
  by_cases h : 7 ≤ op ∧ op ≤ 12
  · obtain rfl | rfl | rfl | rfl | rfl | rfl : op = 7 ∨ op = 8 ∨ op = 9 ∨ op = 10 ∨ op = 11 ∨ op = 12 := by omega
    · exact compared_7 o w
    · exact compared_8 o w
    · exact compared_9 o w
    · exact compared_10 o w
    · exact compared_11 o w
    · exact compared_12 o w
  · rw [if_neg (by omega), if_neg (by omega), if_neg (by omega), if_neg (by omega), if_neg (by omega), if_neg (by omega)]
    exact compared_none op o h w
end Go.Proofs.YtnhflnpjepiceaaGreatDoor
/- val: Cmp, way by way. -/
namespace Go.Proofs.YtnhflnpjepiceaaGreatDoor
open Go.RowKit

def cmpS (a b : ByteArray) : Int := if Op.bytesLess a.toList b.toList then -1 else if !Op.bytesLess a.toList b.toList && !(a.toList == b.toList) then 1 else 0
set_option maxRecDepth 100000 in
set_option maxHeartbeats 1000000 in
theorem compareS_any (a b : ByteArray) (w : World) : Calls Tryz.prog 77 #[.string a, .string b] w fun e w' => e = .returned (.int .i64 (cmpS a b)) ∧ w' = w := by
  have hn : ∀ (s : ByteArray), (s.toList != s.toList) = false := fun s => by simp
  have ha := hn a
  have hb := hn b
  clear hn
  unfold cmpS
  cases h1 : Op.bytesLess a.toList b.toList
  · cases h2 : (a.toList == b.toList)
    all_goals
      go_enter Tryz.func77, Tryz.ntmps77
      go_wp2
      go_ret
      exact ⟨by simp, rfl⟩
  · go_enter Tryz.func77, Tryz.ntmps77
    go_wp2
    go_ret
    exact ⟨by simp, rfl⟩
set_option maxRecDepth 100000 in
set_option maxHeartbeats 8000000 in
theorem cmp_fail (kA cA eA : Int) (sA : ByteArray) (bA : Bool) (xA : Int) (kB cB eB : Int) (sB : ByteArray) (bB : Bool) (xB : Int) (kP cP eP : Int) (sP : ByteArray) (bP : Bool) (xP : Int) (kQ cQ eQ : Int) (sQ : ByteArray) (bQ : Bool) (xQ : Int) (kF cF eF : Int) (sF : ByteArray) (bF : Bool) (xF : Int)
    (HA : ∀ V, Hid (Calls Tryz.prog 48 #[.agg #[.int .i64 kA, .int .i64 cA, .int .i64 eA, .string sA, .bool bA, .int .i64 xA]] V fun r w' => r = .returned (.agg #[.int .i64 kP, .int .i64 cP, .int .i64 eP, .string sP, .bool bP, .int .i64 xP]) ∧ Below V.heap.size V w')) (HB : ∀ V, Hid (Calls Tryz.prog 48 #[.agg #[.int .i64 kB, .int .i64 cB, .int .i64 eB, .string sB, .bool bB, .int .i64 xB]] V fun r w' => r = .returned (.agg #[.int .i64 kQ, .int .i64 cQ, .int .i64 eQ, .string sQ, .bool bQ, .int .i64 xQ]) ∧ Below V.heap.size V w'))
    (HF : ∀ K V, Row V K 25 (c12 kP cP eP sP bP xP kQ cQ eQ sQ bQ xQ) → Hid (Calls Tryz.prog 62 #[.slice (some ⟨K, 0, none⟩) 2 2] V fun r w' => r = .returned (.tuple #[.agg #[.int .i64 kF, .int .i64 cF, .int .i64 eF, .string sF, .bool bF, .int .i64 xF], .bool true]) ∧ Below V.heap.size V w')) (w : World) :
    Calls Tryz.prog 36 #[.agg #[.int .i64 kA, .int .i64 cA, .int .i64 eA, .string sA, .bool bA, .int .i64 xA], .agg #[.int .i64 kB, .int .i64 cB, .int .i64 eB, .string sB, .bool bB, .int .i64 xB]] w fun r w' => r = .returned (.int .i64 0) ∧ Below w.heap.size w w' := by
  have h0 := PR.start w #[.int .i64 kA, .int .i64 cA, .int .i64 eA, .string sA, .bool bA, .int .i64 xA] #[.int .i64 kB, .int .i64 cB, .int .i64 eB, .string sB, .bool bB, .int .i64 xB]
  go_enter Tryz.func36, Tryz.ntmps36
  go_upto_region 1 with fail
  generalize (w.alloc (.cells #[.int .i64 kA, .int .i64 cA, .int .i64 eA, .string sA, .bool bA, .int .i64 xA] 25)).alloc (.cells #[.int .i64 kB, .int .i64 cB, .int .i64 eB, .string sB, .bool bB, .int .i64 xB] 25) = W at *
  have hS : Below W.heap.size W W.drew := (Below.refl _ W).drew
  have cAt := fun wx (hx : Below W.heap.size W wx) => h0.next hx
  refine wp_region_M (fun wx : World => Below W.heap.size W wx) (fun j => decide (j < 4)) 6 rfl (by kernel_rfl) ?_
  refine wpM_held 0 (v := .agg #[.int .i64 kA, .int .i64 cA, .int .i64 eA, .string sA, .bool bA, .int .i64 xA]) rfl (by kernel_rfl) (by kernel_rfl) rfl (fun _ _ _ h => h) rfl (by intro wx hx; obtain ⟨z0, z1, z2, z3, z4, z5⟩ := (cAt wx hx).1.six; go_simp <;> rfl) hS ?_
  refine wpM_held 2 (v := .agg #[.int .i64 kB, .int .i64 cB, .int .i64 eB, .string sB, .bool bB, .int .i64 xB]) rfl (by kernel_rfl) (by kernel_rfl) rfl (fun _ _ _ h => h) rfl (by intro wx hx; obtain ⟨z0, z1, z2, z3, z4, z5⟩ := (cAt wx hx).2.1.six; go_simp <;> rfl) hS ?_
  refine wpM_one 1 rfl (by kernel_rfl) rfl ?_
  go_wp2_with fail
  refine Calls.mono (HA _).out ?_
  rintro _ wa ⟨rfl, lwa⟩
  have hSa : Below W.heap.size W wa := hS.trans (lwa.mono hS.size)
  go_wp2_with fail
  refine ⟨fun _ => hSa, ?_⟩
  refine wpM_one 3 rfl (by kernel_rfl) rfl ?_
  go_wp2_with fail
  refine Calls.mono (HB _).out ?_
  rintro _ wb ⟨rfl, lwb⟩
  have hSb : Below W.heap.size W wb := hSa.trans (lwb.mono hSa.size)
  have hb := h0.next hSb
  obtain ⟨m0, m1, m2, m3, m4, m5⟩ := hb.1.six
  obtain ⟨n0, n1, n2, n3, n4, n5⟩ := hb.2.1.six
  have mf := hb.1.frozen
  have nf := hb.2.1.frozen
  have ml := hb.1.lt
  have nl := hb.2.1.lt
  go_wp2_with fail
  refine ⟨fun _ => hSb, ?_⟩
  refine wpM_one 4 rfl (by kernel_rfl) rfl ?_
  go_wp2_with fail
  refine ⟨fun h => absurd h (by decide), ?_⟩
  refine wpM_one 5 rfl (by kernel_rfl) rfl ?_
  go_wp2_with fail
  refine ⟨fun h => absurd h (by decide), ?_⟩
  refine wpM_done (by kernel_rfl) ?_
  have h1 := (hb.setP (.int .i64 kP) (.int .i64 cP) (.int .i64 eP) (.string sP) (.bool bP) (.int .i64 xP)).setR (.int .i64 kQ) (.int .i64 cQ) (.int .i64 eQ) (.string sQ) (.bool bQ) (.int .i64 xQ)
  clear hS cAt lwa hSa lwb hSb m0 m1 m2 m3 m4 m5 n0 n1 n2 n3 n4 n5 mf nf ml nl hb h0
  generalize ((((((((((((wb.setCell ⟨w.heap.size, 0, none⟩ (.int .i64 kP)).setCell ⟨w.heap.size, 1, none⟩ (.int .i64 cP)).setCell ⟨w.heap.size, 2, none⟩ (.int .i64 eP)).setCell ⟨w.heap.size, 3, none⟩ (.string sP)).setCell ⟨w.heap.size, 4, none⟩ (.bool bP)).setCell ⟨w.heap.size, 5, none⟩ (.int .i64 xP)).setCell ⟨w.heap.size + 1, 0, none⟩ (.int .i64 kQ)).setCell ⟨w.heap.size + 1, 1, none⟩ (.int .i64 cQ)).setCell ⟨w.heap.size + 1, 2, none⟩ (.int .i64 eQ)).setCell ⟨w.heap.size + 1, 3, none⟩ (.string sQ)).setCell ⟨w.heap.size + 1, 4, none⟩ (.bool bQ)).setCell ⟨w.heap.size + 1, 5, none⟩ (.int .i64 xQ)) = W1 at *
  have hK := Row.new W1 25 (c12 kP cP eP sP bP xP kQ cQ eQ sQ bQ xQ)
  have hA1 : Below W1.heap.size W1 (W1.alloc (.cells (c12 kP cP eP sP bP xP kQ cQ eQ sQ bQ xQ) 25)) := (Below.refl _ W1).alloc (Nat.le_refl _) _
  have HFa := (HF _ _ hK)
  have h2 := h1.next hA1
  unfold c12 at hK hA1 HFa h2
  obtain ⟨m0, m1, m2, m3, m4, m5⟩ := h1.1.six
  obtain ⟨n0, n1, n2, n3, n4, n5⟩ := h1.2.1.six
  go_wp2_with fail
  refine Calls.mono HFa.out ?_
  rintro _ w3 ⟨rfl, lw3⟩
  have h3 := (h2.next lw3).next ((Below.refl _ w3).alloc (Nat.le_refl _) (.cells #[.int .i64 kF, .int .i64 cF, .int .i64 eF, .string sF, .bool bF, .int .i64 xF] 25))
  clear hK hA1 HFa h2 lw3 m0 m1 m2 m3 m4 m5 n0 n1 n2 n3 n4 n5 h1 HF HA HB
  go_wp2
  go_ret
  exact ⟨rfl, h3.2.2⟩
set_option maxRecDepth 100000 in
set_option maxHeartbeats 8000000 in
theorem cmp_kinds (kA cA eA : Int) (sA : ByteArray) (bA : Bool) (xA : Int) (kB cB eB : Int) (sB : ByteArray) (bB : Bool) (xB : Int) (kP cP eP : Int) (sP : ByteArray) (bP : Bool) (xP : Int) (kQ cQ eQ : Int) (sQ : ByteArray) (bQ : Bool) (xQ : Int) (kX cX eX : Int) (sX : ByteArray) (bX : Bool) (xX : Int) (kY cY eY : Int) (sY : ByteArray) (bY : Bool) (xY : Int)
    (HA : ∀ V, Hid (Calls Tryz.prog 48 #[.agg #[.int .i64 kA, .int .i64 cA, .int .i64 eA, .string sA, .bool bA, .int .i64 xA]] V fun r w' => r = .returned (.agg #[.int .i64 kP, .int .i64 cP, .int .i64 eP, .string sP, .bool bP, .int .i64 xP]) ∧ Below V.heap.size V w')) (HB : ∀ V, Hid (Calls Tryz.prog 48 #[.agg #[.int .i64 kB, .int .i64 cB, .int .i64 eB, .string sB, .bool bB, .int .i64 xB]] V fun r w' => r = .returned (.agg #[.int .i64 kQ, .int .i64 cQ, .int .i64 eQ, .string sQ, .bool bQ, .int .i64 xQ]) ∧ Below V.heap.size V w'))
    (HF : ∀ K V, Row V K 25 (c12 kP cP eP sP bP xP kQ cQ eQ sQ bQ xQ) → Hid (Calls Tryz.prog 62 #[.slice (some ⟨K, 0, none⟩) 2 2] V fun r w' => r = .returned (.tuple #[.agg #[.int .i64 0, .int .i64 0, .int .i64 0, .string .empty, .bool false, .int .i64 0], .bool false]) ∧ Below V.heap.size V w'))
    (HX : ∀ V, Hid (Calls Tryz.prog 75 #[.agg #[.int .i64 kP, .int .i64 cP, .int .i64 eP, .string sP, .bool bP, .int .i64 xP], .agg #[.int .i64 kQ, .int .i64 cQ, .int .i64 eQ, .string sQ, .bool bQ, .int .i64 xQ]] V fun r w' => r = .returned (.agg #[.int .i64 kX, .int .i64 cX, .int .i64 eX, .string sX, .bool bX, .int .i64 xX]) ∧ Below V.heap.size V w')) (HY : ∀ V, Hid (Calls Tryz.prog 75 #[.agg #[.int .i64 kQ, .int .i64 cQ, .int .i64 eQ, .string sQ, .bool bQ, .int .i64 xQ], .agg #[.int .i64 kP, .int .i64 cP, .int .i64 eP, .string sP, .bool bP, .int .i64 xP]] V fun r w' => r = .returned (.agg #[.int .i64 kY, .int .i64 cY, .int .i64 eY, .string sY, .bool bY, .int .i64 xY]) ∧ Below V.heap.size V w')) (hk : ¬ kX = kY) (w : World) :
    Calls Tryz.prog 36 #[.agg #[.int .i64 kA, .int .i64 cA, .int .i64 eA, .string sA, .bool bA, .int .i64 xA], .agg #[.int .i64 kB, .int .i64 cB, .int .i64 eB, .string sB, .bool bB, .int .i64 xB]] w fun r w' => r = .returned (.int .i64 (Lib.compareInt kX kY)) ∧ Below w.heap.size w w' := by
  have h0 := PR.start w #[.int .i64 kA, .int .i64 cA, .int .i64 eA, .string sA, .bool bA, .int .i64 xA] #[.int .i64 kB, .int .i64 cB, .int .i64 eB, .string sB, .bool bB, .int .i64 xB]
  go_enter Tryz.func36, Tryz.ntmps36
  go_upto_region 1 with fail
  generalize (w.alloc (.cells #[.int .i64 kA, .int .i64 cA, .int .i64 eA, .string sA, .bool bA, .int .i64 xA] 25)).alloc (.cells #[.int .i64 kB, .int .i64 cB, .int .i64 eB, .string sB, .bool bB, .int .i64 xB] 25) = W at *
  have hS : Below W.heap.size W W.drew := (Below.refl _ W).drew
  have cAt := fun wx (hx : Below W.heap.size W wx) => h0.next hx
  refine wp_region_M (fun wx : World => Below W.heap.size W wx) (fun j => decide (j < 4)) 6 rfl (by kernel_rfl) ?_
  refine wpM_held 0 (v := .agg #[.int .i64 kA, .int .i64 cA, .int .i64 eA, .string sA, .bool bA, .int .i64 xA]) rfl (by kernel_rfl) (by kernel_rfl) rfl (fun _ _ _ h => h) rfl (by intro wx hx; obtain ⟨z0, z1, z2, z3, z4, z5⟩ := (cAt wx hx).1.six; go_simp <;> rfl) hS ?_
  refine wpM_held 2 (v := .agg #[.int .i64 kB, .int .i64 cB, .int .i64 eB, .string sB, .bool bB, .int .i64 xB]) rfl (by kernel_rfl) (by kernel_rfl) rfl (fun _ _ _ h => h) rfl (by intro wx hx; obtain ⟨z0, z1, z2, z3, z4, z5⟩ := (cAt wx hx).2.1.six; go_simp <;> rfl) hS ?_
  refine wpM_one 1 rfl (by kernel_rfl) rfl ?_
  go_wp2_with fail
  refine Calls.mono (HA _).out ?_
  rintro _ wa ⟨rfl, lwa⟩
  have hSa : Below W.heap.size W wa := hS.trans (lwa.mono hS.size)
  go_wp2_with fail
  refine ⟨fun _ => hSa, ?_⟩
  refine wpM_one 3 rfl (by kernel_rfl) rfl ?_
  go_wp2_with fail
  refine Calls.mono (HB _).out ?_
  rintro _ wb ⟨rfl, lwb⟩
  have hSb : Below W.heap.size W wb := hSa.trans (lwb.mono hSa.size)
  have hb := h0.next hSb
  obtain ⟨m0, m1, m2, m3, m4, m5⟩ := hb.1.six
  obtain ⟨n0, n1, n2, n3, n4, n5⟩ := hb.2.1.six
  have mf := hb.1.frozen
  have nf := hb.2.1.frozen
  have ml := hb.1.lt
  have nl := hb.2.1.lt
  go_wp2_with fail
  refine ⟨fun _ => hSb, ?_⟩
  refine wpM_one 4 rfl (by kernel_rfl) rfl ?_
  go_wp2_with fail
  refine ⟨fun h => absurd h (by decide), ?_⟩
  refine wpM_one 5 rfl (by kernel_rfl) rfl ?_
  go_wp2_with fail
  refine ⟨fun h => absurd h (by decide), ?_⟩
  refine wpM_done (by kernel_rfl) ?_
  have h1 := (hb.setP (.int .i64 kP) (.int .i64 cP) (.int .i64 eP) (.string sP) (.bool bP) (.int .i64 xP)).setR (.int .i64 kQ) (.int .i64 cQ) (.int .i64 eQ) (.string sQ) (.bool bQ) (.int .i64 xQ)
  clear hS cAt lwa hSa lwb hSb m0 m1 m2 m3 m4 m5 n0 n1 n2 n3 n4 n5 mf nf ml nl hb h0
  generalize ((((((((((((wb.setCell ⟨w.heap.size, 0, none⟩ (.int .i64 kP)).setCell ⟨w.heap.size, 1, none⟩ (.int .i64 cP)).setCell ⟨w.heap.size, 2, none⟩ (.int .i64 eP)).setCell ⟨w.heap.size, 3, none⟩ (.string sP)).setCell ⟨w.heap.size, 4, none⟩ (.bool bP)).setCell ⟨w.heap.size, 5, none⟩ (.int .i64 xP)).setCell ⟨w.heap.size + 1, 0, none⟩ (.int .i64 kQ)).setCell ⟨w.heap.size + 1, 1, none⟩ (.int .i64 cQ)).setCell ⟨w.heap.size + 1, 2, none⟩ (.int .i64 eQ)).setCell ⟨w.heap.size + 1, 3, none⟩ (.string sQ)).setCell ⟨w.heap.size + 1, 4, none⟩ (.bool bQ)).setCell ⟨w.heap.size + 1, 5, none⟩ (.int .i64 xQ)) = W1 at *
  have hK := Row.new W1 25 (c12 kP cP eP sP bP xP kQ cQ eQ sQ bQ xQ)
  have hA1 : Below W1.heap.size W1 (W1.alloc (.cells (c12 kP cP eP sP bP xP kQ cQ eQ sQ bQ xQ) 25)) := (Below.refl _ W1).alloc (Nat.le_refl _) _
  have HFa := (HF _ _ hK)
  have h2 := h1.next hA1
  unfold c12 at hK hA1 HFa h2
  obtain ⟨m0, m1, m2, m3, m4, m5⟩ := h1.1.six
  obtain ⟨n0, n1, n2, n3, n4, n5⟩ := h1.2.1.six
  go_wp2_with fail
  refine Calls.mono HFa.out ?_
  rintro _ w3 ⟨rfl, lw3⟩
  have h3 := (h2.next lw3).next ((Below.refl _ w3).alloc (Nat.le_refl _) (.cells #[.int .i64 0, .int .i64 0, .int .i64 0, .string .empty, .bool false, .int .i64 0] 25))
  clear hK hA1 HFa h2 lw3 m0 m1 m2 m3 m4 m5 n0 n1 n2 n3 n4 n5 h1 HF HA HB
  go_upto_region 5 with fail
  generalize w3.alloc (.cells #[.int .i64 0, .int .i64 0, .int .i64 0, .string .empty, .bool false, .int .i64 0] 25) = W2 at *
  have hS : Below W2.heap.size W2 W2.drew := (Below.refl _ W2).drew
  have cAt := fun wx (hx : Below W2.heap.size W2 wx) => h3.next hx
  refine wp_region_M (fun wx : World => Below W2.heap.size W2 wx) (fun j => decide (j < 6)) 8 rfl (by kernel_rfl) ?_
  refine wpM_held 0 (v := .agg #[.int .i64 kP, .int .i64 cP, .int .i64 eP, .string sP, .bool bP, .int .i64 xP]) rfl (by kernel_rfl) (by kernel_rfl) rfl (fun _ _ _ h => h) rfl (by intro wx hx; obtain ⟨z0, z1, z2, z3, z4, z5⟩ := (cAt wx hx).1.six; go_simp <;> rfl) hS ?_
  refine wpM_held 1 (v := .agg #[.int .i64 kQ, .int .i64 cQ, .int .i64 eQ, .string sQ, .bool bQ, .int .i64 xQ]) rfl (by kernel_rfl) (by kernel_rfl) rfl (fun _ _ _ h => h) rfl (by intro wx hx; obtain ⟨z0, z1, z2, z3, z4, z5⟩ := (cAt wx hx).2.1.six; go_simp <;> rfl) hS ?_
  refine wpM_held 3 (v := .agg #[.int .i64 kQ, .int .i64 cQ, .int .i64 eQ, .string sQ, .bool bQ, .int .i64 xQ]) rfl (by kernel_rfl) (by kernel_rfl) rfl (fun _ _ _ h => h) rfl (by intro wx hx; obtain ⟨z0, z1, z2, z3, z4, z5⟩ := (cAt wx hx).2.1.six; go_simp <;> rfl) hS ?_
  refine wpM_held 4 (v := .agg #[.int .i64 kP, .int .i64 cP, .int .i64 eP, .string sP, .bool bP, .int .i64 xP]) rfl (by kernel_rfl) (by kernel_rfl) rfl (fun _ _ _ h => h) rfl (by intro wx hx; obtain ⟨z0, z1, z2, z3, z4, z5⟩ := (cAt wx hx).1.six; go_simp <;> rfl) hS ?_
  refine wpM_one 2 rfl (by kernel_rfl) rfl ?_
  go_wp2_with fail
  refine Calls.mono (HX _).out ?_
  rintro _ wa ⟨rfl, lwa⟩
  have hSa : Below W2.heap.size W2 wa := hS.trans (lwa.mono hS.size)
  go_wp2_with fail
  refine ⟨fun _ => hSa, ?_⟩
  refine wpM_one 5 rfl (by kernel_rfl) rfl ?_
  go_wp2_with fail
  refine Calls.mono (HY _).out ?_
  rintro _ wb ⟨rfl, lwb⟩
  have hSb : Below W2.heap.size W2 wb := hSa.trans (lwb.mono hSa.size)
  have hb := h3.next hSb
  obtain ⟨m0, m1, m2, m3, m4, m5⟩ := hb.1.six
  obtain ⟨n0, n1, n2, n3, n4, n5⟩ := hb.2.1.six
  have mf := hb.1.frozen
  have nf := hb.2.1.frozen
  have ml := hb.1.lt
  have nl := hb.2.1.lt
  go_wp2_with fail
  refine ⟨fun _ => hSb, ?_⟩
  refine wpM_one 6 rfl (by kernel_rfl) rfl ?_
  go_wp2_with fail
  refine ⟨fun h => absurd h (by decide), ?_⟩
  refine wpM_one 7 rfl (by kernel_rfl) rfl ?_
  go_wp2_with fail
  refine ⟨fun h => absurd h (by decide), ?_⟩
  refine wpM_done (by kernel_rfl) ?_
  have h4 := (hb.setP (.int .i64 kX) (.int .i64 cX) (.int .i64 eX) (.string sX) (.bool bX) (.int .i64 xX)).setR (.int .i64 kY) (.int .i64 cY) (.int .i64 eY) (.string sY) (.bool bY) (.int .i64 xY)
  clear hS cAt lwa hSa lwb hSb m0 m1 m2 m3 m4 m5 n0 n1 n2 n3 n4 n5 mf nf ml nl hb h3
  generalize ((((((((((((wb.setCell ⟨w.heap.size, 0, none⟩ (.int .i64 kX)).setCell ⟨w.heap.size, 1, none⟩ (.int .i64 cX)).setCell ⟨w.heap.size, 2, none⟩ (.int .i64 eX)).setCell ⟨w.heap.size, 3, none⟩ (.string sX)).setCell ⟨w.heap.size, 4, none⟩ (.bool bX)).setCell ⟨w.heap.size, 5, none⟩ (.int .i64 xX)).setCell ⟨w.heap.size + 1, 0, none⟩ (.int .i64 kY)).setCell ⟨w.heap.size + 1, 1, none⟩ (.int .i64 cY)).setCell ⟨w.heap.size + 1, 2, none⟩ (.int .i64 eY)).setCell ⟨w.heap.size + 1, 3, none⟩ (.string sY)).setCell ⟨w.heap.size + 1, 4, none⟩ (.bool bY)).setCell ⟨w.heap.size + 1, 5, none⟩ (.int .i64 xY)) = W4 at *
  clear HX HY
  obtain ⟨m0, m1, m2, m3, m4, m5⟩ := h4.1.six
  obtain ⟨n0, n1, n2, n3, n4, n5⟩ := h4.2.1.six
  have hk2 : (kX != kY) = true := by simpa using hk
  go_wp2_with fail
  refine Calls.mono (Tryz.cmp_Compare_int _ _ _) ?_
  rintro _ w5 ⟨rfl, rfl⟩
  go_wp2
  go_ret
  exact ⟨rfl, h4.2.2⟩
end Go.Proofs.YtnhflnpjepiceaaGreatDoor
