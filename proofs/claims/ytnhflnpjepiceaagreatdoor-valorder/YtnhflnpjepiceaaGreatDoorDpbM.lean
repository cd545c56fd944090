import Derived.Test.YtnhflnpjepiceaaGreatDoorDpa
import Derived.Test.YtnhflnpjepiceaaGreatDoorVtk
import Derived.Test.YtnhflnpjepiceaaGreatDoorSh3
/- dec's Parse, whole. -/
namespace Go.Proofs.YtnhflnpjepiceaaGreatDoor
open Go.RowKit Go.Shelf

set_option maxRecDepth 100000 in
set_option maxHeartbeats 400000 in
theorem parse_long (l : List UInt8) (hl : 255 < (bs l).size) (w : World) :
    Calls Tryz.prog 60 #[.string (bs l)] w fun e w' => e = .returned (.tuple #[dv 0 0, .int .i64 40]) ∧ Below w.heap.size w w' := by
  have t1 : (255 : Int) < ((bs l).size : Int) := by omega
  clear hl
  go_enter Tryz.func60, Tryz.ntmps60
  go_wp2
  refine bodyPost_ret (ret_cells rfl (g := w.heap.size) (g2 := w.heap.size + 1) rfl rfl (load23 ((Row.new w 23 _).alloc _) rfl) (loadE (Row.new1 w _ 35 _))) rfl ⟨rfl, ?_⟩
  exact ((Below.refl _ w).alloc (Nat.le_refl _) _).alloc (by simp) _
set_option maxRecDepth 100000 in
set_option maxHeartbeats 400000 in
theorem parse_bad (l : List UInt8) (x : Wr) (hl : (bs l).size ≤ 255) (w : World)
    (HR : ∀ W, Hid (Calls Tryz.prog 103 #[.string (bs l)] W fun e w' => e = .returned (.tuple #[x.v, .bool false]) ∧ Below W.heap.size W w')) :
    Calls Tryz.prog 60 #[.string (bs l)] w fun e w' => e = .returned (.tuple #[dv 0 0, .int .i64 40]) ∧ Below w.heap.size w w' := by
  have t1 : decide ((255 : Int) < ((bs l).size : Int)) = false := decide_eq_false (by omega)
  clear hl
  unfold Wr.v Wr.cells at HR
  go_enter Tryz.func60, Tryz.ntmps60
  go_wp2_with fail
  refine Calls.mono (HR _).out ?_
  rintro _ w1 ⟨rfl, b1⟩
  obtain ⟨h2, h3, hB⟩ := two_rows w w1 _ _ _ _ b1
  clear b1 HR
  have e2 := h2.cell (i := 0) (v := .int .i64 0) rfl
  have e21 := h2.cell (i := 1) (v := .int .i64 0) rfl
  have e3 := h3.cell (i := 0) (v := .int .i64 0) rfl
  have f2 := h2.frozen
  have f3 := h3.frozen
  have l3 := h3.lt
  have l2 := h2.lt
  have k2 := (((h2.set 0 (.int .i64 0)).set 1 (.int .i64 0)).off (B' := w.heap.size + 1) 0 (.int .i64 40) (by omega)).alloc (.cells #[.bool x.neg, .string (bs x.whole), .string (bs x.part), .int .i64 x.e] 97)
  have k3 := (((h3.off (B' := w.heap.size) 0 (.int .i64 0) (by omega)).off (B' := w.heap.size) 1 (.int .i64 0) (by omega)).set 0 (.int .i64 40)).alloc (.cells #[.bool x.neg, .string (bs x.whole), .string (bs x.part), .int .i64 x.e] 97)
  have kB := below_allocS (below_set (below_set (below_set hB (B := w.heap.size) 0 (.int .i64 0) (Nat.le_refl _)) (B := w.heap.size) 1 (.int .i64 0) (Nat.le_refl _)) (B := w.heap.size + 1) 0 (.int .i64 40) (by omega)) (.cells #[.bool x.neg, .string (bs x.whole), .string (bs x.part), .int .i64 x.e] 97)
  clear h2 h3 hB
  go_wp2
  exact bodyPost_ret (ret_cells rfl (g := w.heap.size) (g2 := w.heap.size + 1) rfl rfl (load23 k2 rfl) (loadE k3)) rfl ⟨rfl, kB⟩
theorem expR_bd (l : List UInt8) : -999 ≤ (expR l).1 ∧ (expR l).1 ≤ 999 := by
  unfold expR
  cases l with
  | nil => simp
  | cons a r =>
    simp only
    split
    · split
      · rename_i h
        simp only [Bool.and_eq_true, decide_eq_true_eq] at h
        have hb := rowN_lt 3 (aheadL (expD r) digL) (fun b hb => (dig_bounds (ahead_mem hb)).2)
        rw [List.take_of_length_le (by omega)] at hb
        simp only
        split <;> omega
      · simp
    · simp
theorem expO_bd (l : List UInt8) : -999 ≤ (expO l).1 ∧ (expO l).1 ≤ 999 := by
  unfold expO
  split
  · simp
  · exact expR_bd l
theorem readR_ok (l : List UInt8) : (-1000 ≤ (readR l).1.e ∧ (readR l).1.e ≤ 1000) ∧ (readR l).1.whole.length + (readR l).1.part.length ≤ l.length ∧ ∀ b ∈ (readR l).1.whole ++ (readR l).1.part, 48 ≤ b.toNat ∧ b.toNat ≤ 57 := by
  have h1 := trim_len l [45]
  have h2 := ahead_len (Lib.trimPrefix l [45]) digL
  have h3 : (partR (behL (Lib.trimPrefix l [45]) digL)).1.length ≤ (behL (Lib.trimPrefix l [45]) digL).length ∧ ∀ b ∈ (partR (behL (Lib.trimPrefix l [45]) digL)).1, 48 ≤ b.toNat ∧ b.toNat ≤ 57 := by
    generalize behL (Lib.trimPrefix l [45]) digL = m
    unfold partR
    split
    · have g1 := trim_len m [46]
      have g2 := ahead_len (Lib.trimPrefix m [46]) digL
      exact ⟨by simp only; omega, fun b hb => dig_bounds (ahead_mem hb)⟩
    · simp
  refine ⟨?_, ?_, ?_⟩
  · have := expO_bd (partR (behL (Lib.trimPrefix l [45]) digL)).2.1
    show -1000 ≤ (expO (partR (behL (Lib.trimPrefix l [45]) digL)).2.1).1 ∧ (expO (partR (behL (Lib.trimPrefix l [45]) digL)).2.1).1 ≤ 1000
    omega
  · show (aheadL (Lib.trimPrefix l [45]) digL).length + (partR (behL (Lib.trimPrefix l [45]) digL)).1.length ≤ l.length
    omega
  · intro b hb
    rcases List.mem_append.1 hb with hb | hb
    · exact dig_bounds (ahead_mem (l := Lib.trimPrefix l [45]) hb)
    · exact h3.2 b hb
/-- dec's Parse: the number, or what is wrong. -/
theorem dparse_any (l : List UInt8) (hl : l.length ≤ 140737488351232) (w : World) :
    Calls Tryz.prog 60 #[.string (bs l)] w fun e w' => e = .returned (decPv l) ∧ Below w.heap.size w w' := by
  unfold decPv
  by_cases h : 255 < l.length
  · rw [decide_eq_true h]
    exact parse_long l (by rw [bs_size]; exact h) w
  · rw [decide_eq_false h]
    have hR : ∀ W, Hid _ := fun W => dread_any l hl W
    obtain ⟨h1, h2, h3⟩ := readR_ok l
    cases hb : (readR l).2
    · rw [hb] at hR
      exact parse_bad l (readR l).1 (by rw [bs_size]; omega) w hR
    · rw [hb] at hR
      exact callsIn_wide.1 (parse_ok l (readR l).1 (by rw [bs_size]; omega) h1 (by omega) h3 w hR _ rfl)
end Go.Proofs.YtnhflnpjepiceaaGreatDoor
/- val: numberOf; a text as a number. -/
namespace Go.Proofs.YtnhflnpjepiceaaGreatDoor
open Go.RowKit

/-- The block of a call's result. -/
def R1 (w W : World) (q : Array Value) : Prop := Row W w.heap.size 25 q ∧ Below w.heap.size w W
theorem R1.start (w : World) (q : Array Value) : R1 w (w.alloc (.cells q 25)) q := ⟨Row.new w 25 q, (Below.refl _ w).alloc (Nat.le_refl _) _⟩
theorem R1.next {w W W' : World} {q : Array Value} (h : R1 w W q) (b : Below W.heap.size W W') : R1 w W' q := ⟨h.1.below b h.1.lt, h.2.trans (b.mono h.2.size)⟩
theorem R1.drew {w W : World} {q : Array Value} (h : R1 w W q) : R1 w W.drew q := h.next (Below.refl _ W).drew
theorem R1.or {w W W' : World} {q : Array Value} (h : R1 w W q) (e : W' = W ∨ W' = W.drew) : R1 w W' q := by
  rcases e with rfl | rfl
  · exact h
  · exact h.drew
theorem R1.alloc {w W : World} {q : Array Value} (h : R1 w W q) (o : Obj) : R1 w (W.alloc o) q := h.next ((Below.refl _ W).alloc (Nat.le_refl _) _)
theorem R1.set {w W : World} {a b c d e f : Value} (h : R1 w W #[a, b, c, d, e, f]) (a' b' c' d' e' f' : Value) :
    R1 w ((((((W.setCell ⟨w.heap.size, 0, none⟩ a').setCell ⟨w.heap.size, 1, none⟩ b').setCell ⟨w.heap.size, 2, none⟩ c').setCell ⟨w.heap.size, 3, none⟩ d').setCell ⟨w.heap.size, 4, none⟩ e').setCell ⟨w.heap.size, 5, none⟩ f') #[a', b', c', d', e', f'] :=
  ⟨h.1.set6 _ _ _ _ _ _, below_set6 h.2 (Nat.le_refl _) _ _ _ _ _ _⟩
theorem R1.res {w W : World} {q : Array Value} (h : R1 w W q) (hs : q.size = 6) : (loadVar 25 ⟨w.heap.size, 0, none⟩).run Tryz.prog W = .ok (.agg q) W := load25 h.1 hs

/-- What Parse answers: the Dec and the error. -/
def parseQ (l : List UInt8) : Int × Int × Int := if decide (255 < l.length) || !(readR l).2 then (0, 0, 40) else match parsedD l with | some (c, e) => (c, e, 0) | none => (0, 0, 30)
theorem parseQ_v (l : List UInt8) : decPv l = .tuple #[.agg #[.int .i64 (parseQ l).1, .int .i64 (parseQ l).2.1], .int .i64 (parseQ l).2.2] := by
  unfold decPv parseQ
  split
  · rfl
  · cases h : parsedD l with
    | none => rfl
    | some d => rfl
theorem parseQ_bd (l : List UInt8) : I64 (parseQ l).1 := by
  unfold parseQ
  split
  · exact ⟨by decide, by decide⟩
  · cases h : parsedD l with
    | none => exact ⟨by decide, by decide⟩
    | some d =>
      obtain ⟨C, E⟩ := d
      unfold parsedD at h
      split at h
      · cases h
      · rename_i y _
        by_cases h0 : y.n = 0
        · rw [h0, tellW_zero] at h
          cases h
          exact ⟨by decide, by decide⟩
        · obtain ⟨_, _, _, _, h5, h6, _⟩ := tellW_some h h0
          exact ⟨h5, h6⟩
theorem parse_val (l : List UInt8) (hl : l.length ≤ 140737488351232) (w : World) :
    Calls Tryz.prog 60 #[.string (bs l)] w fun e w' => e = .returned (.tuple #[.agg #[.int .i64 (parseQ l).1, .int .i64 (parseQ l).2.1], .int .i64 (parseQ l).2.2]) ∧ Below w.heap.size w w' := by
  have := dparse_any l hl w
  rw [parseQ_v] at this
  exact this
def trimT (s : ByteArray) : List UInt8 := Lib.trimB s.data.toList 32
theorem dropWhile_len {α : Type} (p : α → Bool) (l : List α) : (l.dropWhile p).length ≤ l.length := List.IsSuffix.length_le (List.dropWhile_suffix p)
theorem trimT_len (s : ByteArray) : (trimT s).length ≤ s.size := by
  unfold trimT Lib.trimB Lib.trimLeftB Lib.trimRightB
  have h1 := dropWhile_len (· == 32) s.data.toList.reverse
  have h2 := dropWhile_len (· == 32) (s.data.toList.reverse.dropWhile (· == (32 : UInt8))).reverse
  have h3 : s.size = s.data.toList.length := rfl
  simp only [List.length_reverse] at *
  omega
def numT (s : ByteArray) : Vl := if (parseQ (trimT s)).2.2 = 40 then vX 2 else ofW (parseQ (trimT s)).1 (parseQ (trimT s)).2.1 (parseQ (trimT s)).2.2
/-- Any value that Of may answer. -/
theorem ofW_form (c e er : Int) : ∃ k c' e' x, (ofW c e er).v = .agg #[.int .i64 k, .int .i64 c', .int .i64 e', .string .empty, .bool false, .int .i64 x] := by
  unfold ofW
  split
  · exact ⟨_, _, _, _, rfl⟩
  · split <;> exact ⟨_, _, _, _, rfl⟩
set_option maxRecDepth 100000 in
set_option maxHeartbeats 1200000 in
theorem numberOf_any (s : ByteArray) (hs : s.size ≤ 255) (w : World) : Calls Tryz.prog 49 #[.string s] w fun r w' => r = .returned (numT s).v ∧ Below w.heap.size w w' := by
  have HT : ∀ V, Hid (Calls Tryz.prog 91 #[.string s, .string ⟨#[32]⟩] V fun e w' => e = .returned (.string (bs (trimT s))) ∧ (w' = V ∨ w' = V.drew)) := fun V => Tryz.strings_Trim_one s 32 (by decide) V (by omega)
  have HP : ∀ V, Hid (Calls Tryz.prog 60 #[.string (bs (trimT s))] V fun e w' => e = .returned (.tuple #[.agg #[.int .i64 (parseQ (trimT s)).1, .int .i64 (parseQ (trimT s)).2.1], .int .i64 (parseQ (trimT s)).2.2]) ∧ Below V.heap.size V w') := fun V => parse_val _ (by have := trimT_len s; omega) V
  have hbd := parseQ_bd (trimT s)
  unfold numT
  generalize bs (trimT s) = t at *
  obtain ⟨c, hc⟩ : ∃ c, (parseQ (trimT s)).1 = c := ⟨_, rfl⟩
  obtain ⟨e, he⟩ : ∃ e, (parseQ (trimT s)).2.1 = e := ⟨_, rfl⟩
  obtain ⟨er, her⟩ : ∃ er, (parseQ (trimT s)).2.2 = er := ⟨_, rfl⟩
  rw [hc] at hbd
  simp only [hc, he, her] at HP ⊢
  clear hc he her hs
  have HO : ∀ V, Hid (Calls Tryz.prog 23 #[.agg #[.int .i64 c, .int .i64 e], .int .i64 er] V fun r w' => r = .returned (ofW c e er).v ∧ Below V.heap.size V w') := fun V => of_val c e er hbd V
  clear hbd
  have h0 := R1.start w #[.int .i64 0, .int .i64 0, .int .i64 0, .string .empty, .bool false, .int .i64 0]
  go_enter Tryz.func49, Tryz.ntmps49
  go_wp2_with fail
  refine Calls.mono (HT _).out ?_
  rintro _ w1 ⟨rfl, e1⟩
  have h1 := h0.or e1
  clear e1 h0 HT
  go_wp2_with fail
  refine Calls.mono (HP _).out ?_
  rintro _ w2 ⟨rfl, b2⟩
  have h2 := (h1.next b2).alloc (.cells #[.int .i64 c, .int .i64 e] 23)
  clear b2 h1 HP
  by_cases e40 : er = 40
  · subst e40
    go_wp2_with fail
    refine Calls.mono (err_any 2 _) ?_
    rintro _ w3 ⟨rfl, b3⟩
    rw [errW2]
    have h3 := h2.next b3
    obtain ⟨y0, y1, y2, y3, y4, y5⟩ := h3.1.six
    have zf := h3.1.frozen
    have wl := h3.1.lt
    clear b3 h2 HO
    go_wp2
    exact bodyPost_ret (ret_one rfl (g := w.heap.size) rfl ((h3.set _ _ _ _ _ _).res rfl)) rfl ⟨rfl, (h3.set _ _ _ _ _ _).2⟩
  · have e4 : (er == 40) = false := by simpa using e40
    go_wp2_with fail
    refine Calls.mono (HO _).out ?_
    rintro _ w3 ⟨rfl, b3⟩
    obtain ⟨k', c', e', x', hv⟩ := ofW_form c e er
    rw [hv]
    have h3 := h2.next b3
    obtain ⟨y0, y1, y2, y3, y4, y5⟩ := h3.1.six
    have zf := h3.1.frozen
    have wl := h3.1.lt
    clear b3 h2 HO
    go_wp2
    exact bodyPost_ret (ret_one rfl (g := w.heap.size) rfl ((h3.set _ _ _ _ _ _).res rfl)) rfl ⟨by first | rfl | rw [if_neg e40, hv], (h3.set _ _ _ _ _ _).2⟩
end Go.Proofs.YtnhflnpjepiceaaGreatDoor
