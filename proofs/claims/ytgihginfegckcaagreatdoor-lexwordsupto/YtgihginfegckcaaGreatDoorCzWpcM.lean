import Derived.Test.YtgihginfegckcaaGreatDoorMwdM
import Derived.Lib.AppendIntMem
import Derived.Lib.SmallJoins
import Derived.Laws.OwnMore
import Derived.Test.YtgihginfegckcaaGreatDoorLlxM
import Derived.Maps.AppendAt
/- What the library reads; fixed, place. -/
namespace Go.Proofs.YtgihginfegckcaaGreatDoor
open Go.RowKit

/-- The library's table of powers, and its own variable, lie as they lay. -/
structure Env (w : World) : Prop where
  tab : Lib.TabIs Tryz.prog w "internal/strconv.uint64pow10" .u64 Lib.pow10Tab
  max : ∃ m, w.cell? ⟨0, 0, none⟩ = some (.int .i64 m)
theorem Env.below {w w' : World} (h : Env w) (hB : Below w.heap.size w w') : Env w' := by
  refine ⟨Lib.tabBelow_of_tabIs h.tab w' hB, ?_⟩
  obtain ⟨m, hm⟩ := h.max
  exact ⟨m, (World.cell?_of_block (w := w) (hB.block 0 (cell_lt hm))).trans hm⟩
end Go.Proofs.YtgihginfegckcaaGreatDoor
/- Texts of references, there and back. -/
namespace Go.Proofs.YtgihginfegckcaaGreatDoor
open Go.RowKit

theorem ahead_app (u v cs : List UInt8) (hu : ∀ b ∈ u, cs.contains b = true) (hv : ∀ b r, v = b :: r → cs.contains b = false) : aheadL (u ++ v) cs = u ∧ behindL (u ++ v) cs = v := by
  unfold aheadL behindL
  induction u with
  | nil =>
    cases v with
    | nil => exact ⟨rfl, rfl⟩
    | cons b r =>
      have := hv b r rfl
      simp only [List.nil_append, List.takeWhile_cons, List.dropWhile_cons, this, Bool.false_eq_true, if_false]
      exact ⟨trivial, trivial⟩
  | cons a u ih =>
    have h1 := hu a (by simp)
    obtain ⟨i1, i2⟩ := ih (fun b hb => hu b (by simp [hb]))
    simp only [List.cons_append, List.takeWhile_cons, List.dropWhile_cons, h1, if_true]
    exact ⟨by rw [i1], i2⟩
set_option maxRecDepth 100000 in
theorem letters_all : (List.range 65).all (fun c => c == 0 || ((colOf (lettersL c) == some c) && (lettersL c).all (fun b => capL.contains b) && lettersOk (lettersL c))) = true := by kernel_rfl
theorem letters_back (c : Nat) (h1 : 1 ≤ c) (h2 : c ≤ 64) : colOf (lettersL c) = some c ∧ (∀ b ∈ lettersL c, capL.contains b = true) ∧ lettersOk (lettersL c) = true := by
  have := List.all_eq_true.1 letters_all c (List.mem_range.2 (by omega))
  simp only [Bool.or_eq_true, Bool.and_eq_true, beq_iff_eq, List.all_eq_true] at this
  rcases this with h | ⟨⟨h, h'⟩, h''⟩
  · omega
  · exact ⟨h, h', h''⟩
theorem cut_first (u r : List UInt8) (c : UInt8) (h : ∀ b ∈ u, b ≠ c) : cutB (u ++ c :: r) c = (u, r, true) := by
  have hi : Lib.indexByte (u ++ c :: r) c = (u.length : Int) := by
    induction u with
    | nil => simp [Lib.indexByte]
    | cons a u ih =>
      have i1 := ih (fun b hb => h b (by simp [hb]))
      have h1 : (a == c) = false := by simpa using h a (by simp)
      show (if (a == c) = true then (0 : Int) else if Lib.indexByte (u ++ c :: r) c == -1 then -1 else Lib.indexByte (u ++ c :: r) c + 1) = _
      rw [h1, i1, if_neg (by simp), if_neg (by simp)]
      simp
  unfold cutB
  rw [hi, if_pos (by omega)]
  simp
theorem cut_none (u : List UInt8) (c : UInt8) (h : ∀ b ∈ u, b ≠ c) : cutB u c = (u, [], false) := by
  have hi : Lib.indexByte u c < 0 := by
    have hge := Lib.indexByte_ge u c
    by_cases h0 : Lib.indexByte u c < 0
    · exact h0
    · obtain ⟨i, hi⟩ : ∃ i : Nat, Lib.indexByte u c = i := ⟨(Lib.indexByte u c).toNat, by omega⟩
      exact absurd rfl (h c (List.mem_of_getElem? (Lib.indexByte_some hi).1))
  unfold cutB
  rw [if_neg (by omega)]
theorem alpha_alnum (b : UInt8) (h : alphaL.contains b = true) : alnumL.contains b = true := by
  have hs : ∀ x ∈ alphaL, alnumL.contains x = true := by decide
  exact hs b (by simpa using h)
theorem plain_signs {l : List UInt8} (h : plainB l = true) : ∀ b ∈ l, alnumL.contains b = true := by
  unfold plainB at h
  simp only [Bool.and_eq_true] at h
  have h2 : behindL (behindL l alphaL) alnumL = [] := by simpa using h.2
  intro b hb
  rw [← ahead_behind l alphaL] at hb
  rcases List.mem_append.1 hb with hb | hb
  · exact alpha_alnum b (ahead_mem hb)
  · rw [← ahead_behind (behindL l alphaL) alnumL, h2, List.append_nil] at hb
    exact ahead_mem hb
end Go.Proofs.YtgihginfegckcaaGreatDoor
/- References, there and back. -/
namespace Go.Proofs.YtgihginfegckcaaGreatDoor
open Go.RowKit

set_option maxRecDepth 100000 in
theorem one_all : (List.range 256).all (fun n => match colOf [UInt8.ofNat n] with | none => true | some m => lettersL m == [UInt8.ofNat n]) = true := by kernel_rfl
set_option maxRecDepth 100000 in
theorem two_all : [65, 66].all (fun a => (List.range 256).all (fun n => match colOf [a, UInt8.ofNat n] with | none => true | some m => lettersL m == [a, UInt8.ofNat n])) = true := by kernel_rfl
theorem letters_whole {l : List UInt8} {m : Nat} (h : colOf l = some m) : lettersL m = l := by
  match l, h with
  | [], h => cases h
  | [a], h =>
    have := List.all_eq_true.1 one_all a.toNat (List.mem_range.2 a.toNat_lt)
    rw [show UInt8.ofNat a.toNat = a from UInt8.toNat_inj.1 (by simp), h] at this
    simpa using this
  | [a, b], h =>
    have hab : a = 65 ∨ a = 66 := by
      unfold colOf colN at h
      simp only [List.cons_ne_nil, if_false, List.foldl_cons, List.foldl_nil] at h
      unfold colStep at h
      simp only [Option.bind_some] at h
      split at h
      · rename_i h1
        simp only [Option.bind_some] at h
        split at h
        · rename_i h2
          simp [isCap] at h1 h2
          have : a.toNat = 65 ∨ a.toNat = 66 := by omega
          exact this.imp (fun e => UInt8.toNat_inj.1 e) (fun e => UInt8.toNat_inj.1 e)
        · cases h
      · cases h
    have := List.all_eq_true.1 two_all a (by rcases hab with rfl | rfl <;> simp)
    have := List.all_eq_true.1 this b.toNat (List.mem_range.2 b.toNat_lt)
    rw [show UInt8.ofNat b.toNat = b from UInt8.toNat_inj.1 (by simp), h] at this
    simpa using this
  | a :: b :: c :: r, h =>
    exfalso
    unfold colOf colN at h
    simp only [List.cons_ne_nil, if_false, List.foldl_cons] at h
    have key : colStep (colStep (colStep (some 0) a) b) c = none := by
      unfold colStep
      simp only [Option.bind_some]
      split
      · simp only [Option.bind_some]
        split
        · simp only [Option.bind_some]
          rw [if_neg (by simp; omega)]
        · rfl
      · rfl
    rw [key, colN_none] at h
    cases h
end Go.Proofs.YtgihginfegckcaaGreatDoor
/- The document's Letters and Col. -/
namespace Go.Proofs.YtgihginfegckcaaGreatDoor
open Go.RowKit

set_option maxRecDepth 100000 in
theorem let_one : (List.range 27).all (fun c => c == 0 || (lettersL c == [UInt8.ofNat (64 + c)])) = true := by kernel_rfl
set_option maxRecDepth 100000 in
theorem let_two : (List.range 65).all (fun c => decide (c ≤ 26) || (lettersL c == [UInt8.ofNat (65 + (c - 27) / 26), UInt8.ofNat (65 + (c - 27) % 26)])) = true := by kernel_rfl
theorem conv1 (W : World) (x : Int) : (convert 49 9 (.slice (some ⟨W.heap.size, 0, none⟩) 1 1)).run Tryz.prog (W.alloc (.cells #[.int .u8 x] 5)) = .ok (.string (bs [UInt8.ofNat x.toNat])) (W.alloc (.cells #[.int .u8 x] 5)) := by
  have := run_convert_bytes_arg (P := Tryz.prog) (W.alloc (.cells #[.int .u8 x] 5)) 49 5 Tryz.underlying49 Tryz.underlying5 W.heap.size 0 1 1 [x] rfl (fun i hi => by
    obtain rfl : i = 0 := by omega
    exact (Row.new W 5 #[.int .u8 x]).cell rfl) 9 Tryz.underlying9
  exact this
theorem conv2 (W : World) (x y : Int) : (convert 49 9 (.slice (some ⟨W.heap.size, 0, none⟩) 2 2)).run Tryz.prog (W.alloc (.cells #[.int .u8 x, .int .u8 y] 5)) = .ok (.string (bs [UInt8.ofNat x.toNat, UInt8.ofNat y.toNat])) (W.alloc (.cells #[.int .u8 x, .int .u8 y] 5)) := by
  have := run_convert_bytes_arg (P := Tryz.prog) (W.alloc (.cells #[.int .u8 x, .int .u8 y] 5)) 49 5 Tryz.underlying49 Tryz.underlying5 W.heap.size 0 2 2 [x, y] rfl (fun i hi => by
    have : i = 0 ∨ i = 1 := by omega
    rcases this with rfl | rfl
    · exact (Row.new W 5 #[.int .u8 x, .int .u8 y]).cell rfl
    · exact (Row.new W 5 #[.int .u8 x, .int .u8 y]).cell rfl) 9 Tryz.underlying9
  exact this
set_option maxRecDepth 100000 in
set_option maxHeartbeats 1000000 in
theorem refLetters_any (n : Int) (w : World) : Calls Tryz.prog 150 #[.int .i64 n] w fun e w' => e = .returned (.string (bs (lettersS n))) ∧ Below w.heap.size w w' := by
  unfold lettersS
  by_cases h1 : n < 1
  · rw [if_neg (by simp [colB]; omega)]
    go_enter Tryz.func150, Tryz.ntmps150
    go_wp2
    go_ret
    exact ⟨rfl, Below.refl _ _⟩
  by_cases h2 : n > 64
  · rw [if_neg (by simp [colB]; omega)]
    go_enter Tryz.func150, Tryz.ntmps150
    go_wp2
    go_ret
    exact ⟨rfl, Below.refl _ _⟩
  rw [if_pos (by simp [colB]; omega)]
  obtain ⟨c, rfl⟩ : ∃ c : Nat, n = c := ⟨n.toNat, by omega⟩
  simp only [Int.toNat_natCast]
  have hb : Below w.heap.size w w := Below.refl _ _
  by_cases h3 : c ≤ 26
  · have h3' : (c : Int) ≤ 26 := by omega
    have e := List.all_eq_true.1 let_one c (List.mem_range.2 (by omega))
    have e : lettersL c = [UInt8.ofNat (64 + c)] := by simpa [show c ≠ 0 by omega] using e
    have hc := conv1 w (65 + (c : Int) - 1)
    rw [show (65 + (c : Int) - 1).toNat = 64 + c by omega, ← e] at hc
    clear e
    go_enter Tryz.func150, Tryz.ntmps150
    go_wp2
    go_ret
    exact ⟨rfl, hb.alloc (Nat.le_refl _) _⟩
  · have h3' : ¬ ((c : Int) ≤ 26) := by omega
    have e := List.all_eq_true.1 let_two c (List.mem_range.2 (by omega))
    have e : lettersL c = [UInt8.ofNat (65 + (c - 27) / 26), UInt8.ofNat (65 + (c - 27) % 26)] := by simpa [show ¬ c ≤ 26 from h3] using e
    have hc := conv2 w (65 + ((c : Int) - 27) / 26) (65 + ((c : Int) - 27) % 26)
    rw [show (65 + ((c : Int) - 27) / 26).toNat = 65 + (c - 27) / 26 by omega, show (65 + ((c : Int) - 27) % 26).toNat = 65 + (c - 27) % 26 by omega, ← e] at hc
    clear e
    go_enter Tryz.func150, Tryz.ntmps150
    go_wp2
    go_ret
    exact ⟨rfl, hb.alloc (Nat.le_refl _) _⟩
set_option maxRecDepth 100000 in
set_option maxHeartbeats 1000000 in
theorem refCol_any (l : List UInt8) (w : World) :
    Calls Tryz.prog 132 #[.string (bs l)] w fun e w' => e = .returned (.tuple #[.int .i64 ((colOf l).getD 0 : Nat), .bool (colOf l).isSome]) ∧ Below w.heap.size w w' := by
  obtain ⟨r, hr⟩ : ∃ r, colOf l = r := ⟨_, rfl⟩
  rw [hr]
  have H : Hid (colOf l = r) := hr
  clear hr
  go_enter Tryz.func132, Tryz.ntmps132
  go_wp2
  go_loopw [4] (fun v4 wr => ∃ c : Nat, 1 ≤ c ∧ c ≤ 65 ∧ v4 = .int .i64 (c : Int) ∧ Hid (∀ i, 1 ≤ i → i < c → lettersL i ≠ l) ∧ Hid (Below w.heap.size w wr)) (fun v4 _ => 65 - (intOf v4).toNat)
  case atStart => exact ⟨1, by omega, by omega, rfl, (fun i h1 h2 => by omega), Below.refl _ _⟩
  case round =>
    obtain ⟨c, hc1, hc2, rfl, HN, HB⟩ := hrel
    by_cases hlt : c ≤ 64
    · have t1 : (c : Int) ≤ 64 := by omega
      have HL : Hid (Calls Tryz.prog 150 #[.int .i64 (c : Int)] wr fun e w' => e = .returned (.string (bs (lettersL c))) ∧ Below wr.heap.size wr w') := by
        have := refLetters_any (c : Int) wr
        unfold lettersS at this
        rw [if_pos (by simp [colB]; omega)] at this
        exact this
      by_cases he : lettersL c = l
      · have e1 : ((bs (lettersL c)).toList == (bs l).toList) = true := by rw [he]; simp
        obtain rfl : r = some c := by
          rw [← H.out, ← he]
          exact (letters_back c hc1 hlt).1
        clear he HN H
        go_wp2_with fail
        refine Calls.mono HL.out ?_
        rintro _ w1 ⟨rfl, b1⟩
        have HB1 : Hid (Below w.heap.size w w1) := HB.out.trans (b1.mono HB.out.size)
        clear HL b1
        go_wp2
        go_ret2
        exact ⟨rfl, HB1.out⟩
      · have e1 : ((bs (lettersL c)).toList == (bs l).toList) = false := by rw [bs_toList, bs_toList]; simpa using he
        have HN2 : Hid (∀ i, 1 ≤ i → i < c + 1 → lettersL i ≠ l) := fun i h1 h2 => by
          by_cases hi : i = c
          · rw [hi]; exact he
          · exact HN.out i h1 (by omega)
        clear he HN
        go_wp2_with fail
        refine Calls.mono HL.out ?_
        rintro _ w1 ⟨rfl, b1⟩
        have HB1 : Hid (Below w.heap.size w w1) := HB.out.trans (b1.mono HB.out.size)
        clear HL b1
        go_wp2
        go_roundw
        case rel => exact ⟨c + 1, by omega, by omega, by go_num, HN2, HB1⟩
        case measure => simp [intOf]; omega
    · have t1 : ¬ ((c : Int) ≤ 64) := by omega
      obtain rfl : r = none := by
        cases hq : r with
        | none => rfl
        | some m =>
          have hm : colOf l = some m := H.out.trans hq
          have hb := colOf_le hm
          exact absurd (letters_whole hm) (HN.out m hb.1 (by omega))
      clear HN H
      go_wp2
      go_ret2
      exact ⟨rfl, HB.out⟩
end Go.Proofs.YtgihginfegckcaaGreatDoor
/- The document's plain. -/
namespace Go.Proofs.YtgihginfegckcaaGreatDoor
open Go.RowKit

def letB (c : UInt8) : Bool := (decide (65 ≤ c.toNat) && decide (c.toNat ≤ 90)) || (decide (97 ≤ c.toNat) && decide (c.toNat ≤ 122)) || decide (c.toNat = 95)
def digB (c : UInt8) : Bool := decide (48 ≤ c.toNat) && decide (c.toNat ≤ 57)
set_option maxRecDepth 100000 in
theorem let_alpha_all : (List.range 256).all (fun n => alphaL.contains (UInt8.ofNat n) == letB (UInt8.ofNat n)) = true := by kernel_rfl
set_option maxRecDepth 100000 in
theorem let_alnum_all : (List.range 256).all (fun n => alnumL.contains (UInt8.ofNat n) == (letB (UInt8.ofNat n) || digB (UInt8.ofNat n))) = true := by kernel_rfl
theorem let_alpha (c : UInt8) : alphaL.contains c = letB c := by
  have := List.all_eq_true.1 let_alpha_all c.toNat (List.mem_range.2 c.toNat_lt)
  rw [show UInt8.ofNat c.toNat = c from UInt8.toNat_inj.1 (by simp)] at this
  simpa using this
theorem let_alnum (c : UInt8) : alnumL.contains c = (letB c || digB c) := by
  have := List.all_eq_true.1 let_alnum_all c.toNat (List.mem_range.2 c.toNat_lt)
  rw [show UInt8.ofNat c.toNat = c from UInt8.toNat_inj.1 (by simp)] at this
  simpa using this
theorem behind_nil (l cs : List UInt8) (h : ∀ b ∈ l, cs.contains b = true) : behindL l cs = [] := by
  have := (ahead_app l [] cs h (fun b r e => by cases e)).2
  rwa [List.append_nil] at this
theorem plain_cons (a : UInt8) (r : List UInt8) : plainB (a :: r) = (letB a && r.all (fun b => letB b || digB b)) := by
  cases ha : letB a
  · unfold plainB aheadL
    rw [List.takeWhile_cons, let_alpha, ha]
    simp
  · cases hr : r.all (fun b => letB b || digB b)
    · cases hp : plainB (a :: r)
      · rfl
      · have hs := plain_signs hp
        exfalso
        have : r.all (fun b => letB b || digB b) = true := List.all_eq_true.2 (fun b hb => by rw [← let_alnum]; exact hs b (by simp [hb]))
        rw [this] at hr
        cases hr
    · have hs : ∀ b ∈ a :: r, alnumL.contains b = true := fun b hb => by
        rcases List.mem_cons.1 hb with rfl | hb
        · rw [let_alnum, ha]; rfl
        · rw [let_alnum]; exact List.all_eq_true.1 hr b hb
      have h1 : behindL (behindL (a :: r) alphaL) alnumL = [] := behind_nil _ _ (fun b hb => hs b (by
        rw [← ahead_behind (a :: r) alphaL]
        exact List.mem_append_right _ hb))
      unfold plainB
      rw [h1]
      unfold aheadL
      rw [List.takeWhile_cons, let_alpha, ha]
      rfl
set_option maxHeartbeats 1000000 in
theorem letter_any (c : UInt8) (w : World) : Calls Tryz.prog 149 #[.int .u8 (c.toNat : Int)] w fun e w' => e = .returned (.bool (letB c)) ∧ w' = w := by
  unfold letB
  by_cases h1 : 65 ≤ c.toNat
  · have h1' : (65 : Int) ≤ (c.toNat : Int) := by omega
    by_cases h2 : c.toNat ≤ 90
    · have h2' : (c.toNat : Int) ≤ 90 := by omega
      rw [decide_eq_true h1, decide_eq_true h2]
      clear h1 h2
      go_enter Tryz.func149, Tryz.ntmps149
      go_wp2
      go_ret
      exact ⟨rfl, rfl⟩
    · have h2' : ¬ ((c.toNat : Int) ≤ 90) := by omega
      rw [decide_eq_true h1, decide_eq_false h2]
      by_cases h3 : 97 ≤ c.toNat
      · have h3' : (97 : Int) ≤ (c.toNat : Int) := by omega
        by_cases h4 : c.toNat ≤ 122
        · have h4' : (c.toNat : Int) ≤ 122 := by omega
          rw [decide_eq_true h3, decide_eq_true h4]
          clear h1 h2 h3 h4
          go_enter Tryz.func149, Tryz.ntmps149
          go_wp2
          go_ret
          exact ⟨rfl, rfl⟩
        · have h4' : ¬ ((c.toNat : Int) ≤ 122) := by omega
          have h5 : ((c.toNat : Int) == 95) = false := by simp; omega
          rw [decide_eq_true h3, decide_eq_false h4, decide_eq_false (show ¬ c.toNat = 95 by omega)]
          clear h1 h2 h3 h4
          go_enter Tryz.func149, Tryz.ntmps149
          go_wp2
          go_ret
          exact ⟨rfl, rfl⟩
      · have h3' : ¬ ((97 : Int) ≤ (c.toNat : Int)) := by omega
        rw [decide_eq_false h3]
        by_cases h5 : c.toNat = 95
        · have h5' : ((c.toNat : Int) == 95) = true := by simp; omega
          rw [decide_eq_true h5]
          clear h1 h2 h3 h5
          go_enter Tryz.func149, Tryz.ntmps149
          go_wp2
          go_ret
          exact ⟨rfl, rfl⟩
        · have h5' : ((c.toNat : Int) == 95) = false := by simp; omega
          rw [decide_eq_false h5]
          clear h1 h2 h3 h5
          go_enter Tryz.func149, Tryz.ntmps149
          go_wp2
          go_ret
          exact ⟨rfl, rfl⟩
  · have h1' : ¬ ((65 : Int) ≤ (c.toNat : Int)) := by omega
    have h3' : ¬ ((97 : Int) ≤ (c.toNat : Int)) := by omega
    have h5' : ((c.toNat : Int) == 95) = false := by simp; omega
    rw [decide_eq_false h1, decide_eq_false (show ¬ 97 ≤ c.toNat by omega), decide_eq_false (show ¬ c.toNat = 95 by omega)]
    clear h1
    go_enter Tryz.func149, Tryz.ntmps149
    go_wp2
    go_ret
    exact ⟨rfl, rfl⟩
set_option maxHeartbeats 1000000 in
theorem cdigit_any (c : UInt8) (w : World) : Calls Tryz.prog 131 #[.int .u8 (c.toNat : Int)] w fun e w' => e = .returned (.bool (digB c)) ∧ w' = w := by
  unfold digB
  by_cases h1 : 48 ≤ c.toNat
  · have h1' : (48 : Int) ≤ (c.toNat : Int) := by omega
    rw [decide_eq_true h1]
    by_cases h2 : c.toNat ≤ 57
    · have h2' : (c.toNat : Int) ≤ 57 := by omega
      rw [decide_eq_true h2]
      clear h1 h2
      go_enter Tryz.func131, Tryz.ntmps131
      go_wp2
      go_ret
      exact ⟨rfl, rfl⟩
    · have h2' : ¬ ((c.toNat : Int) ≤ 57) := by omega
      rw [decide_eq_false h2]
      clear h1 h2
      go_enter Tryz.func131, Tryz.ntmps131
      go_wp2
      go_ret
      exact ⟨rfl, rfl⟩
  · have h1' : ¬ ((48 : Int) ≤ (c.toNat : Int)) := by omega
    rw [decide_eq_false h1]
    clear h1
    go_enter Tryz.func131, Tryz.ntmps131
    go_wp2
    go_ret
    exact ⟨rfl, rfl⟩
set_option maxRecDepth 100000 in
set_option maxHeartbeats 2000000 in
theorem refPlain_any (l : List UInt8) (hl : l.length ≤ 9223372036854775807) (w : World) : Calls Tryz.prog 130 #[.string (bs l)] w fun e w' => e = .returned (.bool (plainB l)) ∧ w' = w := by
  cases l with
  | nil =>
    have e : plainB [] = false := by unfold plainB; rfl
    rw [e]
    have t0 : (((bs []).size : Int) == 0) = true := by rw [bs_size]; rfl
    go_enter Tryz.func130, Tryz.ntmps130
    go_wp2
    go_ret
    exact ⟨rfl, rfl⟩
  | cons a r =>
    rw [plain_cons]
    have HS : Hid ((bs (a :: r)).size = r.length + 1) := by show _ = _; rw [bs_size]; rfl
    have hsz : (bs (a :: r)).size ≤ 9223372036854775807 := by rw [bs_size]; exact hl
    have h0 : 0 < (bs (a :: r)).size := by have := HS.out; omega
    have t0 : (((bs (a :: r)).size : Int) == 0) = false := beq_eq_false_iff_ne.2 (by omega)
    have HG0 : Hid ((bs (a :: r))[0] = a) := rfl
    have HL0 : ∀ W, Hid (Calls Tryz.prog 149 #[.int .u8 ((bs (a :: r))[0].toNat : Int)] W fun e w' => e = .returned (.bool (letB a)) ∧ w' = W) := fun W => letter_any a W
    clear hl
    cases ha : letB a
    · rw [ha] at HL0
      go_enter Tryz.func130, Tryz.ntmps130
      go_wp2_with fail
      refine Calls.mono (HL0 _).out ?_
      rintro _ w1 ⟨rfl, rfl⟩
      clear HL0
      go_wp2
      go_ret
      exact ⟨rfl, rfl⟩
    · rw [ha] at HL0
      obtain ⟨q, hq⟩ : ∃ q, (r.all (fun b => letB b || digB b)) = q := ⟨_, rfl⟩
      rw [hq]
      have H : Hid ((r.all (fun b => letB b || digB b)) = q) := hq
      clear hq
      go_enter Tryz.func130, Tryz.ntmps130
      go_wp2_with fail
      refine Calls.mono (HL0 _).out ?_
      rintro _ w1 ⟨rfl, rfl⟩
      clear HL0
      go_wp2
      go_loop [3] (fun v3 => ∃ k : Nat, 1 ≤ k ∧ k ≤ (bs (a :: r)).size ∧ v3 = .int .i64 (k : Int) ∧ Hid ((r.take (k - 1)).all (fun b => letB b || digB b) = true)) (fun v3 => (bs (a :: r)).size - (intOf v3).toNat)
      case atStart => exact ⟨1, by omega, by omega, rfl, rfl⟩
      case round =>
        obtain ⟨k, hk1, hk, rfl, HA⟩ := hrel
        by_cases hlt : k < (bs (a :: r)).size
        · obtain ⟨c, hc⟩ : ∃ c, (bs (a :: r))[k] = c := ⟨_, rfl⟩
          have HK : Hid (r[k - 1]? = some c) := by
            have h1 : k - 1 < r.length := by have := HS.out; omega
            show _ = _
            rw [List.getElem?_eq_getElem h1, ← hc]
            show some r[k - 1] = some ((a :: r)[k]'(by simp; omega))
            obtain ⟨j, rfl⟩ : ∃ j, k = j + 1 := ⟨k - 1, by omega⟩
            rfl
          have HT : Hid ((r.take (k + 1 - 1)).all (fun b => letB b || digB b) = (letB c || digB c)) := by
            have h1 : k - 1 < r.length := by have := HS.out; omega
            have e : r.take (k + 1 - 1) = r.take (k - 1) ++ [c] := by
              rw [show k + 1 - 1 = (k - 1) + 1 by omega, List.take_succ_eq_append_getElem h1]
              have := HK.out
              rw [List.getElem?_eq_getElem h1] at this
              rw [Option.some.inj this]
            show _ = _
            rw [e, List.all_append, HA.out]
            simp
          have HN : Hid ((letB c || digB c) = false → q = false) := by
            intro hf
            rw [← H.out]
            exact List.all_eq_false.2 ⟨c, List.mem_of_getElem? HK.out, by rw [hf]; simp⟩
          have HL : ∀ W, Hid (Calls Tryz.prog 149 #[.int .u8 ((bs (a :: r))[k].toNat : Int)] W fun e w' => e = .returned (.bool (letB c)) ∧ w' = W) := fun W => by rw [hc]; exact letter_any c W
          have HD : ∀ W, Hid (Calls Tryz.prog 131 #[.int .u8 ((bs (a :: r))[k].toNat : Int)] W fun e w' => e = .returned (.bool (digB c)) ∧ w' = W) := fun W => by rw [hc]; exact cdigit_any c W
          have HK1 : Hid (k + 1 ≤ (bs (a :: r)).size) := hlt
          clear hc HK HA
          cases h1 : letB c
          · rw [h1] at HL HT HN
            cases h2 : digB c
            · rw [h2] at HD HT HN
              obtain rfl : q = false := HN.out rfl
              clear HT HN
              go_wp2_with fail
              refine Calls.mono (HL _).out ?_
              rintro _ w1 ⟨rfl, rfl⟩
              go_wp2_with fail
              refine Calls.mono (HD _).out ?_
              rintro _ w1 ⟨rfl, rfl⟩
              clear HL HD
              go_wp2
              go_ret
              exact ⟨rfl, rfl⟩
            · rw [h2] at HD HT
              clear HN
              go_wp2_with fail
              refine Calls.mono (HL _).out ?_
              rintro _ w1 ⟨rfl, rfl⟩
              go_wp2_with fail
              refine Calls.mono (HD _).out ?_
              rintro _ w1 ⟨rfl, rfl⟩
              clear HL HD
              go_wp2
              go_round
              case rel => exact ⟨k + 1, by omega, HK1.out, by go_num, HT.out⟩
              case measure => have := HK1.out; simp [intOf]; omega
          · rw [h1] at HL HT
            clear HN HD
            go_wp2_with fail
            refine Calls.mono (HL _).out ?_
            rintro _ w1 ⟨rfl, rfl⟩
            clear HL
            go_wp2
            go_round
            case rel => exact ⟨k + 1, by omega, HK1.out, by go_num, by have := HT.out; rw [Bool.true_or] at this; exact this⟩
            case measure => have := HK1.out; simp [intOf]; omega
        · have t2 : ¬ ((k : Int) < ((bs (a :: r)).size : Int)) := by omega
          obtain rfl : q = true := by
            have := HA.out
            rw [List.take_of_length_le (by have := HS.out; omega)] at this
            rw [← H.out]; exact this
          clear HA H
          go_wp2
          go_ret
          exact ⟨rfl, rfl⟩
end Go.Proofs.YtgihginfegckcaaGreatDoor
/- The document's Quote. -/
namespace Go.Proofs.YtgihginfegckcaaGreatDoor
open Go.RowKit

def cellsU (l : List UInt8) : List Value := l.map (fun b => Value.int .u8 (b.toNat : Int))
theorem cellsU_snoc (l : List UInt8) (c : UInt8) : cellsU (l ++ [c]) = cellsU l ++ [.int .u8 (c.toNat : Int)] := by simp [cellsU]
theorem conv_nil (w : World) : (convert 49 9 (.slice none 0 0)).run Tryz.prog w = .ok (.string (bs [])) w := by
  rw [run_convert_bytes_nil w 49 5 Tryz.underlying49 Tryz.underlying5 _ _ 9 Tryz.underlying9]
  rfl
/-- A row of one's own, turned into a text. -/
theorem conv_own {w : World} {base : Nat} {g : Option Addr} {cap : Nat} {l : List UInt8} (h : w.ownsRow base 5 1 (.slice g l.length cap) l.length (cellsU l)) : (convert 49 9 (.slice g l.length cap)).run Tryz.prog w = .ok (.string (bs l)) w := by
  rcases h.2 with ⟨hv, h0⟩ | ⟨b, c, cur, hv, hb, hg, rest⟩
  · have e : l = [] := List.length_eq_zero_iff.1 h0
    subst e
    simp only [Value.slice.injEq] at hv
    obtain ⟨rfl, _, rfl⟩ := hv
    exact conv_nil w
  · simp only [Value.slice.injEq] at hv
    obtain ⟨rfl, _, rfl⟩ := hv
    have := run_convert_bytes_arg (P := Tryz.prog) w 49 5 Tryz.underlying49 Tryz.underlying5 b 0 l.length cap (l.map (fun b => (b.toNat : Int))) (by simp) (fun i hi => by
      rw [Nat.zero_add, h.cellAt i (by omega)]
      have hi' : i < l.length := hi
      simp [cellsU, hi']) 9 Tryz.underlying9
    have e : strOfNums (l.map (fun b => (b.toNat : Int))) = bs l := by
      have e2 : (l.map (fun b => (b.toNat : Int))).map (fun x => x.toNat.toUInt8) = l := by
        rw [List.map_map]
        conv => rhs; rw [← List.map_id l]
        refine List.map_congr_left (fun b _ => ?_)
        simp
      conv => rhs; rw [← e2]
      rfl
    rw [e] at this
    exact this
theorem Tryz.info5q : (Tryz.prog.info? 5).map (fun i => (i.zero, i.size, i.bytes)) = some (some (.int .u8 0), 1, 1) := by kernel_rfl
end Go.Proofs.YtgihginfegckcaaGreatDoor
/- lex's document: what stands between two quotes. -/
namespace Go.Proofs.YtgihginfegckcaaGreatDoor
open Go.RowKit

/-- Bytes in memory of one's own, one more of them. -/
theorem own_step {N : Nat} {w0 : World} {n : Nat} {c : UInt8} {ys : List UInt8} {o : Obj} {W : World} {v v' : Value} {w3 : World} (hn : n = ys.length) (h0 : W.ownsRow N 5 1 v n (cellsU ys)) (hb : Below N w0 W) (hN : N = w0.heap.size) (h1 : w3.ownsRow N 5 1 v' (n + 1) (cellsU ys ++ [.int .u8 (c.toNat : Int)])) (h2 : (W.alloc o).grownBy w3 v.ownBlock) :
    w3.ownsRow N 5 1 v' (ys ++ [c]).length (cellsU (ys ++ [c])) ∧ Below N w0 w3 := by
  subst hN; subst hn
  refine ⟨by rw [cellsU_snoc, List.length_append]; exact h1, (hb.alloc hb.size o).grown h2 (by rw [World.size_alloc]; have := hb.size; omega) (fun r e => (h0.lt r e).1)⟩
/-- What quoted answers. -/
def qdV (q : Nat) (U : List UInt8) : Value := .tuple #[.string (bs (if q = 0 then [] else U)), .int .i64 (q : Int), .bool (!decide (q = 0))]
set_option maxRecDepth 100000 in
set_option maxHeartbeats 4000000 in
theorem qd_raw (l : List UInt8) (i : Nat) (c : UInt8) (q : Nat) (U : List UInt8) (hi : i < (bs l).size) (hg : (bs l)[i]'hi = c) (hc0 : c ≠ 0) (hsz : (bs l).size ≤ 1000000) (HQ : Hid (restQ c l (i + 1) = q)) (HU : Hid (undQ c (l.drop (i + 1)) = U)) (w : World) :
    Calls Tryz.prog 38 #[.string (bs l), .int .i64 (i : Int)] w fun e w' => e = .returned (qdV q U) ∧ Below w.heap.size w w' := by
  have HS : Hid ((bs l).size = l.length) := bs_size l
  have HC0 : Hid (c ≠ 0) := hc0
  have hi1 : i + 1 ≤ (bs l).size := hi
  obtain ⟨x, hx⟩ : ∃ x : Int, (((bs l)[i]'hi).toNat : Int) = x := ⟨_, rfl⟩
  have HX : Hid ((c.toNat : Int) = x) := by show _ = _; rw [← hx, hg]
  obtain ⟨i0, hi0, hzz⟩ := Option.map_eq_some_iff.1 Tryz.info5q
  simp only [Prod.mk.injEq] at hzz
  obtain ⟨hz0, hz1, hz2⟩ := hzz
  clear hg hc0
  go_enter Tryz.func38, Tryz.ntmps38
  go_wp2
  clear hx
  go_loopw [8, 9] (fun v8 v9 wr => ∃ (k : Nat) (zs : List UInt8), k ≤ (bs l).size ∧ v9 = .int .i64 (k : Int) ∧ Hid (restQ c l k = q) ∧ Hid (zs ++ undQ c (l.drop k) = U) ∧ zs.length ≤ k ∧ wr.ownsRow w.heap.size 5 1 v8 zs.length (cellsU zs) ∧ Below w.heap.size w wr) (fun _ v9 _ => (bs l).size - (intOf v9).toNat)
  case atStart => exact ⟨i + 1, [], hi1, by go_num, HQ, HU, Nat.zero_le _, World.ownsRow_nil _ _ _ _, Below.refl _ _⟩
  case round =>
    clear HQ HU hi hi1
    obtain ⟨k, zs, hk, rfl, HQ, HU, hzl, hO, hB⟩ := hrel
    obtain ⟨gu, cu, rfl⟩ := owns_form hO
    have hws := hB.size
    by_cases hlt : k < (bs l).size
    · have HDR : Hid (l.drop k = (bs l)[k]'hlt :: l.drop (k + 1)) := drop_step l k hlt
      have HK1 : Hid (k + 1 ≤ (bs l).size) := hlt
      obtain ⟨b, hb⟩ : ∃ b : UInt8, (bs l)[k]'hlt = b := ⟨_, rfl⟩
      have HBI : Hid ((bs l)[k]'hlt = b) := hb
      have HEX : Hid (((bs l)[k]'hlt = c) = (((((bs l)[k]'hlt).toNat : Int) == x) = true)) := by
        show _ = _
        rw [← HX.out, toNat_eqI]; simp
      by_cases hc : (bs l)[k]'hlt = c
      · have HC : Hid ((bs l)[k]'hlt = c) := hc
        have e1 : ((((bs l)[k]'hlt).toNat : Int) == x) = true := by rw [← HEX.out]; exact hc
        have e2 : ((((bs l)[k]'hlt).toNat : Int) != x) = false := by rw [bne, e1]; rfl
        have HA : ∀ z : Int, z = (k : Int) + 1 → ∀ W, Hid (Calls Tryz.prog 40 #[.string (bs l), .int .i64 z] W fun e w' => e = .returned (.int .u8 ((atB l (k + 1)).toNat : Int)) ∧ w' = W) := by
          rintro z rfl W; exact atx_any l (k + 1) W
        clear hc HEX hb
        obtain ⟨d, hd⟩ : ∃ d, atB l (k + 1) = d := ⟨_, rfl⟩
        have HD : Hid (atB l (k + 1) = d) := hd
        rw [hd] at HA
        have hdx : ((d.toNat : Int) == x) = decide (d = c) := by rw [← HX.out]; exact toNat_eqI
        clear hd
        by_cases hdc : d = c
        · rw [decide_eq_true hdc] at hdx
          have hdn : ((d.toNat : Int) != x) = false := by rw [bne, hdx]; rfl
          have h2 : k + 1 < (bs l).size := by
            by_cases h : k + 1 < (bs l).size
            · exact h
            · exact absurd (by rw [← hdc, ← HD.out, atB_ge (by rw [bs_size] at h; omega)]) HC0.out
          have HD2 : Hid ((bs l)[k + 1]'h2 = c) := by show _ = _; rw [atB_bs h2, HD.out, hdc]
          have HQ2 : Hid (restQ c l (k + 2) = q) := by show _ = _; rw [← HQ.out, restQ_two h2 HC.out HD2.out]
          have HU2 : Hid ((zs ++ [c]) ++ undQ c (l.drop (k + 2)) = U) := by
            show _ = _
            rw [← HU.out, HDR.out, HC.out, drop_step l (k + 1) h2, HD2.out, undQ_two]; simp
          clear hdc HQ HU HDR HD HD2 HBI HC
          go_wp2_with fail
          refine Calls.mono (HA _ (by omega) _).out ?_
          rintro _ w1 ⟨rfl, rfl⟩
          clear HA
          go_wp2_with (at_builtin; refine wpList_append_own2 _ rfl (.tmp 42) (.tmp 44) 49 rfl w.heap.size 5 i0 (.int .u8 0) 1 1 Tryz.underlying49 hi0 hz0 hz1 hz2 rfl (by decide) _ _ _ rfl (hO.alloc _) ⟨w1.heap.size, 0, none⟩ 1 1 [.int .u8 x] rfl rfl (cell_one_new _ _ _) (by simp [Value.oneCell']) (by unfold maxLen; omega) (by omega) (by simp; omega) ?_)
          intro v' w3 hown' hgrow _
          rw [← HX.out] at hown'
          have HG : Hid _ := own_step (c := c) rfl hO hB rfl hown' hgrow
          clear hO hB hown' hgrow
          go_wp2
          go_roundw
          case rel => exact ⟨k + 2, zs ++ [c], by omega, by go_num, HQ2, HU2, by simp; omega, HG.out.1, HG.out.2⟩
          case measure => simp [intOf]; omega
        · rw [decide_eq_false hdc] at hdx
          have hdn : ((d.toNat : Int) != x) = true := by rw [bne, hdx]; rfl
          have hd2 : ∀ h' : k + 1 < (bs l).size, (bs l)[k + 1]'h' ≠ c := fun h' e => hdc (by rw [← HD.out, ← atB_bs h']; exact e)
          have HQ2 : Hid (q = k + 1) := by show _ = _; rw [← HQ.out, restQ_end hlt HC.out hd2]
          have HU2 : Hid (U = zs) := by
            show _ = _
            rw [← HU.out, HDR.out, HC.out, undQ_end, List.append_nil]
            intro y r' e
            by_cases h' : k + 1 < (bs l).size
            · rw [drop_step l (k + 1) h'] at e
              rw [← (List.cons.inj e).1]; exact hd2 h'
            · rw [List.drop_eq_nil_of_le (by rw [bs_size] at h'; omega)] at e; cases e
          have hcv := conv_own hO
          have HB : Hid (Below w.heap.size w wr) := hB
          clear hdc hd2 HQ HU HDR HD HBI HC hO hB
          go_wp2_with fail
          refine Calls.mono (HA _ (by omega) _).out ?_
          rintro _ w1 ⟨rfl, rfl⟩
          clear HA
          go_wp2
          refine bodyPost_ret (results_tmp3 rfl _ _ _) rfl ⟨?_, HB.out⟩
          rw [HQ2.out, HU2.out]
          rfl
      · have e1 : ((((bs l)[k]'hlt).toNat : Int) == x) = false := by
          cases he : ((((bs l)[k]'hlt).toNat : Int) == x)
          · rfl
          · exact absurd (by rw [HEX.out]; exact he) hc
        have e2 : ((((bs l)[k]'hlt).toNat : Int) != x) = true := by rw [bne, e1]; rfl
        have HQ2 : Hid (restQ c l (k + 1) = q) := by show _ = _; rw [← HQ.out, restQ_other hlt hc]
        have HU2 : Hid ((zs ++ [(bs l)[k]'hlt]) ++ undQ c (l.drop (k + 1)) = U) := by
          show _ = _
          rw [← HU.out, HDR.out, undQ_other hc]; simp
        clear hc HQ HU HDR HBI HEX hb
        go_wp2_with (at_builtin; refine wpList_append_own2 _ rfl (.tmp 26) (.tmp 30) 49 rfl w.heap.size 5 i0 (.int .u8 0) 1 1 Tryz.underlying49 hi0 hz0 hz1 hz2 rfl (by decide) _ _ _ rfl (hO.alloc _) ⟨wr.heap.size, 0, none⟩ 1 1 [.int .u8 ((bs l)[k].toNat : Int)] rfl rfl (cell_one_new _ _ _) (by simp [Value.oneCell']) (by unfold maxLen; omega) (by omega) (by simp; omega) ?_)
        intro v' w3 hown' hgrow _
        have HG : Hid _ := own_step (c := (bs l)[k]'hlt) rfl hO hB rfl hown' hgrow
        clear hO hB hown' hgrow
        go_wp2
        go_roundw
        case rel => exact ⟨k + 1, zs ++ [(bs l)[k]'hlt], by omega, by go_num, HQ2, HU2, by simp; omega, HG.out.1, HG.out.2⟩
        case measure => simp [intOf]; omega
    · obtain rfl : k = (bs l).size := by omega
      have HQ2 : Hid (q = 0) := by show _ = _; rw [← HQ.out, restQ_none]
      have HB : Hid (Below w.heap.size w wr) := hB
      clear HQ HU hO hB
      go_wp2
      refine bodyPost_ret (results_tmp3 rfl _ _ _) rfl ⟨?_, HB.out⟩
      rw [HQ2.out]
      rfl
theorem qd_any (l : List UInt8) (i : Nat) (hi : i < l.length) (hc0 : atB l i ≠ 0) (hl : l.length ≤ 1000000) (w : World) :
    Calls Tryz.prog 38 #[.string (bs l), .int .i64 (i : Int)] w fun e w' => e = .returned (qdV (restQ (atB l i) l (i + 1)) (undQ (atB l i) (l.drop (i + 1)))) ∧ Below w.heap.size w w' :=
  qd_raw l i (atB l i) _ _ (by rw [bs_size]; exact hi) (atB_bs (by rw [bs_size]; exact hi)) hc0 (by rw [bs_size]; exact hl) rfl rfl w
theorem restQ_quoted {l : List UInt8} {i : Nat} (hi : i < l.length) : restQ (atB l i) l (i + 1) = if quotedN (l.drop i) = 0 then 0 else i + quotedN (l.drop i) := by
  rw [drop_at hi]
  unfold restQ quotedN
  simp only
  cases qEnd (atB l i) (l.drop (i + 1)) with
  | none => simp
  | some k => simp; omega
end Go.Proofs.YtgihginfegckcaaGreatDoor
/- lex's document: a token, way by way. -/
namespace Go.Proofs.YtgihginfegckcaaGreatDoor
open Go.RowKit

set_option maxRecDepth 100000 in
set_option maxHeartbeats 4000000 in
theorem on_D (l : List UInt8) (i : Nat) (x : UInt8) (w : World) (hi : i < (bs l).size) (hg : (((bs l)[i]'hi).toNat : Int) = (x.toNat : Int)) (k : Nat) (V : List UInt8) (dc de er : Int) (hik : i ≤ k) (hk2 : k ≤ (bs l).size) (hV : (bs l).extract i k = bs V)
    (h35 : ∀ W, Hid (Calls Tryz.prog 35 #[.int .u8 (x.toNat : Int)] W fun e w' => e = .returned (.bool true) ∧ w' = W))
    (h36 : ∀ W, Hid (Calls Tryz.prog 36 #[.string (bs l), .int .i64 (i : Int)] W fun e w' => e = .returned (.int .i64 (k : Int)) ∧ w' = W))
    (h37 : ∀ W, Hid (Calls Tryz.prog 37 #[.string (bs V)] W fun e w' => e = .returned (.tuple #[.agg #[.int .i64 dc, .int .i64 de], .int .i64 er]) ∧ Below W.heap.size W w')) :
    Calls Tryz.prog 22 #[.string (bs l), .int .i64 (i : Int)] w fun e w' => e = tokR ⟨1, (i : Int), [], dc, de, Rf.zero⟩ k er ∧ Below w.heap.size w w' := by
  have HZ : ∀ W, Below (w.alloc (.cells z10 35)).heap.size (w.alloc (.cells z10 35)) W → Hid (Row W w.heap.size 35 z10 ∧ Below w.heap.size w W) := fun W hW => one_row w W _ _ hW
  unfold z10 at HZ
  have u1 : (i : Int) ≤ (k : Int) := by omega
  have u2 : (k : Int) ≤ ((bs l).size : Int) := by omega
  go_enter Tryz.func22, Tryz.ntmps22
  go_wp2_with fail
  refine Calls.mono (h35 _).out ?_
  rintro _ w0 ⟨rfl, hw⟩
  rw [hw]
  clear hw w0
  go_wp2_with fail
  refine Calls.mono (h36 _).out ?_
  rintro _ w0 ⟨rfl, hw⟩
  rw [hw]
  clear hw w0
  go_wp2_with fail
  refine Calls.mono (h37 _).out ?_
  rintro _ w2 ⟨rfl, q2⟩
  clear h37
  obtain ⟨hZ, hB⟩ := (HZ _ q2).out
  clear q2 HZ
  obtain ⟨c0, c1, c2, c3, c4, c5, c6, c7, c8, c9⟩ := hZ.ten
  have fZ := hZ.frozen
  have lZ := hZ.lt
  have hE := (Row.set10 hZ (.int .i64 1) (.int .i64 (i : Int)) (.string .empty) (.int .i64 dc) (.int .i64 de) (.string .empty) (.int .i64 0) (.int .i64 0) (.bool false) (.bool false)).alloc (.cells #[.int .i64 dc, .int .i64 de] 30)
  have hF := below_allocS (below_set10 hB (B := w.heap.size) (Nat.le_refl _) (.int .i64 1) (.int .i64 (i : Int)) (.string .empty) (.int .i64 dc) (.int .i64 de) (.string .empty) (.int .i64 0) (.int .i64 0) (.bool false) (.bool false)) (.cells #[.int .i64 dc, .int .i64 de] 30)
  clear hZ hB
  go_wp2
  exact bodyPost_ret (ret_three_b (u := 5) (u2 := 6) rfl (g := w.heap.size) rfl rfl rfl (load35 hE rfl)) rfl ⟨rfl, hF⟩
set_option maxRecDepth 100000 in
set_option maxHeartbeats 4000000 in
theorem on_Q0 (l : List UInt8) (i : Nat) (x : UInt8) (w : World) (hi : i < (bs l).size) (hg : (((bs l)[i]'hi).toNat : Int) = (x.toNat : Int)) (k : Nat) (T : List UInt8)
    (h35 : ∀ W, Hid (Calls Tryz.prog 35 #[.int .u8 (x.toNat : Int)] W fun e w' => e = .returned (.bool false) ∧ w' = W))
    (t34 : ((x.toNat : Int) == 34) = true)
    (h38 : ∀ W, Hid (Calls Tryz.prog 38 #[.string (bs l), .int .i64 (i : Int)] W fun e w' => e = .returned (.tuple #[.string (bs T), .int .i64 (k : Int), .bool false]) ∧ Below W.heap.size W w')) :
    Calls Tryz.prog 22 #[.string (bs l), .int .i64 (i : Int)] w fun e w' => e = tokR Tk.zero 0 40 ∧ Below w.heap.size w w' := by
  have HZ : ∀ W, Below (w.alloc (.cells z10 35)).heap.size (w.alloc (.cells z10 35)) W → Hid (Row W w.heap.size 35 z10 ∧ Below w.heap.size w W) := fun W hW => one_row w W _ _ hW
  unfold z10 at HZ
  go_enter Tryz.func22, Tryz.ntmps22
  go_wp2_with fail
  refine Calls.mono (h35 _).out ?_
  rintro _ w0 ⟨rfl, hw⟩
  rw [hw]
  clear hw w0
  go_wp2_with fail
  refine Calls.mono (h38 _).out ?_
  rintro _ w2 ⟨rfl, q2⟩
  clear h38
  obtain ⟨hZ, hB⟩ := (HZ _ q2).out
  clear q2 HZ
  have HZB : Hid (Row w2 w.heap.size 35 #[.int .i64 0, .int .i64 0, .string .empty, .int .i64 0, .int .i64 0, .string .empty, .int .i64 0, .int .i64 0, .bool false, .bool false] ∧ Below w.heap.size w w2) := ⟨hZ, hB⟩
  clear hZ hB
  have hZ := HZB.out.1
  have hB := HZB.out.2
  clear HZB
  obtain ⟨c0, c1, c2, c3, c4, c5, c6, c7, c8, c9⟩ := hZ.ten
  have fZ := hZ.frozen
  have lZ := hZ.lt
  have hE := Row.set10 hZ (.int .i64 0) (.int .i64 0) (.string .empty) (.int .i64 0) (.int .i64 0) (.string .empty) (.int .i64 0) (.int .i64 0) (.bool false) (.bool false)
  have hF := below_set10 hB (B := w.heap.size) (Nat.le_refl _) (.int .i64 0) (.int .i64 0) (.string .empty) (.int .i64 0) (.int .i64 0) (.string .empty) (.int .i64 0) (.int .i64 0) (.bool false) (.bool false)
  clear hZ hB
  go_wp2
  exact bodyPost_ret (ret_three_b (u := 5) (u2 := 6) rfl (g := w.heap.size) rfl rfl rfl (load35 hE rfl)) rfl ⟨rfl, hF⟩
end Go.Proofs.YtgihginfegckcaaGreatDoor
/- lex's document: a token, way by way. -/
namespace Go.Proofs.YtgihginfegckcaaGreatDoor
open Go.RowKit

set_option maxRecDepth 100000 in
set_option maxHeartbeats 4000000 in
theorem on_Q2 (l : List UInt8) (i : Nat) (x : UInt8) (w : World) (hi : i < (bs l).size) (hg : (((bs l)[i]'hi).toNat : Int) = (x.toNat : Int)) (k : Nat) (T : List UInt8) (er : Int)
    (h35 : ∀ W, Hid (Calls Tryz.prog 35 #[.int .u8 (x.toNat : Int)] W fun e w' => e = .returned (.bool false) ∧ w' = W))
    (t34 : ((x.toNat : Int) == 34) = true)
    (h38 : ∀ W, Hid (Calls Tryz.prog 38 #[.string (bs l), .int .i64 (i : Int)] W fun e w' => e = .returned (.tuple #[.string (bs T), .int .i64 (k : Int), .bool true]) ∧ Below W.heap.size W w'))
    (hT : (bs T).size ≤ 255)
    (h39 : ∀ W, Hid (Calls Tryz.prog 39 #[.string (bs T)] W fun e w' => e = .returned (.int .i64 er) ∧ Below W.heap.size W w')) :
    Calls Tryz.prog 22 #[.string (bs l), .int .i64 (i : Int)] w fun e w' => e = tokR ⟨2, (i : Int), T, 0, 0, Rf.zero⟩ k er ∧ Below w.heap.size w w' := by
  have HZ : ∀ W, Below (w.alloc (.cells z10 35)).heap.size (w.alloc (.cells z10 35)) W → Hid (Row W w.heap.size 35 z10 ∧ Below w.heap.size w W) := fun W hW => one_row w W _ _ hW
  unfold z10 at HZ
  have u1 : decide ((255 : Int) < ((bs T).size : Int)) = false := decide_eq_false (by omega)
  go_enter Tryz.func22, Tryz.ntmps22
  go_wp2_with fail
  refine Calls.mono (h35 _).out ?_
  rintro _ w0 ⟨rfl, hw⟩
  rw [hw]
  clear hw w0
  go_wp2_with fail
  refine Calls.mono (h38 _).out ?_
  rintro _ w2 ⟨rfl, q2⟩
  clear h38
  obtain ⟨hZ, hB⟩ := (HZ _ q2).out
  clear q2 HZ
  have HZB : Hid (Row w2 w.heap.size 35 #[.int .i64 0, .int .i64 0, .string .empty, .int .i64 0, .int .i64 0, .string .empty, .int .i64 0, .int .i64 0, .bool false, .bool false] ∧ Below w.heap.size w w2) := ⟨hZ, hB⟩
  clear hZ hB
  go_wp2_with fail
  refine Calls.mono (h39 _).out ?_
  rintro _ w3 ⟨rfl, q3⟩
  clear h39
  have hZ := HZB.out.1.below q3 HZB.out.1.lt
  have hB := HZB.out.2.trans (q3.mono HZB.out.2.size)
  clear q3 HZB
  obtain ⟨c0, c1, c2, c3, c4, c5, c6, c7, c8, c9⟩ := hZ.ten
  have fZ := hZ.frozen
  have lZ := hZ.lt
  have hE := Row.set10 hZ (.int .i64 2) (.int .i64 (i : Int)) (.string (bs T)) (.int .i64 0) (.int .i64 0) (.string .empty) (.int .i64 0) (.int .i64 0) (.bool false) (.bool false)
  have hF := below_set10 hB (B := w.heap.size) (Nat.le_refl _) (.int .i64 2) (.int .i64 (i : Int)) (.string (bs T)) (.int .i64 0) (.int .i64 0) (.string .empty) (.int .i64 0) (.int .i64 0) (.bool false) (.bool false)
  clear hZ hB
  go_wp2
  exact bodyPost_ret (ret_three_b (u := 5) (u2 := 6) rfl (g := w.heap.size) rfl rfl rfl (load35 hE rfl)) rfl ⟨rfl, hF⟩
set_option maxRecDepth 100000 in
set_option maxHeartbeats 4000000 in
theorem on_A0 (l : List UInt8) (i : Nat) (x : UInt8) (w : World) (hi : i < (bs l).size) (hg : (((bs l)[i]'hi).toNat : Int) = (x.toNat : Int)) (k : Nat) (T : List UInt8)
    (h35 : ∀ W, Hid (Calls Tryz.prog 35 #[.int .u8 (x.toNat : Int)] W fun e w' => e = .returned (.bool false) ∧ w' = W))
    (t34 : ((x.toNat : Int) == 34) = false)
    (t39 : ((x.toNat : Int) == 39) = true)
    (h38 : ∀ W, Hid (Calls Tryz.prog 38 #[.string (bs l), .int .i64 (i : Int)] W fun e w' => e = .returned (.tuple #[.string (bs T), .int .i64 (k : Int), .bool false]) ∧ Below W.heap.size W w')) :
    Calls Tryz.prog 22 #[.string (bs l), .int .i64 (i : Int)] w fun e w' => e = tokR Tk.zero 0 40 ∧ Below w.heap.size w w' := by
  have HZ : ∀ W, Below (w.alloc (.cells z10 35)).heap.size (w.alloc (.cells z10 35)) W → Hid (Row W w.heap.size 35 z10 ∧ Below w.heap.size w W) := fun W hW => one_row w W _ _ hW
  unfold z10 at HZ
  go_enter Tryz.func22, Tryz.ntmps22
  go_wp2_with fail
  refine Calls.mono (h35 _).out ?_
  rintro _ w0 ⟨rfl, hw⟩
  rw [hw]
  clear hw w0
  go_wp2_with fail
  refine Calls.mono (h38 _).out ?_
  rintro _ w2 ⟨rfl, q2⟩
  clear h38
  obtain ⟨hZ, hB⟩ := (HZ _ q2).out
  clear q2 HZ
  have HZB : Hid (Row w2 w.heap.size 35 #[.int .i64 0, .int .i64 0, .string .empty, .int .i64 0, .int .i64 0, .string .empty, .int .i64 0, .int .i64 0, .bool false, .bool false] ∧ Below w.heap.size w w2) := ⟨hZ, hB⟩
  clear hZ hB
  have hZ := HZB.out.1
  have hB := HZB.out.2
  clear HZB
  obtain ⟨c0, c1, c2, c3, c4, c5, c6, c7, c8, c9⟩ := hZ.ten
  have fZ := hZ.frozen
  have lZ := hZ.lt
  have hE := Row.set10 hZ (.int .i64 0) (.int .i64 0) (.string .empty) (.int .i64 0) (.int .i64 0) (.string .empty) (.int .i64 0) (.int .i64 0) (.bool false) (.bool false)
  have hF := below_set10 hB (B := w.heap.size) (Nat.le_refl _) (.int .i64 0) (.int .i64 0) (.string .empty) (.int .i64 0) (.int .i64 0) (.string .empty) (.int .i64 0) (.int .i64 0) (.bool false) (.bool false)
  clear hZ hB
  go_wp2
  exact bodyPost_ret (ret_three_b (u := 5) (u2 := 6) rfl (g := w.heap.size) rfl rfl rfl (load35 hE rfl)) rfl ⟨rfl, hF⟩
set_option maxRecDepth 100000 in
set_option maxHeartbeats 4000000 in
theorem on_A1 (l : List UInt8) (i : Nat) (x : UInt8) (w : World) (hi : i < (bs l).size) (hg : (((bs l)[i]'hi).toNat : Int) = (x.toNat : Int)) (k : Nat) (T : List UInt8) (z : UInt8)
    (h35 : ∀ W, Hid (Calls Tryz.prog 35 #[.int .u8 (x.toNat : Int)] W fun e w' => e = .returned (.bool false) ∧ w' = W))
    (t34 : ((x.toNat : Int) == 34) = false)
    (t39 : ((x.toNat : Int) == 39) = true)
    (h38 : ∀ W, Hid (Calls Tryz.prog 38 #[.string (bs l), .int .i64 (i : Int)] W fun e w' => e = .returned (.tuple #[.string (bs T), .int .i64 (k : Int), .bool true]) ∧ Below W.heap.size W w'))
    (h40 : ∀ W, Hid (Calls Tryz.prog 40 #[.string (bs l), .int .i64 (k : Int)] W fun e w' => e = .returned (.int .u8 (z.toNat : Int)) ∧ w' = W))
    (tz : ((z.toNat : Int) != 33) = true) :
    Calls Tryz.prog 22 #[.string (bs l), .int .i64 (i : Int)] w fun e w' => e = tokR Tk.zero 0 40 ∧ Below w.heap.size w w' := by
  have HZ : ∀ W, Below (w.alloc (.cells z10 35)).heap.size (w.alloc (.cells z10 35)) W → Hid (Row W w.heap.size 35 z10 ∧ Below w.heap.size w W) := fun W hW => one_row w W _ _ hW
  unfold z10 at HZ
  go_enter Tryz.func22, Tryz.ntmps22
  go_wp2_with fail
  refine Calls.mono (h35 _).out ?_
  rintro _ w0 ⟨rfl, hw⟩
  rw [hw]
  clear hw w0
  go_wp2_with fail
  refine Calls.mono (h38 _).out ?_
  rintro _ w2 ⟨rfl, q2⟩
  clear h38
  obtain ⟨hZ, hB⟩ := (HZ _ q2).out
  clear q2 HZ
  have HZB : Hid (Row w2 w.heap.size 35 #[.int .i64 0, .int .i64 0, .string .empty, .int .i64 0, .int .i64 0, .string .empty, .int .i64 0, .int .i64 0, .bool false, .bool false] ∧ Below w.heap.size w w2) := ⟨hZ, hB⟩
  clear hZ hB
  go_wp2_with fail
  refine Calls.mono (h40 _).out ?_
  rintro _ w0 ⟨rfl, hw⟩
  rw [hw]
  clear hw w0
  have hZ := HZB.out.1
  have hB := HZB.out.2
  clear HZB
  obtain ⟨c0, c1, c2, c3, c4, c5, c6, c7, c8, c9⟩ := hZ.ten
  have fZ := hZ.frozen
  have lZ := hZ.lt
  have hE := Row.set10 hZ (.int .i64 0) (.int .i64 0) (.string .empty) (.int .i64 0) (.int .i64 0) (.string .empty) (.int .i64 0) (.int .i64 0) (.bool false) (.bool false)
  have hF := below_set10 hB (B := w.heap.size) (Nat.le_refl _) (.int .i64 0) (.int .i64 0) (.string .empty) (.int .i64 0) (.int .i64 0) (.string .empty) (.int .i64 0) (.int .i64 0) (.bool false) (.bool false)
  clear hZ hB
  go_wp2
  exact bodyPost_ret (ret_three_b (u := 5) (u2 := 6) rfl (g := w.heap.size) rfl rfl rfl (load35 hE rfl)) rfl ⟨rfl, hF⟩
end Go.Proofs.YtgihginfegckcaaGreatDoor
/- lex's document: a token, way by way. -/
namespace Go.Proofs.YtgihginfegckcaaGreatDoor
open Go.RowKit

set_option maxRecDepth 100000 in
set_option maxHeartbeats 4000000 in
theorem on_A2 (l : List UInt8) (i : Nat) (x : UInt8) (w : World) (hi : i < (bs l).size) (hg : (((bs l)[i]'hi).toNat : Int) = (x.toNat : Int)) (k : Nat) (T : List UInt8) (z : UInt8) (k2 : Nat) (t : Tk) (er : Int) (hk3 : k ≤ 1000000)
    (h35 : ∀ W, Hid (Calls Tryz.prog 35 #[.int .u8 (x.toNat : Int)] W fun e w' => e = .returned (.bool false) ∧ w' = W))
    (t34 : ((x.toNat : Int) == 34) = false)
    (t39 : ((x.toNat : Int) == 39) = true)
    (h38 : ∀ W, Hid (Calls Tryz.prog 38 #[.string (bs l), .int .i64 (i : Int)] W fun e w' => e = .returned (.tuple #[.string (bs T), .int .i64 (k : Int), .bool true]) ∧ Below W.heap.size W w'))
    (h40 : ∀ W, Hid (Calls Tryz.prog 40 #[.string (bs l), .int .i64 (k : Int)] W fun e w' => e = .returned (.int .u8 (z.toNat : Int)) ∧ w' = W))
    (tz : ((z.toNat : Int) != 33) = false)
    (h42 : ∀ v : Int, v = (k : Int) + 1 → ∀ W, Hid (Calls Tryz.prog 42 #[.string (bs l), .int .i64 v, .bool true] W fun e w' => e = .returned (.int .i64 (k2 : Int)) ∧ w' = W))
    (h41 : ∀ W, Hid (Calls Tryz.prog 41 #[.string (bs l), .int .i64 (i : Int), .int .i64 (k2 : Int)] W fun e w' => e = tokR t k2 er ∧ Below W.heap.size W w')) :
    Calls Tryz.prog 22 #[.string (bs l), .int .i64 (i : Int)] w fun e w' => e = tokR t k2 er ∧ Below w.heap.size w w' := by
  have HZ : ∀ W, Below (w.alloc (.cells z10 35)).heap.size (w.alloc (.cells z10 35)) W → Hid (Row W w.heap.size 35 z10 ∧ Below w.heap.size w W) := fun W hW => one_row w W _ _ hW
  unfold z10 at HZ
  unfold tokR Tk.v Tk.cells at h41
  go_enter Tryz.func22, Tryz.ntmps22
  go_wp2_with fail
  refine Calls.mono (h35 _).out ?_
  rintro _ w0 ⟨rfl, hw⟩
  rw [hw]
  clear hw w0
  go_wp2_with fail
  refine Calls.mono (h38 _).out ?_
  rintro _ w2 ⟨rfl, q2⟩
  clear h38
  obtain ⟨hZ, hB⟩ := (HZ _ q2).out
  clear q2 HZ
  have HZB : Hid (Row w2 w.heap.size 35 #[.int .i64 0, .int .i64 0, .string .empty, .int .i64 0, .int .i64 0, .string .empty, .int .i64 0, .int .i64 0, .bool false, .bool false] ∧ Below w.heap.size w w2) := ⟨hZ, hB⟩
  clear hZ hB
  go_wp2_with fail
  refine Calls.mono (h40 _).out ?_
  rintro _ w0 ⟨rfl, hw⟩
  rw [hw]
  clear hw w0
  go_wp2_with fail
  refine Calls.mono (h42 _ (by omega) _).out ?_
  rintro _ w0 ⟨rfl, hw⟩
  rw [hw]
  clear hw w0
  go_wp2_with fail
  refine Calls.mono (h41 _).out ?_
  rintro _ w3 ⟨rfl, q3⟩
  clear h41
  have hZ := HZB.out.1.below q3 HZB.out.1.lt
  have hB := HZB.out.2.trans (q3.mono HZB.out.2.size)
  clear q3 HZB
  obtain ⟨c0, c1, c2, c3, c4, c5, c6, c7, c8, c9⟩ := hZ.ten
  have fZ := hZ.frozen
  have lZ := hZ.lt
  have hE := Row.set10 hZ (.int .i64 t.k) (.int .i64 t.at') (.string (bs t.s)) (.int .i64 t.c) (.int .i64 t.e) (.string t.r.s) (.int .i64 t.r.c) (.int .i64 t.r.r) (.bool t.r.ac) (.bool t.r.ar)
  have hF := below_set10 hB (B := w.heap.size) (Nat.le_refl _) (.int .i64 t.k) (.int .i64 t.at') (.string (bs t.s)) (.int .i64 t.c) (.int .i64 t.e) (.string t.r.s) (.int .i64 t.r.c) (.int .i64 t.r.r) (.bool t.r.ac) (.bool t.r.ar)
  clear hZ hB
  go_wp2
  exact bodyPost_ret (ret_three_b (u := 5) (u2 := 6) rfl (g := w.heap.size) rfl rfl rfl (load35 hE rfl)) rfl ⟨rfl, hF⟩
set_option maxRecDepth 100000 in
set_option maxHeartbeats 4000000 in
theorem on_W1 (l : List UInt8) (i : Nat) (x : UInt8) (w : World) (hi : i < (bs l).size) (hg : (((bs l)[i]'hi).toNat : Int) = (x.toNat : Int)) (r : Tk × Nat × Int)
    (h35 : ∀ W, Hid (Calls Tryz.prog 35 #[.int .u8 (x.toNat : Int)] W fun e w' => e = .returned (.bool false) ∧ w' = W))
    (t34 : ((x.toNat : Int) == 34) = false)
    (t39 : ((x.toNat : Int) == 39) = false)
    (h43 : ∀ W, Hid (Calls Tryz.prog 43 #[.int .u8 (x.toNat : Int)] W fun e w' => e = .returned (.bool true) ∧ w' = W))
    (h44 : ∀ W, Hid (Calls Tryz.prog 44 #[.string (bs l), .int .i64 (i : Int)] W fun e w' => OneP i r e ∧ Below W.heap.size W w')) :
    Calls Tryz.prog 22 #[.string (bs l), .int .i64 (i : Int)] w fun e w' => OneP i r e ∧ Below w.heap.size w w' := by
  have HZ : ∀ W, Below (w.alloc (.cells z10 35)).heap.size (w.alloc (.cells z10 35)) W → Hid (Row W w.heap.size 35 z10 ∧ Below w.heap.size w W) := fun W hW => one_row w W _ _ hW
  unfold z10 at HZ
  go_enter Tryz.func22, Tryz.ntmps22
  go_wp2_with fail
  refine Calls.mono (h35 _).out ?_
  rintro _ w0 ⟨rfl, hw⟩
  rw [hw]
  clear hw w0
  go_wp2_with fail
  refine Calls.mono (h43 _).out ?_
  rintro _ w0 ⟨rfl, hw⟩
  rw [hw]
  clear hw w0
  go_wp2_with fail
  refine Calls.mono (h44 _).out ?_
  rintro _ w3 ⟨⟨t, k, rfl, hr⟩, q3⟩
  clear h44
  have HR : Hid _ := hr
  clear hr
  unfold tokR Tk.v Tk.cells
  obtain ⟨hZ, hB⟩ := (HZ _ q3).out
  clear q3 HZ
  obtain ⟨c0, c1, c2, c3, c4, c5, c6, c7, c8, c9⟩ := hZ.ten
  have fZ := hZ.frozen
  have lZ := hZ.lt
  have hE := Row.set10 hZ (.int .i64 t.k) (.int .i64 t.at') (.string (bs t.s)) (.int .i64 t.c) (.int .i64 t.e) (.string t.r.s) (.int .i64 t.r.c) (.int .i64 t.r.r) (.bool t.r.ac) (.bool t.r.ar)
  have hF := below_set10 hB (B := w.heap.size) (Nat.le_refl _) (.int .i64 t.k) (.int .i64 t.at') (.string (bs t.s)) (.int .i64 t.c) (.int .i64 t.e) (.string t.r.s) (.int .i64 t.r.c) (.int .i64 t.r.r) (.bool t.r.ac) (.bool t.r.ar)
  clear hZ hB
  go_wp2
  exact bodyPost_ret (ret_three_b (u := 5) (u2 := 6) rfl (g := w.heap.size) rfl rfl rfl (load35 hE rfl)) rfl ⟨⟨t, k, rfl, HR.out⟩, hF⟩
end Go.Proofs.YtgihginfegckcaaGreatDoor
/- lex's document: a token, way by way. -/
namespace Go.Proofs.YtgihginfegckcaaGreatDoor
open Go.RowKit

set_option maxRecDepth 100000 in
set_option maxHeartbeats 4000000 in
theorem on_W2 (l : List UInt8) (i : Nat) (w : World) (hi : i < (bs l).size) (hg : (((bs l)[i]'hi).toNat : Int) = 36) (r : Tk × Nat × Int)
    (h35 : ∀ W, Hid (Calls Tryz.prog 35 #[.int .u8 36] W fun e w' => e = .returned (.bool false) ∧ w' = W))
    (h43 : ∀ W, Hid (Calls Tryz.prog 43 #[.int .u8 36] W fun e w' => e = .returned (.bool false) ∧ w' = W))
    (h44 : ∀ W, Hid (Calls Tryz.prog 44 #[.string (bs l), .int .i64 (i : Int)] W fun e w' => OneP i r e ∧ Below W.heap.size W w')) :
    Calls Tryz.prog 22 #[.string (bs l), .int .i64 (i : Int)] w fun e w' => OneP i r e ∧ Below w.heap.size w w' := by
  have HZ : ∀ W, Below (w.alloc (.cells z10 35)).heap.size (w.alloc (.cells z10 35)) W → Hid (Row W w.heap.size 35 z10 ∧ Below w.heap.size w W) := fun W hW => one_row w W _ _ hW
  unfold z10 at HZ
  go_enter Tryz.func22, Tryz.ntmps22
  go_wp2_with fail
  refine Calls.mono (h35 _).out ?_
  rintro _ w0 ⟨rfl, hw⟩
  rw [hw]
  clear hw w0
  go_wp2_with fail
  refine Calls.mono (h43 _).out ?_
  rintro _ w0 ⟨rfl, hw⟩
  rw [hw]
  clear hw w0
  go_wp2_with fail
  refine Calls.mono (h44 _).out ?_
  rintro _ w3 ⟨⟨t, k, rfl, hr⟩, q3⟩
  clear h44
  have HR : Hid _ := hr
  clear hr
  unfold tokR Tk.v Tk.cells
  obtain ⟨hZ, hB⟩ := (HZ _ q3).out
  clear q3 HZ
  obtain ⟨c0, c1, c2, c3, c4, c5, c6, c7, c8, c9⟩ := hZ.ten
  have fZ := hZ.frozen
  have lZ := hZ.lt
  have hE := Row.set10 hZ (.int .i64 t.k) (.int .i64 t.at') (.string (bs t.s)) (.int .i64 t.c) (.int .i64 t.e) (.string t.r.s) (.int .i64 t.r.c) (.int .i64 t.r.r) (.bool t.r.ac) (.bool t.r.ar)
  have hF := below_set10 hB (B := w.heap.size) (Nat.le_refl _) (.int .i64 t.k) (.int .i64 t.at') (.string (bs t.s)) (.int .i64 t.c) (.int .i64 t.e) (.string t.r.s) (.int .i64 t.r.c) (.int .i64 t.r.r) (.bool t.r.ac) (.bool t.r.ar)
  clear hZ hB
  go_wp2
  exact bodyPost_ret (ret_three_b (u := 5) (u2 := 6) rfl (g := w.heap.size) rfl rfl rfl (load35 hE rfl)) rfl ⟨⟨t, k, rfl, HR.out⟩, hF⟩
end Go.Proofs.YtgihginfegckcaaGreatDoor
/- lex's document: a token, way by way. -/
namespace Go.Proofs.YtgihginfegckcaaGreatDoor
open Go.RowKit

set_option maxRecDepth 100000 in
set_option maxHeartbeats 4000000 in
theorem on_M1 (l : List UInt8) (i : Nat) (x : UInt8) (w : World) (hi : i < (bs l).size) (hg : (((bs l)[i]'hi).toNat : Int) = (x.toNat : Int)) (r : Tk × Nat × Int)
    (h35 : ∀ W, Hid (Calls Tryz.prog 35 #[.int .u8 (x.toNat : Int)] W fun e w' => e = .returned (.bool false) ∧ w' = W))
    (t34 : ((x.toNat : Int) == 34) = false)
    (t39 : ((x.toNat : Int) == 39) = false)
    (h43 : ∀ W, Hid (Calls Tryz.prog 43 #[.int .u8 (x.toNat : Int)] W fun e w' => e = .returned (.bool false) ∧ w' = W))
    (t36 : ((x.toNat : Int) == 36) = false)
    (h5 : ¬ i + 5 ≤ (bs l).size)
    (h44 : ∀ W, Hid (Calls Tryz.prog 45 #[.string (bs l), .int .i64 (i : Int)] W fun e w' => OneP i r e ∧ Below W.heap.size W w')) :
    Calls Tryz.prog 22 #[.string (bs l), .int .i64 (i : Int)] w fun e w' => OneP i r e ∧ Below w.heap.size w w' := by
  have HZ : ∀ W, Below (w.alloc (.cells z10 35)).heap.size (w.alloc (.cells z10 35)) W → Hid (Row W w.heap.size 35 z10 ∧ Below w.heap.size w W) := fun W hW => one_row w W _ _ hW
  unfold z10 at HZ
  have u1 : decide ((5 : Int) ≤ ((bs l).size : Int) - (i : Int)) = false := decide_eq_false (by omega)
  have u2 : ¬ ((5 : Int) ≤ ((bs l).size : Int) - (i : Int)) := by omega
  go_enter Tryz.func22, Tryz.ntmps22
  go_wp2_with fail
  refine Calls.mono (h35 _).out ?_
  rintro _ w0 ⟨rfl, hw⟩
  rw [hw]
  clear hw w0
  go_wp2_with fail
  refine Calls.mono (h43 _).out ?_
  rintro _ w0 ⟨rfl, hw⟩
  rw [hw]
  clear hw w0
  go_wp2_with fail
  refine Calls.mono (h44 _).out ?_
  rintro _ w3 ⟨⟨t, k, rfl, hr⟩, q3⟩
  clear h44
  have HR : Hid _ := hr
  clear hr
  unfold tokR Tk.v Tk.cells
  obtain ⟨hZ, hB⟩ := (HZ _ q3).out
  clear q3 HZ
  obtain ⟨c0, c1, c2, c3, c4, c5, c6, c7, c8, c9⟩ := hZ.ten
  have fZ := hZ.frozen
  have lZ := hZ.lt
  have hE := Row.set10 hZ (.int .i64 t.k) (.int .i64 t.at') (.string (bs t.s)) (.int .i64 t.c) (.int .i64 t.e) (.string t.r.s) (.int .i64 t.r.c) (.int .i64 t.r.r) (.bool t.r.ac) (.bool t.r.ar)
  have hF := below_set10 hB (B := w.heap.size) (Nat.le_refl _) (.int .i64 t.k) (.int .i64 t.at') (.string (bs t.s)) (.int .i64 t.c) (.int .i64 t.e) (.string t.r.s) (.int .i64 t.r.c) (.int .i64 t.r.r) (.bool t.r.ac) (.bool t.r.ar)
  clear hZ hB
  go_wp2
  exact bodyPost_ret (ret_three_b (u := 5) (u2 := 6) rfl (g := w.heap.size) rfl rfl rfl (load35 hE rfl)) rfl ⟨⟨t, k, rfl, HR.out⟩, hF⟩
set_option maxRecDepth 100000 in
set_option maxHeartbeats 4000000 in
theorem on_M2 (l : List UInt8) (i : Nat) (x : UInt8) (w : World) (hi : i < (bs l).size) (hg : (((bs l)[i]'hi).toNat : Int) = (x.toNat : Int)) (hsz : (bs l).size ≤ 1000000) (n : Nat) (V : List UInt8) (hn : n = i + 5) (hV : (bs l).extract i n = bs V) (r : Tk × Nat × Int)
    (h35 : ∀ W, Hid (Calls Tryz.prog 35 #[.int .u8 (x.toNat : Int)] W fun e w' => e = .returned (.bool false) ∧ w' = W))
    (t34 : ((x.toNat : Int) == 34) = false)
    (t39 : ((x.toNat : Int) == 39) = false)
    (h43 : ∀ W, Hid (Calls Tryz.prog 43 #[.int .u8 (x.toNat : Int)] W fun e w' => e = .returned (.bool false) ∧ w' = W))
    (t36 : ((x.toNat : Int) == 36) = false)
    (h5 : n ≤ (bs l).size)
    (tV : ((bs V).toList == [35, 82, 69, 70, 33]) = false)
    (h44 : ∀ W, Hid (Calls Tryz.prog 45 #[.string (bs l), .int .i64 (i : Int)] W fun e w' => OneP i r e ∧ Below W.heap.size W w')) :
    Calls Tryz.prog 22 #[.string (bs l), .int .i64 (i : Int)] w fun e w' => OneP i r e ∧ Below w.heap.size w w' := by
  have HZ : ∀ W, Below (w.alloc (.cells z10 35)).heap.size (w.alloc (.cells z10 35)) W → Hid (Row W w.heap.size 35 z10 ∧ Below w.heap.size w W) := fun W hW => one_row w W _ _ hW
  unfold z10 at HZ
  have u1 : decide ((5 : Int) ≤ ((bs l).size : Int) - (i : Int)) = true := decide_eq_true (by omega)
  have u2 : (5 : Int) ≤ ((bs l).size : Int) - (i : Int) := by omega
  have u3 : (i : Int) + 5 = (n : Int) := by omega
  have u4 : (i : Int) ≤ (n : Int) := by omega
  have u5 : (n : Int) ≤ ((bs l).size : Int) := by omega
  clear hn
  go_enter Tryz.func22, Tryz.ntmps22
  go_wp2_with fail
  refine Calls.mono (h35 _).out ?_
  rintro _ w0 ⟨rfl, hw⟩
  rw [hw]
  clear hw w0
  go_wp2_with fail
  refine Calls.mono (h43 _).out ?_
  rintro _ w0 ⟨rfl, hw⟩
  rw [hw]
  clear hw w0
  go_wp2_with fail
  refine Calls.mono (h44 _).out ?_
  rintro _ w3 ⟨⟨t, k, rfl, hr⟩, q3⟩
  clear h44
  have HR : Hid _ := hr
  clear hr
  unfold tokR Tk.v Tk.cells
  obtain ⟨hZ, hB⟩ := (HZ _ q3).out
  clear q3 HZ
  obtain ⟨c0, c1, c2, c3, c4, c5, c6, c7, c8, c9⟩ := hZ.ten
  have fZ := hZ.frozen
  have lZ := hZ.lt
  have hE := Row.set10 hZ (.int .i64 t.k) (.int .i64 t.at') (.string (bs t.s)) (.int .i64 t.c) (.int .i64 t.e) (.string t.r.s) (.int .i64 t.r.c) (.int .i64 t.r.r) (.bool t.r.ac) (.bool t.r.ar)
  have hF := below_set10 hB (B := w.heap.size) (Nat.le_refl _) (.int .i64 t.k) (.int .i64 t.at') (.string (bs t.s)) (.int .i64 t.c) (.int .i64 t.e) (.string t.r.s) (.int .i64 t.r.c) (.int .i64 t.r.r) (.bool t.r.ac) (.bool t.r.ar)
  clear hZ hB
  go_wp2
  exact bodyPost_ret (ret_three_b (u := 5) (u2 := 6) rfl (g := w.heap.size) rfl rfl rfl (load35 hE rfl)) rfl ⟨⟨t, k, rfl, HR.out⟩, hF⟩
end Go.Proofs.YtgihginfegckcaaGreatDoor
/- lex's document: a token, way by way. -/
namespace Go.Proofs.YtgihginfegckcaaGreatDoor
open Go.RowKit

set_option maxRecDepth 100000 in
set_option maxHeartbeats 4000000 in
theorem on_Q1 (l : List UInt8) (i : Nat) (x : UInt8) (w : World) (hi : i < (bs l).size) (hg : (((bs l)[i]'hi).toNat : Int) = (x.toNat : Int)) (k : Nat) (T : List UInt8)
    (h35 : ∀ W, Hid (Calls Tryz.prog 35 #[.int .u8 (x.toNat : Int)] W fun e w' => e = .returned (.bool false) ∧ w' = W))
    (t34 : ((x.toNat : Int) == 34) = true)
    (h38 : ∀ W, Hid (Calls Tryz.prog 38 #[.string (bs l), .int .i64 (i : Int)] W fun e w' => e = .returned (.tuple #[.string (bs T), .int .i64 (k : Int), .bool true]) ∧ Below W.heap.size W w'))
    (hT : 255 < (bs T).size) :
    Calls Tryz.prog 22 #[.string (bs l), .int .i64 (i : Int)] w fun e w' => e = tokR Tk.zero 0 3 ∧ Below w.heap.size w w' := by
  have HZ : ∀ W, Below (w.alloc (.cells z10 35)).heap.size (w.alloc (.cells z10 35)) W → Hid (Row W w.heap.size 35 z10 ∧ Below w.heap.size w W) := fun W hW => one_row w W _ _ hW
  unfold z10 at HZ
  have u1 : decide ((255 : Int) < ((bs T).size : Int)) = true := decide_eq_true (by omega)
  have u2 : (255 : Int) < ((bs T).size : Int) := by omega
  go_enter Tryz.func22, Tryz.ntmps22
  go_wp2_with fail
  refine Calls.mono (h35 _).out ?_
  rintro _ w0 ⟨rfl, hw⟩
  rw [hw]
  clear hw w0
  go_wp2_with fail
  refine Calls.mono (h38 _).out ?_
  rintro _ w2 ⟨rfl, q2⟩
  clear h38
  obtain ⟨hZ, hB⟩ := (HZ _ q2).out
  clear q2 HZ
  have HZB : Hid (Row w2 w.heap.size 35 #[.int .i64 0, .int .i64 0, .string .empty, .int .i64 0, .int .i64 0, .string .empty, .int .i64 0, .int .i64 0, .bool false, .bool false] ∧ Below w.heap.size w w2) := ⟨hZ, hB⟩
  clear hZ hB
  have hZ := HZB.out.1
  have hB := HZB.out.2
  clear HZB
  obtain ⟨c0, c1, c2, c3, c4, c5, c6, c7, c8, c9⟩ := hZ.ten
  have fZ := hZ.frozen
  have lZ := hZ.lt
  have hE := Row.set10 hZ (.int .i64 0) (.int .i64 0) (.string .empty) (.int .i64 0) (.int .i64 0) (.string .empty) (.int .i64 0) (.int .i64 0) (.bool false) (.bool false)
  have hF := below_set10 hB (B := w.heap.size) (Nat.le_refl _) (.int .i64 0) (.int .i64 0) (.string .empty) (.int .i64 0) (.int .i64 0) (.string .empty) (.int .i64 0) (.int .i64 0) (.bool false) (.bool false)
  clear hZ hB
  go_wp2
  exact bodyPost_ret (ret_three_b (u := 5) (u2 := 6) rfl (g := w.heap.size) rfl rfl rfl (load35 hE rfl)) rfl ⟨rfl, hF⟩
end Go.Proofs.YtgihginfegckcaaGreatDoor
/- lex's document: a token, way by way. -/
namespace Go.Proofs.YtgihginfegckcaaGreatDoor
open Go.RowKit

set_option maxRecDepth 100000 in
set_option maxHeartbeats 4000000 in
theorem on_B (l : List UInt8) (i : Nat) (x : UInt8) (w : World) (hi : i < (bs l).size) (hg : (((bs l)[i]'hi).toNat : Int) = (x.toNat : Int)) (hsz : (bs l).size ≤ 1000000) (n : Nat) (hn : n = i + 5) (hV : (bs l).extract i n = ⟨#[35, 82, 69, 70, 33]⟩)
    (h35 : ∀ W, Hid (Calls Tryz.prog 35 #[.int .u8 (x.toNat : Int)] W fun e w' => e = .returned (.bool false) ∧ w' = W))
    (t34 : ((x.toNat : Int) == 34) = false)
    (t39 : ((x.toNat : Int) == 39) = false)
    (h43 : ∀ W, Hid (Calls Tryz.prog 43 #[.int .u8 (x.toNat : Int)] W fun e w' => e = .returned (.bool false) ∧ w' = W))
    (t36 : ((x.toNat : Int) == 36) = false)
    (h5 : n ≤ (bs l).size) :
    Calls Tryz.prog 22 #[.string (bs l), .int .i64 (i : Int)] w fun e w' => e = tokR ⟨6, (i : Int), [], 0, 0, Rf.zero⟩ n 0 ∧ Below w.heap.size w w' := by
  have HZ : ∀ W, Below (w.alloc (.cells z10 35)).heap.size (w.alloc (.cells z10 35)) W → Hid (Row W w.heap.size 35 z10 ∧ Below w.heap.size w W) := fun W hW => one_row w W _ _ hW
  unfold z10 at HZ
  have u1 : decide ((5 : Int) ≤ ((bs l).size : Int) - (i : Int)) = true := decide_eq_true (by omega)
  have u2 : (5 : Int) ≤ ((bs l).size : Int) - (i : Int) := by omega
  have u3 : (i : Int) + 5 = (n : Int) := by omega
  have u4 : (i : Int) ≤ (n : Int) := by omega
  have u5 : (n : Int) ≤ ((bs l).size : Int) := by omega
  clear hn
  go_enter Tryz.func22, Tryz.ntmps22
  go_wp2_with fail
  refine Calls.mono (h35 _).out ?_
  rintro _ w0 ⟨rfl, hw⟩
  rw [hw]
  clear hw w0
  go_wp2_with fail
  refine Calls.mono (h43 _).out ?_
  rintro _ w0 ⟨rfl, hw⟩
  rw [hw]
  clear hw w0
  clear HZ
  go_wp2
  exact bodyPost_ret (ret_three_b (u := 5) (u2 := 6) rfl (g := w.heap.size) rfl rfl rfl (load35 (Row.new w 35 _) rfl)) rfl ⟨rfl, (Below.refl _ w).alloc (Nat.le_refl _) _⟩
end Go.Proofs.YtgihginfegckcaaGreatDoor
