import Derived.Test.YtgihginfegckcaaGreatDoorLqp
/- lex's Quote, Word. -/
namespace Go.Proofs.YtgihginfegckcaaGreatDoor
open Go.RowKit

set_option maxRecDepth 100000 in
set_option maxHeartbeats 400000 in
theorem quote_any (s : List UInt8) (hs : s.length ≤ 1048576) (w : World) (hE : LexE w) :
    Calls Tryz.prog 12 #[.string (bs s)] w fun e w' => e = .returned (.string (bs (quoteQ s))) ∧ Below w.heap.size w w' := by
  obtain ⟨m, hm⟩ := hE.max
  have hb := bs_size s
  have hc := Lib.countB_le ⟨#[34]⟩ (by decide) (bs s).size (bs s) (Nat.le_refl _)
  have H : Hid (Calls Tryz.prog 23 #[.string (bs s), .string ⟨#[34]⟩, .string ⟨#[34, 34]⟩] w fun e w' => e = .returned (.string (bs (dblq s))) ∧ Below w.heap.size w w') := by
    have := Tryz.strings_ReplaceAll (bs s) ⟨#[34]⟩ ⟨#[34, 34]⟩ m w (by omega) hm (by decide) (by
      have : (⟨#[34, 34]⟩ : ByteArray).size = 2 := rfl
      rw [this]; omega)
    rw [← ra_dbl s.length s (Nat.le_refl _)]
    exact this
  have k1 : (bs (dblq s)).size ≤ 2097152 := by rw [bs_size]; have := dblq_len s; omega
  have HJ : Hid ((⟨#[34]⟩ ++ bs (dblq s)) ++ ⟨#[34]⟩ = bs (quoteQ s)) := by
    show _ = _
    rw [show (⟨#[34]⟩ : ByteArray) = bs [34] from rfl, bs_join, bs_join]
    rfl
  clear hc hb hm hE hs
  go_enter Tryz.func12, Tryz.ntmps12
  go_wp2_with fail
  refine Calls.mono H.out ?_
  rintro _ w1 ⟨rfl, b1⟩
  clear H
  go_wp2
  go_ret
  exact ⟨by rw [← HJ.out]; rfl, b1⟩
def trueL : List UInt8 := [84, 82, 85, 69]
def falseL : List UInt8 := [70, 65, 76, 83, 69]
def wordT (l : List UInt8) (t : Tk) : Bool := decide (t.k = 4) && decide (t.s = l) && !decide (l = trueL) && !decide (l = falseL)
def wordO (l : List UInt8) (ts : List Tk) : Bool := match ts with
  | [t] => wordT l t
  | _ => false
/-- May a text be the name of something? -/
def wordB (l : List UInt8) : Bool := decide ((lexR l).2.2 = 0) && wordO l (lexR l).1
theorem bs_eq (a b : List UInt8) : ((bs a).toList == (bs b).toList) = decide (a = b) := by
  rw [bs_toList, bs_toList]
  by_cases h : a = b
  · subst h; simp
  · rw [decide_eq_false h]; simpa using h
set_option maxRecDepth 100000 in
set_option maxHeartbeats 1000000 in
theorem word_raw (l : List UInt8) (ts : List Tk) (p : Nat) (er : Int) (w : World) (h1 : Hid (Calls Tryz.prog 7 #[.string (bs l)] w (LexPost w (ts, p, er)))) (r : Bool)
    (HR : Hid ((decide (er = 0) && wordO l ts) = r)) :
    Calls Tryz.prog 10 #[.string (bs l)] w fun e w' => e = .returned (.bool r) ∧ Below w.heap.size w w' := by
  go_enter Tryz.func10, Tryz.ntmps10
  go_wp2_with fail
  refine Calls.mono h1.out ?_
  rintro _ w1 ⟨⟨v, rfl, o1⟩, b1⟩
  clear h1
  simp only at o1
  by_cases e0 : er = 0
  · subst e0
    match ts, o1, HR with
    | [], o1, HR =>
      obtain rfl : false = r := by rw [← HR.out]; rfl
      obtain ⟨g, cap, rfl⟩ := owns_form o1
      go_wp2
      go_ret
      exact ⟨rfl, b1⟩
    | t :: t2 :: ts, o1, HR =>
      obtain rfl : false = r := by rw [← HR.out]; rfl
      obtain ⟨g, cap, rfl⟩ := owns_form o1
      have hn : (((t :: t2 :: ts).length : Int) != 1) = true := by simp; omega
      generalize (t :: t2 :: ts).length = n at hn o1 ⊢
      clear HR
      go_wp2
      go_ret
      exact ⟨rfl, b1⟩
    | [t], o1, HR =>
      obtain ⟨g, cap, rfl, c1⟩ := owns_cells o1 (by simp)
      have c0 := c1 0 (.int .i64 t.k) rfl
      have c2 := c1 2 (.string (bs t.s)) rfl
      have HB : Hid (Below w.heap.size w w1) := b1
      clear c1 o1 b1
      have e1 : (t.k == 4) = decide (t.k = 4) := by
        by_cases h : t.k = 4
        · rw [h]; rfl
        · rw [decide_eq_false h]; simpa using h
      have e2 := bs_eq t.s l
      have e3 := bs_eq l trueL
      have e4 := bs_eq l falseL
      rw [show (bs trueL).toList = [84, 82, 85, 69] by rw [bs_toList]; rfl] at e3
      rw [show (bs falseL).toList = [70, 65, 76, 83, 69] by rw [bs_toList]; rfl] at e4
      have HR2 : Hid ((decide (t.k = 4) && decide (t.s = l) && !decide (l = trueL) && !decide (l = falseL)) = r) := by
        show _ = _
        rw [← HR.out]
        simp [wordO, wordT]
      clear HR
      generalize decide (t.k = 4) = x1 at *
      generalize decide (t.s = l) = x2 at *
      generalize decide (l = trueL) = x3 at *
      generalize decide (l = falseL) = x4 at *
      cases x1
      · obtain rfl : false = r := by rw [← HR2.out]; rfl
        go_wp2
        go_ret
        exact ⟨rfl, HB.out⟩
      · cases x2
        · obtain rfl : false = r := by rw [← HR2.out]; rfl
          go_wp2
          go_ret
          exact ⟨rfl, HB.out⟩
        · cases x3
          · cases x4
            · obtain rfl : true = r := by rw [← HR2.out]; rfl
              go_wp2
              go_ret
              exact ⟨rfl, HB.out⟩
            · obtain rfl : false = r := by rw [← HR2.out]; rfl
              go_wp2
              go_ret
              exact ⟨rfl, HB.out⟩
          · obtain rfl : false = r := by rw [← HR2.out]; rfl
            go_wp2
            go_ret
            exact ⟨rfl, HB.out⟩
  · have hn : (er != 0) = true := by simpa using e0
    obtain rfl : false = r := by rw [← HR.out, decide_eq_false e0]; rfl
    clear e0 HR o1
    go_wp2
    go_ret
    exact ⟨rfl, b1⟩
theorem word_any (l : List UInt8) (w : World) (hE : LexE w) :
    Calls Tryz.prog 10 #[.string (bs l)] w fun e w' => e = .returned (.bool (wordB l)) ∧ Below w.heap.size w w' :=
  word_raw l (lexR l).1 (lexR l).2.1 (lexR l).2.2 w (lex_any l w hE) _ rfl
end Go.Proofs.YtgihginfegckcaaGreatDoor
