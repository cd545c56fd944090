/- CellsBack, whole. -/
import Derived.Test.YtnblbakjfpfipaaDoorWbk
namespace Go.Proofs.YtnblbakjfpfipaaDoor
open Go.RowKit

theorem back_any (a b : Rf) (l : List UInt8) (hl : l.length ≤ 140737488351232) (w : World) (hE : Env w) :
    Calls Tryd.prog 3 #[a.v, b.v, .string (bs l)] w fun e w' => e = .returned (.bool true) ∧ Below w.heap.size w w' := by
  have HRa : ∀ W, Hid _ := fun W => right_any a W
  have HPa : ∀ W, Env W → Hid _ := fun W hW => print_any a W hW
  have HQa : ∀ W, Hid _ := fun W => parse_any (printL a) (by have := printL_len a; omega) W
  have HRb : ∀ W, Hid _ := fun W => right_any ⟨a.s, b.c, b.r, b.ac, b.ar⟩ W
  have HPr : ∀ W, Env W → Hid _ := fun W hW => printRange_any a ⟨a.s, b.c, b.r, b.ac, b.ar⟩ W hW
  have HQs : ∀ W, Hid _ := fun W => parse_any l hl W
  have HAl : ∀ W, Env W → Hid _ := fun W hW => alive_any W hW
  have hpx : ∀ x, parseR l = (x, 0) → (∀ W, Env W → Hid (Calls Tryd.prog 7 #[x.v] W fun e w' => e = .returned (.string (bs l)) ∧ Below W.heap.size W w')) ∧ (∀ W, Hid (Calls Tryd.prog 5 #[x.v] W fun e w' => e = .returned (.bool true) ∧ Below W.heap.size W w')) := fun x hx => by
    obtain ⟨h1, h2⟩ := print_parse hx
    refine ⟨fun W hW => ?_, fun W => ?_⟩
    · have := print_any x W hW
      rw [h2] at this
      exact this
    · have := right_any x W
      rw [h1] at this
      exact this
  generalize hq : parseR l = q at HQs
  obtain ⟨x, er⟩ := q
  rw [hq] at hpx
  simp only at HQs
  cases ha : rightB a
  · rw [ha] at HRa
    by_cases he : er = 0
    · subst he
      obtain ⟨hp, hr⟩ := hpx x rfl
      exact bk_1o a.s b.s x.s a.c a.r b.c b.r x.c x.r a.ac a.ar b.ac b.ar x.ac x.ar l w hE HRa HQs hp hr HAl
    · exact bk_1e a.s b.s x.s a.c a.r b.c b.r x.c x.r a.ac a.ar b.ac b.ar x.ac x.ar l er he w hE HRa HQs HAl
  · rw [(parse_print ha).2] at HQa
    rw [ha] at HRa
    cases hb : rightB ⟨a.s, b.c, b.r, b.ac, b.ar⟩
    · rw [hb] at HRb
      by_cases he : er = 0
      · subst he
        obtain ⟨hp, hr⟩ := hpx x rfl
        exact bk_2o a.s b.s x.s a.c a.r b.c b.r x.c x.r a.ac a.ar b.ac b.ar x.ac x.ar l (printL a) w hE HRa HPa HQa HRb HQs hp hr HAl
      · exact bk_2e a.s b.s x.s a.c a.r b.c b.r x.c x.r a.ac a.ar b.ac b.ar x.ac x.ar l (printL a) er he w hE HRa HPa HQa HRb HQs HAl
    · have hpr := parse_range ha hb rfl
      have hlr : (printRangeL a ⟨a.s, b.c, b.r, b.ac, b.ar⟩).length ≤ 100 := by
        have h1 := printL_len a
        have hbb := rightB_bounds hb
        have h2 := placeL_len b.c b.r b.ac b.ar (by simp only at hbb; omega) (by simp only at hbb; omega)
        unfold printRangeL
        split
        · simp only [List.length_append, List.length_cons, List.length_nil]
          omega
        · simp [goneL]
      have HQr : ∀ W, Hid _ := fun W => parseRange_any (printRangeL a ⟨a.s, b.c, b.r, b.ac, b.ar⟩) (by omega) W
      rw [hpr] at HQr
      rw [hb] at HRb
      by_cases he : er = 0
      · subst he
        obtain ⟨hp, hr⟩ := hpx x rfl
        exact bk_3o a.s b.s x.s a.c a.r b.c b.r x.c x.r a.ac a.ar b.ac b.ar x.ac x.ar l (printL a) _ w hE HRa HPa HQa HRb HPr HQr HQs hp hr HAl
      · exact bk_3e a.s b.s x.s a.c a.r b.c b.r x.c x.r a.ac a.ar b.ac b.ar x.ac x.ar l (printL a) _ er he w hE HRa HPa HQa HRb HPr HQr HQs HAl
end Go.Proofs.YtnblbakjfpfipaaDoor
