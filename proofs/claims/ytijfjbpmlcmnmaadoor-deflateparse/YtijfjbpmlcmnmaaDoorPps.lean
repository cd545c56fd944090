/- What the items of Parse tell: the bytes again; and no byte stands five times in a row as a byte. -/
import Derived.Test.YtijfjbpmlcmnmaaDoorPar
import Derived.Test.YtijfjbpmlcmnmaaDoorUnp
namespace Go.Proofs.YtijfjbpmlcmnmaaDoor

theorem told_take {its : List It} {i : Nat} {r : It} (h : its[i]? = some r) : told (its.take (i + 1)) = told (its.take i) + r.size := by
  rw [List.take_add_one, h]
  exact told_snoc _ _
theorem told_take_le (its : List It) (i : Nat) : told (its.take i) ≤ told its := by
  conv => rhs; rw [← List.take_append_drop i its]
  generalize its.take i = a
  generalize its.drop i = b
  induction a with
  | nil => simp [told]
  | cons x xs ih => simp [told]; omega
theorem take_getD (T : List Int) (p : Nat) (h : p < T.length) : T.take p ++ [T[p]?.getD 0] = T.take (p + 1) := by
  rw [List.take_add_one, List.getElem?_eq_getElem h]
  rfl
theorem copy_take (T : List Int) (p d l : Nat) (hp : p + l ≤ T.length) (hd : 1 ≤ d ∧ d ≤ p) (h : ∀ i, i < l → T[p - d + i]?.getD 0 = T[p + i]?.getD 0) : ∀ k, k ≤ l → copyS (T.take p) d k = T.take (p + k)
  | 0, _ => rfl
  | k + 1, hk => by
    have ih := copy_take T p d l hp hd h k (by omega)
    show copyS (T.take p) d k ++ [(copyS (T.take p) d k)[(copyS (T.take p) d k).length - d]?.getD 0] = _
    rw [ih, List.length_take, Nat.min_eq_left (by omega), List.getElem?_take, if_pos (by omega), show p + k - d = p - d + k by omega, h k (by omega)]
    exact take_getD T (p + k) (by omega)
theorem item_fits {T : List Int} {p q : Nat} {r : It} (h : ItemOk T p q r) (hT : AreBytes T) : r.fits p = true ∧ r.wf := by
  rcases h with ⟨h1, h2, h3⟩ | ⟨h1, l, d, h2, h3, h4, h5, h6, h7, h8, h9, _⟩
  · have hb := hT p
    constructor
    · unfold It.fits
      rw [if_pos h1, h2, h3]
      simp [hb]
    · unfold It.wf
      rw [h1, h2, h3]
      omega
  · constructor
    · unfold It.fits
      rw [if_neg (by rw [h2]; omega), h1, h2, h3]
      simp
      omega
    · unfold It.wf
      rw [h1, h2, h3]
      omega
theorem item_step {T : List Int} {p : Nat} {r : It} (h : ItemOk T p T.length r) (hp : p < T.length) (hT : AreBytes T) (hl : T.length ≤ 65536) : unpStep (T.take p) r = some (T.take (p + r.size)) := by
  have hf := (item_fits h hT).1
  have hs := h.size hp
  have el : (T.take p).length = p := by rw [List.length_take]; omega
  unfold unpStep
  rw [el, if_pos ⟨hf, by rw [hs.2.2]; omega⟩]
  congr 1
  rcases h with ⟨h1, h2, h3⟩ | ⟨h1, l, d, h2, h3, h4, h5, h6, h7, h8, h9, h10⟩
  · rw [if_pos h1, h3]
    have : r.size = 1 := by unfold It.size; rw [h1]; rfl
    rw [this]
    exact take_getD T p hp
  · rw [if_neg (by rw [h2]; omega), h2, h3]
    have : r.size = l := by unfold It.size; rw [h2]; omega
    rw [this]
    exact copy_take T p d l h6 ⟨h7, h8⟩ h10 l (Nat.le_refl _)
theorem good_unp {T : List Int} {its : List It} (hG : GoodIts T T.length its) (hE : told its = T.length) (hT : AreBytes T) (hl : T.length ≤ 65536) : ∀ k i, i + k = its.length → unpS (its.drop i) (T.take (told (its.take i))) = some T
  | 0, i, h => by
    have e1 : its.take i = its := List.take_of_length_le (by omega)
    rw [e1, List.drop_eq_nil_of_le (by omega), hE, List.take_length]
    rfl
  | k + 1, i, h => by
    have hi : i < its.length := by omega
    have hr := List.getElem?_eq_getElem hi
    obtain ⟨h1, h2, _⟩ := hG i _ hr
    rw [unpS_step hr, item_step h2 h1 hT hl, ← told_take hr]
    exact good_unp hG hE hT hl k (i + 1) (by omega)
theorem good_all {T : List Int} {its : List It} (hG : GoodIts T T.length its) (hE : told its = T.length) (hT : AreBytes T) (hl : T.length ≤ 65536) : unpS its [] = some T := by
  have := good_unp hG hE hT hl its.length 0 (by omega)
  simpa [told] using this
theorem good_wf {T : List Int} {its : List It} {q : Nat} (hG : GoodIts T q its) (hT : AreBytes T) : ∀ r ∈ its, r.wf := by
  intro r hr
  obtain ⟨i, hi, rfl⟩ := List.getElem_of_mem hr
  exact (item_fits (hG i _ (List.getElem?_eq_getElem hi)).2.1 hT).2

/-- Item j is the byte b. -/
def LitAt (its : List It) (j : Nat) (b : Int) : Prop := ∃ r, its[j]? = some r ∧ r.l = 0 ∧ r.b = b
theorem lit_place {T : List Int} {its : List It} {q : Nat} (hG : GoodIts T q its) {j : Nat} {b : Int} (h : LitAt its j b) : told (its.take (j + 1)) = told (its.take j) + 1 ∧ T[told (its.take j)]?.getD 0 = b := by
  obtain ⟨r, hr, h1, h2⟩ := h
  have hs : r.size = 1 := by unfold It.size; rw [h1]; rfl
  rw [told_take hr, hs]
  refine ⟨rfl, ?_⟩
  rcases (hG j r hr).2.1 with ⟨_, _, h3⟩ | ⟨_, l, d, h3, _, h4, _⟩
  · rw [← h3, h2]
  · rw [h1] at h3; omega
/-- No byte stands five times in a row as a byte. -/
theorem no_five {T : List Int} {its : List It} {q : Nat} (hG : GoodIts T q its) {j : Nat} {b : Int} (h : ∀ t, t < 5 → LitAt its (j + t) b) : False := by
  have e0 := lit_place hG (h 0 (by omega))
  have e1 := lit_place hG (h 1 (by omega))
  have e2 := lit_place hG (h 2 (by omega))
  have e3 := lit_place hG (h 3 (by omega))
  obtain ⟨r4, hr4, _⟩ := h 4 (by omega)
  have g4 := (hG _ _ hr4).1
  obtain ⟨r1, hr1, hl1, _⟩ := h 1 (by omega)
  have g1 := (hG _ _ hr1).2.2 hl1
  simp only [Nat.add_zero] at e0
  rw [show j + 4 = j + 3 + 1 by omega, e3.1, show j + 3 = j + 2 + 1 by omega, e2.1, show j + 2 = j + 1 + 1 by omega, e1.1] at g4
  rw [show j + 3 = j + 2 + 1 by omega, e2.1, show j + 2 = j + 1 + 1 by omega, e1.1] at e3
  rw [show j + 2 = j + 1 + 1 by omega, e1.1] at e2
  rw [e0.1] at e1 e2 e3 g1 g4
  generalize told (its.take j) = p at e0 e1 e2 e3 g1 g4
  refine g1 (by omega) (by omega) (fun i hi => ?_)
  rw [Nat.add_sub_cancel]
  rcases (by omega : i = 0 ∨ i = 1 ∨ i = 2) with rfl | rfl | rfl
  · exact e0.2.trans e1.2.symm
  · exact e1.2.trans e2.2.symm
  · exact e2.2.trans e3.2.symm

/-- What the law counts: the last 'run' items ahead of i are one byte. -/
def RunOk (its : List It) (i run : Nat) : Prop := 1 ≤ run ∧ run ≤ 4 ∧ run ≤ i ∧ (2 ≤ run → ∃ b, ∀ t, t < run → LitAt its (i - run + t) b)
theorem run_more {T : List Int} {its : List It} {q : Nat} (hG : GoodIts T q its) {i run : Nat} (hi : 1 ≤ i) (h : RunOk its i run) {b : Int} (h1 : LitAt its i b) (h2 : LitAt its (i - 1) b) : RunOk its (i + 1) (run + 1) := by
  obtain ⟨r1, r2, r3, r4⟩ := h
  have hall : ∀ t, t < run + 1 → LitAt its (i - run + t) b := by
    intro t ht
    by_cases hr : run = 1
    · subst hr
      rcases (by omega : t = 0 ∨ t = 1) with rfl | rfl
      · exact h2
      · rw [show i - 1 + 1 = i by omega]; exact h1
    · obtain ⟨b', hb'⟩ := r4 (by omega)
      have hbb : b' = b := by
        have h3 := hb' (run - 1) (by omega)
        rw [show i - run + (run - 1) = i - 1 by omega] at h3
        obtain ⟨x, hx, _, hxb⟩ := h3
        obtain ⟨y, hy, _, hyb⟩ := h2
        obtain rfl := Option.some.inj (hx.symm.trans hy)
        rw [← hxb, hyb]
      subst hbb
      by_cases ht' : t < run
      · exact hb' t ht'
      · rw [show i - run + t = i by omega]; exact h1
  refine ⟨by omega, ?_, by omega, fun _ => ⟨b, fun t ht => ?_⟩⟩
  · by_cases h5 : run + 1 ≤ 4
    · exact h5
    · exfalso
      exact no_five hG (j := i - run) (fun t ht => hall t (by omega))
  · rw [show i + 1 - (run + 1) = i - run by omega]
    exact hall t ht
theorem run_one (its : List It) (i : Nat) (hi : 1 ≤ i) : RunOk its i 1 := ⟨by omega, by omega, hi, fun h => by omega⟩
end Go.Proofs.YtijfjbpmlcmnmaaDoor
