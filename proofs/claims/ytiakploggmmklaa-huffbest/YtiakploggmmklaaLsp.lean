/- Coins that hold their symbols; the weights of the document's lists are those of the program's rows. -/
import Derived.Test.YtiakploggmmklaaLng
import Derived.Test.YtiakploggmmklaaRst
namespace Go.Proofs.Ytiakploggmmklaa
open Go.RowKit

def keySum (fs ss : List Int) : Int := (ss.map (keyF fs)).sum
theorem keySum_append (fs a b : List Int) : keySum fs (a ++ b) = keySum fs a + keySum fs b := by simp [keySum]
/-- A coin's symbols lie in a row of their own, and weigh what it says. -/
def SymC (fs : List Int) (W : World) (m : Nat) (c : CP) : Prop :=
  ∃ G cap ss, c.2 = .slice (some ⟨G, 0, none⟩) ss.length cap ∧ 0 < ss.length ∧ ss.length ≤ m ∧ OrdIn W G ss ∧ InB fs ss ∧ c.1 = keySum fs ss
def CoinsOk (fs : List Int) (W : World) (m : Nat) (l : List CP) : Prop := ∀ c ∈ l, SymC fs W m c
theorem CoinsOk.nil (fs : List Int) (W : World) (m : Nat) : CoinsOk fs W m [] := fun c h => by cases h
theorem CoinsOk.append {fs : List Int} {W : World} {m : Nat} {a b : List CP} (ha : CoinsOk fs W m a) (hb : CoinsOk fs W m b) : CoinsOk fs W m (a ++ b) := fun c h => (List.mem_append.1 h).elim (ha c) (hb c)
theorem CoinsOk.perm {fs : List Int} {W : World} {m : Nat} {a b : List CP} (ha : CoinsOk fs W m a) (h : b.Perm a) : CoinsOk fs W m b := fun c hc => ha c (h.mem_iff.1 hc)
theorem CoinsOk.more {fs : List Int} {W : World} {m n : Nat} {a : List CP} (ha : CoinsOk fs W m a) (h : m ≤ n) : CoinsOk fs W n a := fun c hc => by
  obtain ⟨G, cap, ss, e1, e2, e3, e4⟩ := ha c hc
  exact ⟨G, cap, ss, e1, e2, by omega, e4⟩
theorem CoinsOk.one {fs : List Int} {W : World} {m : Nat} {a : List CP} (ha : CoinsOk fs W m a) : OneC a := fun c hc => by
  obtain ⟨G, cap, ss, e1, _⟩ := ha c hc
  rw [e1]
  rfl
theorem OrdIn.below {N : Nat} {W W' : World} {G : Nat} {l : List Int} (h : OrdIn W G l) (hB : Below N W W') (hG : G < N) : OrdIn W' G l := by
  obtain ⟨cs, hr, h2, h3⟩ := h
  exact ⟨cs, hr.below hB hG, h2, h3⟩
theorem CoinsOk.below {fs : List Int} {W W' : World} {m N : Nat} {a : List CP} (ha : CoinsOk fs W m a) (hB : Below N W W') (hN : W.heap.size ≤ N) : CoinsOk fs W' m a := fun c hc => by
  obtain ⟨G, cap, ss, e1, e2, e3, e4, e5⟩ := ha c hc
  exact ⟨G, cap, ss, e1, e2, e3, e4.below hB (by have := e4.lt; omega), e5⟩
theorem CoinsOk.alloc {fs : List Int} {W : World} {m : Nat} {a : List CP} (ha : CoinsOk fs W m a) (o : Obj) : CoinsOk fs (W.alloc o) m a := ha.below ((Below.refl W.heap.size W).alloc (Nat.le_refl _) o) (Nat.le_refl _)
/-- A row of coins grows: the rows of symbols stay as they are. -/
theorem OrdIn.grown {W W' : World} {G base n : Nat} {l : List Int} {v : Value} {xs : List Value} (h : OrdIn W G l) (ho : W.ownsRow base 45 2 v n xs) (hg : W.grownBy W' v.ownBlock) : OrdIn W' G l := by
  have hlt := h.lt
  refine h.kept (S := fun k => k = G) ((Kept.refl _ W).grown hg (fun k hk => by subst hk; exact hlt) (fun k e hk => ?_)) rfl
  subst hk
  obtain ⟨cs, hr, _⟩ := h
  rcases ho.2 with ⟨rfl, _⟩ | ⟨g, cap, cur, rfl, _, hh, _⟩
  · simp [Value.ownBlock] at e
  · simp [Value.ownBlock] at e
    subst e
    rw [show W.heap[g]? = _ from hr] at hh
    simp at hh
theorem CoinsOk.grown {fs : List Int} {W W' : World} {m base n : Nat} {a : List CP} {v : Value} {xs : List Value} (ha : CoinsOk fs W m a) (ho : W.ownsRow base 45 2 v n xs) (hg : W.grownBy W' v.ownBlock) : CoinsOk fs W' m a := fun c hc => by
  obtain ⟨G, cap, ss, e1, e2, e3, e4, e5⟩ := ha c hc
  exact ⟨G, cap, ss, e1, e2, e3, e4.grown ho hg, e5⟩

/-! The weights -/
theorem wts_sorted {l : List CP} (h : SP l) : (l.map (·.1)).Pairwise (· ≤ ·) := List.pairwise_map.2 h
theorem wtc_sorted {l : List Coin} (h : SC l) : (l.map (·.1)).Pairwise (· ≤ ·) := List.pairwise_map.2 h
theorem merge_perm {a b : List Coin} (h : SC a) : (mergeL a b).Perm (a ++ b) := by
  obtain ⟨x, y, h1, h2, h3, h4, _⟩ := merge_take a b h (a.length + b.length) (Nat.le_refl _)
  rw [List.take_of_length_le (by rw [mergeL_length]; omega), List.take_of_length_le (by omega), List.take_of_length_le (by omega)] at h4
  exact h4
theorem next_wts {sl r : List Coin} {lb pk : List CP} (h1 : SC sl) (h2 : SC r) (e1 : lb.map (·.1) = sl.map (·.1)) (e2 : pk.map (·.1) = (pairsL r).map (·.1)) : (srtL (lb ++ pk)).map (·.1) = (mergeL sl (pairsL r)).map (·.1) := by
  obtain ⟨s1, p1⟩ := srtL_ok (lb ++ pk)
  refine sorted_unique _ _ (wts_sorted s1) (wtc_sorted (merge_sorted _ _ h1 (pairs_sorted h2))) ?_
  refine (p1.map _).trans ?_
  rw [List.map_append, e1, e2, ← List.map_append]
  exact ((merge_perm h1).map _).symm
theorem base_wts {fs os : List Int} {l : List CP} (hp : os.Perm (ordL fs fs.length)) (hs : Srt (keyF fs) os 0 os.length) (e : l.map (·.1) = (ordL fs fs.length).map (keyF fs)) (hfs : ∀ z ∈ fs, 0 ≤ z ∧ z ≤ 1073741824) : (srtL l).map (·.1) = (singlesL fs os).map (·.1) := by
  obtain ⟨s1, p1⟩ := srtL_ok l
  have e2 : (singlesL fs os).map (·.1) = os.map (keyF fs) := by
    refine List.ext_getElem (by simp [singlesL, upto_length]) (fun i h1 h2 => ?_)
    rw [List.getElem_map, singles_at, List.getElem_map]
    have : i < os.length := by simpa using h2
    simp [gt, this]
  refine sorted_unique _ _ (wts_sorted s1) (wtc_sorted (singles_sing hfs hs).srt) ?_
  refine (p1.map _).trans ?_
  rw [e, e2]
  exact (hp.map _).symm
theorem pair_wts {r : List Coin} {ll pk : List CP} {p : Nat} (hr : ll.map (·.1) = r.map (·.1)) (hp : 2 * p + 1 < ll.length) (e : pk.map (·.1) = ((pairsL r).take p).map (·.1)) (v : Value) :
    (pk ++ [((ll[2 * p]'(by omega)).1 + ll[2 * p + 1].1, v)]).map (·.1) = ((pairsL r).take (p + 1)).map (·.1) := by
  have hl : ll.length = r.length := by simpa using congrArg List.length hr
  have hpl : (pairsL r).length = r.length / 2 := upto_length _ _
  have hat : ∀ j (h : j < ll.length), ll[j].1 = (r[j]'(by omega)).1 := fun j h => by
    have := congrArg (fun l : List Int => l[j]?) hr
    simpa [h, show j < r.length by omega] using this
  rw [List.take_succ_eq_append_getElem (by omega), List.map_append, List.map_append, e, pairs_get, pairF_eq r p (by omega)]
  simp [hat]
theorem wsum_wts {r : List Coin} {ll : List CP} (hr : ll.map (·.1) = r.map (·.1)) (t : Nat) : ((ll.take t).map (·.1)).sum = wsum (r.take t) := by
  unfold wsum
  rw [List.map_take, List.map_take, hr]
theorem keyF_bd {fs : List Int} (hfs : ∀ z ∈ fs, 0 ≤ z ∧ z ≤ 1073741824) (x : Int) : 0 ≤ keyF fs x ∧ keyF fs x ≤ 1073741824 := by
  unfold keyF
  by_cases h : x.toNat < fs.length
  · rw [List.getElem?_eq_getElem h]
    exact hfs _ (List.getElem_mem h)
  · rw [List.getElem?_eq_none (by omega)]
    simp
theorem keySum_bd {fs : List Int} (hfs : ∀ z ∈ fs, 0 ≤ z ∧ z ≤ 1073741824) : ∀ ss : List Int, 0 ≤ keySum fs ss ∧ keySum fs ss ≤ ss.length * 1073741824
  | [] => by simp [keySum]
  | x :: ss => by
    have h1 := keySum_bd hfs ss
    have h2 := keyF_bd hfs x
    have h3 : keySum fs (x :: ss) = keyF fs x + keySum fs ss := by simp [keySum]
    rw [h3]
    simp only [List.length_cons]
    omega
end Go.Proofs.Ytiakploggmmklaa
