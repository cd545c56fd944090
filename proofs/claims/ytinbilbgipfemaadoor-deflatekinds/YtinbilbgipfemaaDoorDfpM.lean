import Derived.Test.YtinbilbgipfemaaDoorCtn
import Derived.Test.YtinbilbgipfemaaDoorCdfM
/- Streams as lists of blocks; what a round of Deflate's loop needs. -/
namespace Go.Proofs.YtinbilbgipfemaaDoor
open Go.RowKit

/-- Items that tell the text between p and q. -/
def ItsOf (T : List Int) (p q : Nat) (its : List It) : Prop := p + told its = q ∧ ∀ (i : Nat) (r : It), its[i]? = some r → ItemAt T p q (its.take i) r
/-- The bits of a block for the text between p and q, behind n bits. -/
def BlkBits (T : List Int) (p q level n : Nat) (last : Bool) (b : List Bool) : Prop :=
  b = storedB n last ((T.drop p).take (q - p)) ∨
  (1 ≤ level ∧ ∃ its, ItsOf T p q its ∧ 3 + costR (litF its lit0) fixLit + costR (dstFr its dst0) fixDist + (extN its : Int) ≤ (storedN n (q - p) : Int) ∧ b = codedB last 1 [] fixLit fixDist its) ∨
  (2 ≤ level ∧ ∃ its zl zd head, ItsOf T p q its ∧ DynOf (litF its lit0) (dstFr its dst0) zl zd head ∧ 3 + costR (litF its lit0) zl + costR (dstFr its dst0) zd + (extN its : Int) + widF head ≤ (storedN n (q - p) : Int) ∧ b = codedB last 2 head zl zd its)
/-- The bits of the blocks for the text up to p. -/
inductive Strm (T : List Int) (level : Nat) : Nat → List Bool → Prop
  | nil : Strm T level 0 []
  | snoc {p q : Nat} {bs b : List Bool} : Strm T level p bs → q = min (p + 65535) T.length → BlkBits T p q level bs.length (decide (q = T.length)) b → Strm T level q (bs ++ b)

theorem IsWb.carry {D4 : Nat → Prop} {wr w5 : World} {R H P : Nat} {st : List Bool} (h : IsWb D4 wr R st) (hk : Kept (fun k => k < wr.heap.size ∧ k ≠ H ∧ k ≠ P) wr w5) (hH : D4 H) (hP : D4 P) (hRH : R ≠ H) (hRP : R ≠ P) : IsWb (fun k => D4 k ∨ (wr.heap.size ≤ k ∧ k < w5.heap.size)) w5 R st := by
  obtain ⟨ys, ⟨g, c, h1, h2, h3⟩, hp⟩ := h
  refine ⟨ys, ⟨g, c, h1.kept hk ⟨h1.lt, hRH, hRP⟩, owns_kept h2 hk (fun k e => ⟨(h2.lt k e).2, fun e' => h3 k e (e' ▸ hH), fun e' => h3 k e (e' ▸ hP)⟩), fun k e => ?_⟩, hp⟩
  rintro (h | h)
  · exact h3 k e h
  · have := (h2.lt k e).2; omega
theorem itOk_of {T : List Int} {p q : Nat} (hT : AreBytes T) {pre : List It} {r : It} (h : ItemAt T p q pre r) : ItOk r := by
  rcases h.2 with ⟨h1, h2, h3⟩ | ⟨_, l, d, h1, h2, h3, h4, h5, h6, h7, h8, _⟩
  · refine .inl ⟨h1, (T[p + told pre]?.getD 0).toNat, ?_, ?_⟩
    · have := (hT (p + told pre)).1
      rw [h3]
      omega
    · have := hT (p + told pre)
      omega
  · exact .inr ⟨l, d, h1, h2, h3, h4, by omega, by omega⟩
theorem itsF_wid {lc dc : List Fd} (hl : ∀ f ∈ lc, FdOk f) (hd : ∀ f ∈ dc, FdOk f) (its : List It) : widF (itsF lc dc its) ≤ 128 * its.length := by
  have hg : ∀ (fs : List Fd), (∀ f ∈ fs, FdOk f) → ∀ i : Nat, (fs[i]?.getD (0, 0)).2 ≤ 32 := by
    intro fs hfs i
    by_cases h : i < fs.length
    · exact (getD_ok hfs h).2
    · rw [List.getElem?_eq_none (by omega)]
      simp
  induction its with
  | nil => simp [itsF, widF]
  | cons r rs ih =>
    have e : itsF lc dc (r :: rs) = itF lc dc r ++ itsF lc dc rs := rfl
    rw [e, widF_append, List.length_cons]
    have h1 : litX (lenI r.l.toNat) ≤ 5 := (litT_bd _ (by unfold lenI; have := rank_le litT 29 r.l.toNat; omega)).2
    have h2 : distX (distI r.d.toNat) ≤ 13 := (distT_bd _ (by unfold distI; have := rank_le distT 30 r.d.toNat; omega)).2
    have h3 : widF (itF lc dc r) ≤ 128 := by
      unfold itF
      split
      · have := hg lc hl r.b.toNat
        simp only [widF, List.map_cons, List.map_nil, List.sum_cons, List.sum_nil]
        omega
      · have h4 := hg lc hl (257 + lenI r.l.toNat)
        have h5 := hg dc hd (distI r.d.toNat)
        simp only [widF, List.map_cons, List.map_nil, List.sum_cons, List.sum_nil, lenF, dstF]
        omega
    omega
theorem codedB_len (last : Bool) (kind : Nat) (head : List Fd) (zl zd : List Int) (its : List It) : (codedB last kind head zl zd its).length = 3 + widF head + widF (itsF (codesF zl) (codesF zd) its) + ((codesF zl)[256]?.getD (0, 0)).2 := by
  unfold codedB
  rw [List.length_append, List.length_append, headB_length, fieldsB_length, fieldsB_length, widF_append]
  simp only [widF, List.map_cons, List.map_nil, List.sum_cons, List.sum_nil]
  omega
theorem part_bytes {T : List Int} (hT : AreBytes T) (p q : Nat) : AreBytes ((T.drop p).take (q - p)) := by
  intro j
  by_cases h : j < q - p
  · rw [List.getElem?_take_of_lt h, List.getElem?_drop]
    exact hT _
  · rw [List.getElem?_eq_none (by rw [List.length_take]; omega)]
    simp
theorem part_in {w w5 : World} {b off cap : Nat} {T : List Int} (hI : BytesIn (· < w.heap.size) w (.slice (some ⟨b, off, none⟩) T.length cap) T) (p q : Nat) (h1 : p ≤ q) (h2 : q ≤ T.length) {n : Nat} (hn : ((T.drop p).take (q - p)).length = n) (hB : Below w.heap.size w w5) : BytesIn (· < w.heap.size) w5 (.slice (some ⟨b, off + p, none⟩) n (cap - p)) ((T.drop p).take (q - p)) := by
  subst hn
  have hk := hI.kept (Kept.of_below (S := (· < w.heap.size)) hB (fun _ h => h))
  rcases hk with ⟨rfl, _⟩ | ⟨b', off', cap', e, hb, hc⟩
  · exact .inl ⟨by simp, some ⟨b, off + p, none⟩, cap - p, by simp⟩
  · simp only [Value.slice.injEq, Option.some.injEq, Addr.mk.injEq, and_true, true_and] at e
    obtain ⟨⟨rfl, rfl⟩, rfl⟩ := e
    refine .inr ⟨b, off + p, cap - p, rfl, hb, fun j hj => ?_⟩
    rw [List.length_take, List.length_drop] at hj
    rw [Nat.add_assoc, hc (p + j) (by omega), List.getElem?_take_of_lt (by omega), List.getElem?_drop]
end Go.Proofs.YtinbilbgipfemaaDoor
/- Which kind a stream's first block has. -/
namespace Go.Proofs.YtinbilbgipfemaaDoor
open Go.RowKit

theorem strm_head {T : List Int} {level p : Nat} {bs : List Bool} (h : Strm T level p bs) : bs = [] ∨ ∃ last kind rest, bs = headB last kind ++ rest ∧ kind ≤ level ∧ kind ≤ 2 := by
  induction h with
  | nil => exact .inl rfl
  | snoc h1 hq hb ih =>
    rcases ih with rfl | ⟨last, kind, rest, rfl, h2, h3⟩
    · right
      rw [List.nil_append]
      rcases hb with rfl | ⟨h4, its, _, _, rfl⟩ | ⟨h4, its, zl, zd, head, _, _, _, rfl⟩
      · exact ⟨_, 0, _, by unfold storedB; rw [List.append_assoc, List.append_assoc, List.append_assoc], by omega, by omega⟩
      · exact ⟨_, 1, _, by unfold codedB; rw [List.append_assoc], h4, by omega⟩
      · exact ⟨_, 2, _, by unfold codedB; rw [List.append_assoc], h4, by omega⟩
    · exact .inr ⟨last, kind, _, by rw [List.append_assoc], h2, h3⟩
theorem headB_get (last : Bool) (kind : Nat) (rest : List Bool) : (headB last kind ++ rest)[1]?.getD false = kind.testBit 0 ∧ (headB last kind ++ rest)[2]?.getD false = kind.testBit 1 := by
  have : headB last kind = [last.toNat.testBit 0, kind.testBit 0, kind.testBit 1] := by simp [headB, lowBits, List.range_succ]
  rw [this]
  exact ⟨rfl, rfl⟩
theorem kind_of {ys : List Int} {bs : List Bool} (h : Packed ys bs) {last : Bool} {kind : Nat} {rest : List Bool} (hb : bs = headB last kind ++ rest) (hk : kind ≤ 2) :
    1 ≤ ys.length ∧ (0 : Int) ≤ (ys[0]?.getD 0 : Int) ∧ (ys[0]?.getD 0 : Int) ≤ 255 ∧ (ys[0]?.getD 0 : Int) / 2 % 4 = (kind : Int) := by
  have hl := h.len
  have h3 : 3 ≤ bs.length := by rw [hb, List.length_append, headB_length]; omega
  have hy := h.are 0
  obtain ⟨g1, g2⟩ := headB_get last kind rest
  have b1 := h.bit 1
  have b2 := h.bit 2
  rw [hb, g1] at b1
  rw [hb, g2] at b2
  simp only [tb, show 1 / 8 = 0 from rfl, show 1 % 8 = 1 from rfl, show 2 % 8 = 2 from rfl, Nat.testBit_eq_decide_div_mod_eq] at b1 b2
  generalize ys[0]?.getD 0 = y at *
  refine ⟨by omega, hy.1, hy.2, ?_⟩
  have c1 : (y.toNat / 2 ^ 1 % 2 = 1) ↔ (kind / 2 ^ 0 % 2 = 1) := by simpa using b1
  have c2 : (y.toNat / 2 ^ 2 % 2 = 1) ↔ (kind / 2 ^ 1 % 2 = 1) := by simpa using b2
  simp only [Nat.pow_zero, Nat.pow_one, Nat.reducePow, Nat.div_one] at c1 c2
  omega
end Go.Proofs.YtinbilbgipfemaaDoor
