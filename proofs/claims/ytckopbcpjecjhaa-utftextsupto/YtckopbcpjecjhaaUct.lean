/- utf: the document's Cut, and the law's own ints. -/
import Derived.Test.YtckopbcpjecjhaaPbk
import Derived.BigQuiet
namespace Go.Proofs.Ytckopbcpjecjhaa
open Go.RowKit

/-- A piece of a row of ints. -/
theorem ints_sub {w : World} {base gb c : Nat} (R : List Int) (h : w.ownsRow base 3 1 (.slice (some ⟨gb, 0, none⟩) R.length c) R.length (R.map (Value.int .i64))) (k j c' : Nat) (hk : k + j ≤ R.length) (hj : 0 < j) :
    IntsIn (· < w.heap.size) w (.slice (some ⟨gb, k, none⟩) j c') ((R.drop k).take j) := by
  have hl : ((R.drop k).take j).length = j := by rw [List.length_take, List.length_drop]; omega
  have hcell := h.cells (g := gb) rfl
  refine .inr ⟨gb, k, c', by rw [hl], ?_, fun i hi => ?_⟩
  · have := hcell 0 (.int .i64 (R[0]'(by omega))) (by simp [List.getElem?_eq_getElem (show 0 < R.length by omega)])
    exact World.block_lt_of_cell? _ _ this
  · rw [hl] at hi
    have hki : k + i < R.length := by omega
    have := hcell (k + i) (.int .i64 (R[k + i]'hki)) (by simp [List.getElem?_eq_getElem hki])
    rw [Go.WideShapes.add_plain, Nat.zero_add] at this
    rw [this]
    congr 2
    rw [List.getElem?_take_of_lt hi, List.getElem?_drop, List.getElem?_eq_getElem hki]
    rfl
theorem owns_some {w : World} {base n : Nat} {g : Option Addr} {c : Nat} {xs : List Value} (h : w.ownsRow base 3 1 (.slice g n c) n xs) (hn : 0 < n) : ∃ gb, g = some ⟨gb, 0, none⟩ ∧ n ≤ c := by
  rcases h.2 with ⟨_, h9⟩ | ⟨gb, cap, cur, hv, _, _, hnc, _⟩
  · omega
  · simp only [Value.slice.injEq, true_and] at hv
    obtain ⟨rfl, rfl⟩ := hv
    exact ⟨gb, rfl, hnc⟩

set_option maxRecDepth 100000 in
set_option maxHeartbeats 4000000 in
theorem cut_any (H12 : FirstSays) (s : ByteArray) (f m : Int) (hf0 : -9223372036854775808 ≤ f) (hf1 : f ≤ 9223372036854775807) (hm0 : -9223372036854775808 ≤ m) (hm1 : m ≤ 9223372036854775807) (hl : s.size ≤ 17592186044415) (w : World) :
    Calls Try.prog 18 #[.string s, .int .i64 f, .int .i64 m] w fun e w' => e = .returned (.string (strOfNums (textZ (cutZ (restZ s 0) f m)))) ∧ Below w.heap.size w w' := by
  have HC : Hid _ := runes_any H12 s hl w
  have hRl := runesZ_le s
  rw [rest_zero]
  generalize runesZ s = R at HC hRl
  go_enter Try.func18, Try.ntmps18
  go_wp2_with fail
  refine Calls.mono HC.out ?_
  rintro e w1 ⟨g, c, rfl, hO, hb1⟩
  clear HC
  have HB : Hid _ := hb1
  have HO : Hid _ := hO
  have hT : ∀ (k j c' : Nat), k + j ≤ R.length → 0 < j → ∀ gb, g = some ⟨gb, 0, none⟩ → Hid (Calls Try.prog 20 #[.slice (some ⟨gb, k, none⟩) j c'] w1 fun e w' => e = .returned (.string (strOfNums (textZ ((R.drop k).take j)))) ∧ Below w1.heap.size w1 w') := by
    rintro k j c' h1 h2 gb rfl
    have hl : ((R.drop k).take j).length = j := by rw [List.length_take, List.length_drop]; omega
    have := text_any (some ⟨gb, k, none⟩) c' ((R.drop k).take j) (by omega) w1 (by rw [hl]; exact ints_sub R HO.out k j c' h1 h2)
    rwa [hl] at this
  have hs : ∀ (gb : Nat), 0 < R.length → g = some ⟨gb, 0, none⟩ → R.length ≤ c := by
    intro gb h1 _
    obtain ⟨_, _, h3⟩ := owns_some HO.out h1
    exact h3
  obtain ⟨L, hL⟩ : ∃ L, R.length = L := ⟨_, rfl⟩
  have hE0 : m ≤ 0 ∨ (L : Int) ≤ f ∨ L = 0 → Hid (textZ (cutZ R f m) = []) := by
    intro h
    show textZ _ = []
    have : cutZ R f m = [] := by
      rcases h with h | h | h
      · exact cut_none _ _ _ h
      · unfold cutZ; rw [List.drop_eq_nil_of_le (by omega)]; simp
      · unfold cutZ; rw [List.eq_nil_of_length_eq_zero (hL.trans h)]; simp
    rw [this]
    rfl
  have hsome : 0 < L → ∃ gb, g = some ⟨gb, 0, none⟩ ∧ L ≤ c := by
    intro h
    rw [← hL] at h ⊢
    exact owns_some HO.out h
  rw [hL] at hT hRl ⊢
  clear hO hb1 hs
  by_cases c1 : m ≤ 0
  · have HE := hE0 (.inl c1)
    clear hE0 hT hsome
    by_cases c0 : f < 0
    · go_wp2
      go_ret
      exact ⟨by rw [HE.out]; rfl, HB.out⟩
    · go_wp2
      go_ret
      exact ⟨by rw [HE.out]; rfl, HB.out⟩
  obtain ⟨j, rfl⟩ : ∃ j : Nat, m = j := ⟨m.toNat, by omega⟩
  by_cases c0 : f < 0
  · by_cases c2 : (L : Int) ≤ 0
    · have HE := hE0 (.inr (.inr (by omega)))
      clear hE0 hT hsome
      go_wp2
      go_ret
      exact ⟨by rw [HE.out]; rfl, HB.out⟩
    obtain ⟨gb, rfl, hnc⟩ := hsome (by omega)
    by_cases c3 : (j : Int) < (L : Int)
    · have HT : Hid _ := (hT 0 j c (by omega) (by omega) gb rfl).out
      have HE : Hid (cutZ R f j = (R.drop 0).take j) := by
        show _ = _
        unfold cutZ
        rw [Int.toNat_natCast, show f.toNat = 0 by omega]
      clear hE0 hT hsome
      go_wp2_with fail
      refine Calls.mono HT.out ?_
      rintro e w2 ⟨rfl, b2⟩
      clear HT
      have HB2 : Hid (Below w.heap.size w w2) := HB.out.trans (b2.mono HB.out.size)
      clear b2
      go_wp2
      go_ret
      exact ⟨by rw [HE.out]; rfl, HB2.out⟩
    · have HT : Hid _ := (hT 0 L c (by omega) (by omega) gb rfl).out
      have HE : Hid (cutZ R f j = (R.drop 0).take L) := by
        show _ = _
        unfold cutZ
        rw [Int.toNat_natCast, show f.toNat = 0 by omega, List.drop_zero, List.take_of_length_le (by omega), List.take_of_length_le (by omega)]
      clear hE0 hT hsome
      go_wp2_with fail
      refine Calls.mono HT.out ?_
      rintro e w2 ⟨rfl, b2⟩
      clear HT
      have HB2 : Hid (Below w.heap.size w w2) := HB.out.trans (b2.mono HB.out.size)
      clear b2
      go_wp2
      go_ret
      exact ⟨by rw [HE.out]; rfl, HB2.out⟩
  obtain ⟨k, rfl⟩ : ∃ k : Nat, f = k := ⟨f.toNat, by omega⟩
  by_cases c2 : (L : Int) ≤ (k : Int)
  · have HE := hE0 (.inr (.inl c2))
    clear hE0 hT hsome
    go_wp2
    go_ret
    exact ⟨by rw [HE.out]; rfl, HB.out⟩
  · obtain ⟨gb, rfl, hnc⟩ := hsome (by omega)
    have hck : ¬ c = k := by omega
    by_cases c3 : (j : Int) < (L : Int) - (k : Int)
    · have HT : Hid _ := (hT k j (c - k) (by omega) (by omega) gb rfl).out
      have HE : Hid (cutZ R k j = (R.drop k).take j) := by
        show _ = _
        unfold cutZ
        rw [Int.toNat_natCast, Int.toNat_natCast]
      have hkj : k + j - k = j := by omega
      clear hE0 hT hsome
      go_wp2_with fail
      refine Calls.mono HT.out ?_
      rintro e w2 ⟨rfl, b2⟩
      clear HT
      have HB2 : Hid (Below w.heap.size w w2) := HB.out.trans (b2.mono HB.out.size)
      clear b2
      go_wp2
      go_ret
      exact ⟨by rw [HE.out]; rfl, HB2.out⟩
    · have HT : Hid _ := (hT k (L - k) (c - k) (by omega) (by omega) gb rfl).out
      have HE : Hid (cutZ R k j = (R.drop k).take (L - k)) := by
        show _ = _
        unfold cutZ
        rw [Int.toNat_natCast, Int.toNat_natCast, List.take_of_length_le (by rw [List.length_drop]; omega), List.take_of_length_le (by rw [List.length_drop]; omega)]
      clear hE0 hT hsome
      go_wp2_with fail
      refine Calls.mono HT.out ?_
      rintro e w2 ⟨rfl, b2⟩
      clear HT
      have HB2 : Hid (Below w.heap.size w w2) := HB.out.trans (b2.mono HB.out.size)
      clear b2
      go_wp2
      go_ret
      exact ⟨by rw [HE.out]; rfl, HB2.out⟩

set_option maxRecDepth 100000 in
set_option maxHeartbeats 4000000 in
theorem ints_same (a b : Option Addr) (ca cb : Nat) (R : List Int) (hl : R.length ≤ 17592186044415) (w : World) (h1 : IntsIn (fun k => k < w.heap.size) w (.slice a R.length ca) R) (h2 : IntsIn (fun k => k < w.heap.size) w (.slice b R.length cb) R) :
    Calls Try.prog 12 #[.slice a R.length ca, .slice b R.length cb] w fun e w' => e = .returned (.bool true) ∧ Below w.heap.size w w' := by
  obtain ⟨L, hL⟩ : ∃ L, R.length = L := ⟨_, rfl⟩
  rw [hL] at hl h1 h2 ⊢
  go_enter Try.func12, Try.ntmps12
  go_wp2_with fail
  go_loopw [5] (fun v5 wr => ∃ k : Nat, k ≤ L ∧ v5 = .int .i64 (k : Int) ∧ Below w.heap.size w wr) (fun v5 _ => L - (intOf v5).toNat)
  case atStart => exact ⟨0, by omega, rfl, Below.refl _ _⟩
  case round =>
    obtain ⟨k, hk, rfl, hB⟩ := hrel
    have HB : Hid _ := hB
    by_cases hlt : k < L
    · obtain ⟨b1, o1, rfl, _, g1⟩ := (h1.below hB).at k (by omega)
      obtain ⟨b2, o2, rfl, _, g2⟩ := (h2.below hB).at k (by omega)
      generalize R[k]?.getD 0 = x at g1 g2
      clear h1 h2 hB
      go_wp2_with fail
      go_quiet (fail)
      go_wp2
      exact ⟨⟨k + 1, by omega, by simp, below_drewN HB.out _⟩, by simp [intOf]; omega⟩
    · clear h1 h2 hB
      go_wp2
      go_ret
      exact ⟨rfl, HB.out⟩
end Go.Proofs.Ytckopbcpjecjhaa
