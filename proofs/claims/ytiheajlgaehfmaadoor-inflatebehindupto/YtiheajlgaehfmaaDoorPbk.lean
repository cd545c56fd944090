/- InflateBehind's walk where the stream is read. -/
import Derived.Test.YtiheajlgaehfmaaDoorPbh
namespace Go.Proofs.YtiheajlgaehfmaaDoor
open Go.RowKit

theorem bytesIn_newsA {S : Nat → Prop} {w : World} {A : Addr} {len cap : Nat} {bs : List Int} (h : BytesIn S w (.slice (some A) len cap) bs) : ∀ (j : Nat) (u : Value), (bs.map (Value.int .u8))[j]? = some u → w.cell? (A.add j) = some u := by
  have h0 := h
  intro j u hu
  rcases h with ⟨rfl, a, c, e⟩ | ⟨b, o, c, e, hS, hc⟩
  · simp at hu
  · simp only [Value.slice.injEq, Option.some.injEq] at e
    obtain ⟨rfl, _, _⟩ := e
    exact bytesIn_news h0 j u hu

set_option maxRecDepth 100000 in
set_option maxHeartbeats 4000000 in
theorem beh_ok (gb off cap cap1 : Nat) (a1 : Option Addr) (bs ms : List Int) (most M : Int) (hM : (most ≤ 65536 ∧ M = most) ∨ (65536 < most ∧ M = 65536)) (out : List Int) (n : Nat) (hr : inflateS bs M = .ok (out, n)) (w : World) (hb : AreBytes bs) (hbm : AreBytes ms) (hl : bs.length + ms.length ≤ 140737488351232)
    (hcap : bs.length ≤ cap) (hnil : a1 = none → cap1 = 0 ∧ ms = [])
    (hI : BytesIn (fun k => k < w.heap.size) w (.slice (some ⟨gb, off, none⟩) bs.length cap) bs) (hIm : BytesIn (fun k => k < w.heap.size) w (.slice a1 ms.length cap1) ms) (hO : OrdAt w) :
    Calls Tryd.prog 5 #[.slice (some ⟨gb, off, none⟩) bs.length cap, .slice a1 ms.length cap1, .int .i64 most] w fun e w' => e = .returned (.bool true) ∧ Below w.heap.size w w' := by
  obtain ⟨hM0, hn1, hnl, hmore, hcut⟩ := inflate_behind hr
  have hom : (out.length : Int) ≤ M := by
    have := (inflate_room (M := M.toNat) hb (by rw [Int.toNat_of_nonneg hM0]; exact hr)).1
    omega
  have HI1 : Hid (∀ w', Below w.heap.size w w' → BytesIn (fun k => k < w'.heap.size) w' (.slice (some ⟨gb, off, none⟩) n cap) (bs.take n)) := fun w' hw' =>
    bytesIn_take ((hI.kept (Kept.of_below hw' (fun _ h => h))).mono (fun k (h : k < _) => Nat.lt_of_lt_of_le h hw'.size)) n hnl
  have HIm : Hid (∀ w', Below w.heap.size w w' → BytesIn (fun k => k < w'.heap.size) w' (.slice a1 ms.length cap1) ms) := fun w' hw' =>
    (hIm.kept (Kept.of_below hw' (fun _ h => h))).mono (fun k (h : k < _) => Nat.lt_of_lt_of_le h hw'.size)
  have H1 : Hid (Calls Tryd.prog 7 #[.slice (some ⟨gb, off, none⟩) bs.length cap, .int .i64 M] w (InPost w (.ok (out, n)))) := by
    have := inflate_any (some ⟨gb, off, none⟩) cap bs M (by omega) w hb (by omega) hI hO
    rw [hr] at this
    exact this
  have HMo : M ≤ 65536 := by omega
  have H2 : Hid (∀ w' g c, Below w.heap.size w w' → BytesIn (fun k => k < w'.heap.size) w' (.slice g (n + ms.length) c) (bs.take n ++ ms) → Calls Tryd.prog 7 #[.slice g (n + ms.length) c, .int .i64 M] w' (InPost w' (.ok (out, n)))) := by
    intro w' g c hw' hB
    have hlen : (bs.take n ++ ms).length = n + ms.length := by rw [List.length_append, List.length_take]; omega
    have := inflate_any g c (bs.take n ++ ms) M HMo w' (areBytes_append (areBytes_take hb n) hbm) (by omega) (by rw [hlen]; exact hB) (hO.below hw')
    rw [hmore, hlen] at this
    exact this
  have H3 : Hid (∀ w', Below w.heap.size w w' → Calls Tryd.prog 7 #[.slice (some ⟨gb, off, none⟩) (n - 1) cap, .int .i64 M] w' (InPost w' (.error 10))) := by
    intro w' hw'
    have hlen : (bs.take (n - 1)).length = n - 1 := by rw [List.length_take]; omega
    have := inflate_any (some ⟨gb, off, none⟩) cap (bs.take (n - 1)) M HMo w' (areBytes_take hb _) (by omega) (by
      rw [hlen]
      exact bytesIn_take ((hI.kept (Kept.of_below hw' (fun _ h => h))).mono (fun k (h : k < _) => Nat.lt_of_lt_of_le h hw'.size)) (n - 1) (by omega)) (hO.below hw')
    rw [hcut, hlen] at this
    exact this
  have HA : Hid (∀ w', Below w.heap.size w w' → Calls Tryd.prog 10 #[] w' fun e w2 => e = .returned (.bool true) ∧ Below w'.heap.size w' w2) := fun w' hw' => alive_any w' (hO.below hw')
  have t1 : ¬ ((n : Int) < 1) := by omega
  have t2 : ¬ (bs.length < n) := by omega
  have t4 : (n : Int) ≤ (cap : Int) := by omega
  have t4' : n ≤ cap := by omega
  have t5 : (0 : Int) ≤ (n : Int) := by omega
  have t3 : ¬ (M < (out.length : Int)) := by omega
  have hln : (bs.take n).length = n := by rw [List.length_take]; omega
  have HBL : Hid ((bs.take n).length = n) := hln
  have HNl : Hid (n + ms.length ≤ 140737488351232) := by show _ ≤ _; omega
  have HNm : Hid (n ≤ 140737488351232) := by show _ ≤ _; omega
  obtain ⟨i0, hi0, hz0, hz1, hz2⟩ := info_parts Tryd.info5
  clear hmore hcut hI hIm hr hl hom hln
  rcases hM with ⟨hm, rfl⟩ | ⟨hm, rfl⟩
  · go_enter Tryd.func5, Tryd.ntmps5
    go_wp2_with fail
    refine Calls.mono H1.out ?_
    clear H1
    rintro e w1 h1
    obtain ⟨hb1, g1, c1, rfl, hB1⟩ := h1.ok
    clear h1
    have HO0 : Hid ((w1.alloc (.cells #[] 5)).ownsRow w1.heap.size 5 1 (.slice (some ⟨w1.heap.size, 0, none⟩) 0 0) 0 []) :=
      ⟨rfl, .inr ⟨w1.heap.size, 0, #[], rfl, Nat.le_refl _, by show (w1.heap.push _)[w1.heap.size]? = _; simp, Nat.le_refl _, by unfold maxLen; omega, rfl, rfl⟩⟩
    have hba : Below w1.heap.size w1 (w1.alloc (.cells #[] 5)) := (Below.refl w1.heap.size w1).alloc (Nat.le_refl _) _
    have hb1a : Below w.heap.size w (w1.alloc (.cells #[] 5)) := hb1.trans (hba.mono hb1.size)
    have HN0 : Hid (∀ (j : Nat) (u : Value), ((bs.take n).map (Value.int .u8))[j]? = some u → (w1.alloc (.cells #[] 5)).cell? ((⟨gb, off, none⟩ : Addr).add j) = some u) := bytesIn_news (HI1.out _ hb1a)
    have HW1 : Hid (Below w1.heap.size w1 (w1.alloc (.cells #[] 5)) ∧ Below w.heap.size w (w1.alloc (.cells #[] 5)) ∧ Below w.heap.size w w1 ∧ BytesIn (fun k => k < w1.heap.size) w1 (.slice g1 out.length c1) out) := ⟨hba, hb1a, hb1, hB1⟩
    clear hba hb1a hb1 hB1
    go_wp2_with (at_builtin; refine wpList_append_own2 _ rfl (.tmp 52) (.tmp 55) 22 rfl w1.heap.size 5 i0 (.int .u8 0) 1 1 Tryd.underlying22 hi0 hz0 hz1 hz2 rfl (by decide) _ _ _ rfl HO0.out ⟨gb, off, none⟩ n cap ((bs.take n).map (Value.int .u8)) rfl (by rw [List.length_map, HBL.out, Nat.mul_one]) HN0.out (ints_oneCell .u8 _) (by have := HNm.out; unfold maxLen; omega) (by have := HNm.out; omega) (by simp) ?_)
    intro v' w2 ho2 hg2 hk2
    try simp only [Nat.zero_add, List.nil_append] at ho2
    obtain ⟨g2, c2, rfl⟩ := owns_form ho2
    have hb2 : Below w1.heap.size w1 w2 := HW1.out.1.grown hg2 (by simp) (fun k hk => by simp [Value.ownBlock] at hk; omega)
    have hb02 : Below w.heap.size w w2 := HW1.out.2.2.1.trans (hb2.mono HW1.out.2.2.1.size)
    have ho2' := ho2
    have hk2' := hk2
    clear hg2 HO0 HN0 hk2
    cases a1 with
    | none =>
      obtain ⟨rfl, rfl⟩ := hnil rfl
      have hlt : ∀ k, (Value.slice g2 n c2).ownBlock = some k → k < w2.heap.size := by
        intro k hk
        rcases ho2.2 with ⟨e, _⟩ | ⟨g, cp, cur, e, hbg, hgg, _⟩
        · rw [e] at hk; simp [Value.ownBlock] at hk
        · rw [e] at hk
          simp only [Value.ownBlock, Option.some.injEq] at hk
          subst hk
          exact (Array.getElem?_eq_some_iff.1 hgg).1
      have HB3 : Hid (BytesIn (fun k => k < w2.heap.size) w2 (.slice g2 (n + ([] : List Int).length) c2) (bs.take n ++ [])) := by
        rw [List.append_nil]
        show BytesIn _ w2 (.slice g2 n c2) _
        exact bytesIn_of_owns (base := w1.heap.size) _ (by rw [HBL.out, List.map_take]; exact ho2) hlt
      have HOw : Hid _ := ho2
      have HC2 : Hid (Calls Tryd.prog 7 #[.slice g2 n c2, .int .i64 M] w2 (InPost w2 (.ok (out, n)))) := H2.out w2 g2 c2 hb02 HB3.out
      have HW2 : Hid (Below w1.heap.size w1 w2 ∧ Below w.heap.size w w2) := ⟨hb2, hb02⟩
      clear hb2 hb02 ho2 ho2' hk2' hlt HB3
      go_wp2_with (at_builtin; refine wpList_append_nilsrc _ rfl (.tmp 56) (.tmp 57) 22 rfl w1.heap.size 5 i0 1 Tryd.underlying22 hi0 _ _ _ rfl HOw.out rfl ?_)
      go_wp2_with fail
      refine Calls.mono HC2.out ?_
      clear HC2 HOw
      intro e w3 h3
      obtain ⟨hb3, g4, c4, rfl, hB4⟩ := h3.ok
      have hb13 : Below w1.heap.size w1 w3 := HW2.out.1.trans (hb3.mono HW2.out.1.size)
      have hb03 : Below w.heap.size w w3 := HW2.out.2.trans (hb3.mono HW2.out.2.size)
      have HC3 : Hid (Calls Tryd.prog 7 #[.slice (some ⟨gb, off, none⟩) (n - 1) cap, .int .i64 M] w3 (InPost w3 (.error 10))) := H3.out w3 hb03
      have HW3 : Hid (Below w.heap.size w w3 ∧ BytesIn (fun k => k < w3.heap.size) w3 (.slice g1 out.length c1) out ∧ BytesIn (fun k => k < w3.heap.size) w3 (.slice g4 out.length c4) out) := ⟨hb03, (HW1.out.2.2.2.kept (Kept.of_below hb13 (fun _ h => h))).mono (fun k (h : k < _) => Nat.lt_of_lt_of_le h hb13.size), hB4⟩
      clear h3 hb3 hb13 hb03 hB4 HW2 HW1
      have t6 : (0 : Int) ≤ (n : Int) - 1 := by omega
      have t7 : (n : Int) - 1 ≤ (cap : Int) := by omega
      have t8 : ((n : Int) - 1).toNat = n - 1 := by omega
      have t9 : wrap64 ((n : Int) - 1) = (n : Int) - 1 := wrap64_id _ (by have : n ≤ 140737488351232 := HNm.out; omega)
      go_wp2_with fail
      refine Calls.mono HC3.out ?_
      clear HC3
      intro e w4 h4
      obtain ⟨hb4, rfl⟩ := h4.err
      clear h4
      have hb04 : Below w.heap.size w w4 := HW3.out.1.trans (hb4.mono HW3.out.1.size)
      have HS : Hid _ := same_any (fun k => k < w4.heap.size) g1 g4 out.length out.length c1 c4 out w4 ((HW3.out.2.1.kept (Kept.of_below hb4 (fun _ h => h))).mono (fun k (h : k < _) => Nat.lt_of_lt_of_le h hb4.size)) ((HW3.out.2.2.kept (Kept.of_below hb4 (fun _ h => h))).mono (fun k (h : k < _) => Nat.lt_of_lt_of_le h hb4.size))
      have HAA : Hid _ := HA.out w4 hb04
      have HW4 : Hid (Below w.heap.size w w4) := hb04
      clear hb4 hb04 HW3
      go_wp2_with fail
      refine Calls.mono HS.out ?_
      clear HS
      rintro e w5 ⟨rfl, hw5⟩
      subst hw5
      go_wp2_with fail
      refine Calls.mono HAA.out ?_
      clear HAA
      rintro e w6 ⟨rfl, hb6⟩
      have HF : Hid (Below w.heap.size w w6) := HW4.out.trans (hb6.mono HW4.out.size)
      clear hb6 HW4
      go_wp2
      go_ret
      exact ⟨rfl, HF.out⟩
    | some A =>
      have HN2 : Hid (∀ (j : Nat) (u : Value), (ms.map (Value.int .u8))[j]? = some u → w2.cell? (A.add j) = some u) := bytesIn_newsA (HIm.out _ hb02)
      have HOw : Hid _ := ho2
      have HW2' : Hid (Below w1.heap.size w1 w2 ∧ Below w.heap.size w w2) := ⟨hb2, hb02⟩
      have hok : ∀ k, (Value.slice g2 n c2).ownBlock = some k → w1.heap.size ≤ k := by
        intro k hk
        rcases hk2' k hk with h | h
        · simp only [Value.ownBlock, Option.some.injEq] at h; omega
        · have : w1.heap.size ≤ (w1.alloc (.cells #[] 5)).heap.size := by simp
          omega
      have HOK : Hid (∀ k, (Value.slice g2 n c2).ownBlock = some k → w1.heap.size ≤ k) := hok
      clear hb2 hb02 ho2 ho2' hk2' hok
      go_wp2_with (at_builtin; refine wpList_append_own2 _ rfl (.tmp 56) (.tmp 57) 22 rfl w1.heap.size 5 i0 (.int .u8 0) 1 1 Tryd.underlying22 hi0 hz0 hz1 hz2 rfl (by decide) _ _ _ rfl HOw.out A ms.length cap1 (ms.map (Value.int .u8)) rfl (by rw [List.length_map, Nat.mul_one]) HN2.out (ints_oneCell .u8 _) (by have := HNl.out; unfold maxLen; omega) (by have := HNl.out; omega) (HW2'.out.1.size) ?_)
      intro v3 w2b ho3 hg3 hk3
      obtain ⟨g3, c3, rfl⟩ := owns_form ho3
      have hb2 : Below w1.heap.size w1 w2b := HW2'.out.1.grown hg3 HW2'.out.1.size HOK.out
      have hb02 : Below w.heap.size w w2b := HW1.out.2.2.1.trans (hb2.mono HW1.out.2.2.1.size)
      have hlt : ∀ k, (Value.slice g3 (n + ms.length) c3).ownBlock = some k → k < w2b.heap.size := by
        intro k hk
        rcases ho3.2 with ⟨e, _⟩ | ⟨g, cp, cur, e, hbg, hgg, _⟩
        · rw [e] at hk; simp [Value.ownBlock] at hk
        · rw [e] at hk
          simp only [Value.ownBlock, Option.some.injEq] at hk
          subst hk
          exact (Array.getElem?_eq_some_iff.1 hgg).1
      have HB3 : Hid (BytesIn (fun k => k < w2b.heap.size) w2b (.slice g3 (n + ms.length) c3) (bs.take n ++ ms)) :=
        bytesIn_of_owns (base := w1.heap.size) _ (by rw [List.length_append, HBL.out, List.map_append, List.map_take]; exact ho3) hlt
      have HC2 : Hid (Calls Tryd.prog 7 #[.slice g3 (n + ms.length) c3, .int .i64 M] w2b (InPost w2b (.ok (out, n)))) := H2.out w2b g3 c3 hb02 HB3.out
      have HW2 : Hid (Below w1.heap.size w1 w2b ∧ Below w.heap.size w w2b) := ⟨hb2, hb02⟩
      clear hb2 hb02 ho3 hg3 hk3 hlt HB3 HOw HOK HN2 HW2'
      go_wp2_with fail
      refine Calls.mono HC2.out ?_
      clear HC2
      intro e w3 h3
      obtain ⟨hb3, g4, c4, rfl, hB4⟩ := h3.ok
      have hb13 : Below w1.heap.size w1 w3 := HW2.out.1.trans (hb3.mono HW2.out.1.size)
      have hb03 : Below w.heap.size w w3 := HW2.out.2.trans (hb3.mono HW2.out.2.size)
      have HC3 : Hid (Calls Tryd.prog 7 #[.slice (some ⟨gb, off, none⟩) (n - 1) cap, .int .i64 M] w3 (InPost w3 (.error 10))) := H3.out w3 hb03
      have HW3 : Hid (Below w.heap.size w w3 ∧ BytesIn (fun k => k < w3.heap.size) w3 (.slice g1 out.length c1) out ∧ BytesIn (fun k => k < w3.heap.size) w3 (.slice g4 out.length c4) out) := ⟨hb03, (HW1.out.2.2.2.kept (Kept.of_below hb13 (fun _ h => h))).mono (fun k (h : k < _) => Nat.lt_of_lt_of_le h hb13.size), hB4⟩
      clear h3 hb3 hb13 hb03 hB4 HW2 HW1
      have t6 : (0 : Int) ≤ (n : Int) - 1 := by omega
      have t7 : (n : Int) - 1 ≤ (cap : Int) := by omega
      have t8 : ((n : Int) - 1).toNat = n - 1 := by omega
      have t9 : wrap64 ((n : Int) - 1) = (n : Int) - 1 := wrap64_id _ (by have : n ≤ 140737488351232 := HNm.out; omega)
      go_wp2_with fail
      refine Calls.mono HC3.out ?_
      clear HC3
      intro e w4 h4
      obtain ⟨hb4, rfl⟩ := h4.err
      clear h4
      have hb04 : Below w.heap.size w w4 := HW3.out.1.trans (hb4.mono HW3.out.1.size)
      have HS : Hid _ := same_any (fun k => k < w4.heap.size) g1 g4 out.length out.length c1 c4 out w4 ((HW3.out.2.1.kept (Kept.of_below hb4 (fun _ h => h))).mono (fun k (h : k < _) => Nat.lt_of_lt_of_le h hb4.size)) ((HW3.out.2.2.kept (Kept.of_below hb4 (fun _ h => h))).mono (fun k (h : k < _) => Nat.lt_of_lt_of_le h hb4.size))
      have HAA : Hid _ := HA.out w4 hb04
      have HW4 : Hid (Below w.heap.size w w4) := hb04
      clear hb4 hb04 HW3
      go_wp2_with fail
      refine Calls.mono HS.out ?_
      clear HS
      rintro e w5 ⟨rfl, hw5⟩
      subst hw5
      go_wp2_with fail
      refine Calls.mono HAA.out ?_
      clear HAA
      rintro e w6 ⟨rfl, hb6⟩
      have HF : Hid (Below w.heap.size w w6) := HW4.out.trans (hb6.mono HW4.out.size)
      clear hb6 HW4
      go_wp2
      go_ret
      exact ⟨rfl, HF.out⟩
  · go_enter Tryd.func5, Tryd.ntmps5
    go_wp2_with fail
    refine Calls.mono H1.out ?_
    clear H1
    rintro e w1 h1
    obtain ⟨hb1, g1, c1, rfl, hB1⟩ := h1.ok
    clear h1
    have HO0 : Hid ((w1.alloc (.cells #[] 5)).ownsRow w1.heap.size 5 1 (.slice (some ⟨w1.heap.size, 0, none⟩) 0 0) 0 []) :=
      ⟨rfl, .inr ⟨w1.heap.size, 0, #[], rfl, Nat.le_refl _, by show (w1.heap.push _)[w1.heap.size]? = _; simp, Nat.le_refl _, by unfold maxLen; omega, rfl, rfl⟩⟩
    have hba : Below w1.heap.size w1 (w1.alloc (.cells #[] 5)) := (Below.refl w1.heap.size w1).alloc (Nat.le_refl _) _
    have hb1a : Below w.heap.size w (w1.alloc (.cells #[] 5)) := hb1.trans (hba.mono hb1.size)
    have HN0 : Hid (∀ (j : Nat) (u : Value), ((bs.take n).map (Value.int .u8))[j]? = some u → (w1.alloc (.cells #[] 5)).cell? ((⟨gb, off, none⟩ : Addr).add j) = some u) := bytesIn_news (HI1.out _ hb1a)
    have HW1 : Hid (Below w1.heap.size w1 (w1.alloc (.cells #[] 5)) ∧ Below w.heap.size w (w1.alloc (.cells #[] 5)) ∧ Below w.heap.size w w1 ∧ BytesIn (fun k => k < w1.heap.size) w1 (.slice g1 out.length c1) out) := ⟨hba, hb1a, hb1, hB1⟩
    clear hba hb1a hb1 hB1
    go_wp2_with (at_builtin; refine wpList_append_own2 _ rfl (.tmp 52) (.tmp 55) 22 rfl w1.heap.size 5 i0 (.int .u8 0) 1 1 Tryd.underlying22 hi0 hz0 hz1 hz2 rfl (by decide) _ _ _ rfl HO0.out ⟨gb, off, none⟩ n cap ((bs.take n).map (Value.int .u8)) rfl (by rw [List.length_map, HBL.out, Nat.mul_one]) HN0.out (ints_oneCell .u8 _) (by have := HNm.out; unfold maxLen; omega) (by have := HNm.out; omega) (by simp) ?_)
    intro v' w2 ho2 hg2 hk2
    try simp only [Nat.zero_add, List.nil_append] at ho2
    obtain ⟨g2, c2, rfl⟩ := owns_form ho2
    have hb2 : Below w1.heap.size w1 w2 := HW1.out.1.grown hg2 (by simp) (fun k hk => by simp [Value.ownBlock] at hk; omega)
    have hb02 : Below w.heap.size w w2 := HW1.out.2.2.1.trans (hb2.mono HW1.out.2.2.1.size)
    have ho2' := ho2
    have hk2' := hk2
    clear hg2 HO0 HN0 hk2
    cases a1 with
    | none =>
      obtain ⟨rfl, rfl⟩ := hnil rfl
      have hlt : ∀ k, (Value.slice g2 n c2).ownBlock = some k → k < w2.heap.size := by
        intro k hk
        rcases ho2.2 with ⟨e, _⟩ | ⟨g, cp, cur, e, hbg, hgg, _⟩
        · rw [e] at hk; simp [Value.ownBlock] at hk
        · rw [e] at hk
          simp only [Value.ownBlock, Option.some.injEq] at hk
          subst hk
          exact (Array.getElem?_eq_some_iff.1 hgg).1
      have HB3 : Hid (BytesIn (fun k => k < w2.heap.size) w2 (.slice g2 (n + ([] : List Int).length) c2) (bs.take n ++ [])) := by
        rw [List.append_nil]
        show BytesIn _ w2 (.slice g2 n c2) _
        exact bytesIn_of_owns (base := w1.heap.size) _ (by rw [HBL.out, List.map_take]; exact ho2) hlt
      have HOw : Hid _ := ho2
      have HC2 : Hid (Calls Tryd.prog 7 #[.slice g2 n c2, .int .i64 65536] w2 (InPost w2 (.ok (out, n)))) := H2.out w2 g2 c2 hb02 HB3.out
      have HW2 : Hid (Below w1.heap.size w1 w2 ∧ Below w.heap.size w w2) := ⟨hb2, hb02⟩
      clear hb2 hb02 ho2 ho2' hk2' hlt HB3
      go_wp2_with (at_builtin; refine wpList_append_nilsrc _ rfl (.tmp 56) (.tmp 57) 22 rfl w1.heap.size 5 i0 1 Tryd.underlying22 hi0 _ _ _ rfl HOw.out rfl ?_)
      go_wp2_with fail
      refine Calls.mono HC2.out ?_
      clear HC2 HOw
      intro e w3 h3
      obtain ⟨hb3, g4, c4, rfl, hB4⟩ := h3.ok
      have hb13 : Below w1.heap.size w1 w3 := HW2.out.1.trans (hb3.mono HW2.out.1.size)
      have hb03 : Below w.heap.size w w3 := HW2.out.2.trans (hb3.mono HW2.out.2.size)
      have HC3 : Hid (Calls Tryd.prog 7 #[.slice (some ⟨gb, off, none⟩) (n - 1) cap, .int .i64 65536] w3 (InPost w3 (.error 10))) := H3.out w3 hb03
      have HW3 : Hid (Below w.heap.size w w3 ∧ BytesIn (fun k => k < w3.heap.size) w3 (.slice g1 out.length c1) out ∧ BytesIn (fun k => k < w3.heap.size) w3 (.slice g4 out.length c4) out) := ⟨hb03, (HW1.out.2.2.2.kept (Kept.of_below hb13 (fun _ h => h))).mono (fun k (h : k < _) => Nat.lt_of_lt_of_le h hb13.size), hB4⟩
      clear h3 hb3 hb13 hb03 hB4 HW2 HW1
      have t6 : (0 : Int) ≤ (n : Int) - 1 := by omega
      have t7 : (n : Int) - 1 ≤ (cap : Int) := by omega
      have t8 : ((n : Int) - 1).toNat = n - 1 := by omega
      have t9 : wrap64 ((n : Int) - 1) = (n : Int) - 1 := wrap64_id _ (by have : n ≤ 140737488351232 := HNm.out; omega)
      go_wp2_with fail
      refine Calls.mono HC3.out ?_
      clear HC3
      intro e w4 h4
      obtain ⟨hb4, rfl⟩ := h4.err
      clear h4
      have hb04 : Below w.heap.size w w4 := HW3.out.1.trans (hb4.mono HW3.out.1.size)
      have HS : Hid _ := same_any (fun k => k < w4.heap.size) g1 g4 out.length out.length c1 c4 out w4 ((HW3.out.2.1.kept (Kept.of_below hb4 (fun _ h => h))).mono (fun k (h : k < _) => Nat.lt_of_lt_of_le h hb4.size)) ((HW3.out.2.2.kept (Kept.of_below hb4 (fun _ h => h))).mono (fun k (h : k < _) => Nat.lt_of_lt_of_le h hb4.size))
      have HAA : Hid _ := HA.out w4 hb04
      have HW4 : Hid (Below w.heap.size w w4) := hb04
      clear hb4 hb04 HW3
      go_wp2_with fail
      refine Calls.mono HS.out ?_
      clear HS
      rintro e w5 ⟨rfl, hw5⟩
      subst hw5
      go_wp2_with fail
      refine Calls.mono HAA.out ?_
      clear HAA
      rintro e w6 ⟨rfl, hb6⟩
      have HF : Hid (Below w.heap.size w w6) := HW4.out.trans (hb6.mono HW4.out.size)
      clear hb6 HW4
      go_wp2
      go_ret
      exact ⟨rfl, HF.out⟩
    | some A =>
      have HN2 : Hid (∀ (j : Nat) (u : Value), (ms.map (Value.int .u8))[j]? = some u → w2.cell? (A.add j) = some u) := bytesIn_newsA (HIm.out _ hb02)
      have HOw : Hid _ := ho2
      have HW2' : Hid (Below w1.heap.size w1 w2 ∧ Below w.heap.size w w2) := ⟨hb2, hb02⟩
      have hok : ∀ k, (Value.slice g2 n c2).ownBlock = some k → w1.heap.size ≤ k := by
        intro k hk
        rcases hk2' k hk with h | h
        · simp only [Value.ownBlock, Option.some.injEq] at h; omega
        · have : w1.heap.size ≤ (w1.alloc (.cells #[] 5)).heap.size := by simp
          omega
      have HOK : Hid (∀ k, (Value.slice g2 n c2).ownBlock = some k → w1.heap.size ≤ k) := hok
      clear hb2 hb02 ho2 ho2' hk2' hok
      go_wp2_with (at_builtin; refine wpList_append_own2 _ rfl (.tmp 56) (.tmp 57) 22 rfl w1.heap.size 5 i0 (.int .u8 0) 1 1 Tryd.underlying22 hi0 hz0 hz1 hz2 rfl (by decide) _ _ _ rfl HOw.out A ms.length cap1 (ms.map (Value.int .u8)) rfl (by rw [List.length_map, Nat.mul_one]) HN2.out (ints_oneCell .u8 _) (by have := HNl.out; unfold maxLen; omega) (by have := HNl.out; omega) (HW2'.out.1.size) ?_)
      intro v3 w2b ho3 hg3 hk3
      obtain ⟨g3, c3, rfl⟩ := owns_form ho3
      have hb2 : Below w1.heap.size w1 w2b := HW2'.out.1.grown hg3 HW2'.out.1.size HOK.out
      have hb02 : Below w.heap.size w w2b := HW1.out.2.2.1.trans (hb2.mono HW1.out.2.2.1.size)
      have hlt : ∀ k, (Value.slice g3 (n + ms.length) c3).ownBlock = some k → k < w2b.heap.size := by
        intro k hk
        rcases ho3.2 with ⟨e, _⟩ | ⟨g, cp, cur, e, hbg, hgg, _⟩
        · rw [e] at hk; simp [Value.ownBlock] at hk
        · rw [e] at hk
          simp only [Value.ownBlock, Option.some.injEq] at hk
          subst hk
          exact (Array.getElem?_eq_some_iff.1 hgg).1
      have HB3 : Hid (BytesIn (fun k => k < w2b.heap.size) w2b (.slice g3 (n + ms.length) c3) (bs.take n ++ ms)) :=
        bytesIn_of_owns (base := w1.heap.size) _ (by rw [List.length_append, HBL.out, List.map_append, List.map_take]; exact ho3) hlt
      have HC2 : Hid (Calls Tryd.prog 7 #[.slice g3 (n + ms.length) c3, .int .i64 65536] w2b (InPost w2b (.ok (out, n)))) := H2.out w2b g3 c3 hb02 HB3.out
      have HW2 : Hid (Below w1.heap.size w1 w2b ∧ Below w.heap.size w w2b) := ⟨hb2, hb02⟩
      clear hb2 hb02 ho3 hg3 hk3 hlt HB3 HOw HOK HN2 HW2'
      go_wp2_with fail
      refine Calls.mono HC2.out ?_
      clear HC2
      intro e w3 h3
      obtain ⟨hb3, g4, c4, rfl, hB4⟩ := h3.ok
      have hb13 : Below w1.heap.size w1 w3 := HW2.out.1.trans (hb3.mono HW2.out.1.size)
      have hb03 : Below w.heap.size w w3 := HW2.out.2.trans (hb3.mono HW2.out.2.size)
      have HC3 : Hid (Calls Tryd.prog 7 #[.slice (some ⟨gb, off, none⟩) (n - 1) cap, .int .i64 65536] w3 (InPost w3 (.error 10))) := H3.out w3 hb03
      have HW3 : Hid (Below w.heap.size w w3 ∧ BytesIn (fun k => k < w3.heap.size) w3 (.slice g1 out.length c1) out ∧ BytesIn (fun k => k < w3.heap.size) w3 (.slice g4 out.length c4) out) := ⟨hb03, (HW1.out.2.2.2.kept (Kept.of_below hb13 (fun _ h => h))).mono (fun k (h : k < _) => Nat.lt_of_lt_of_le h hb13.size), hB4⟩
      clear h3 hb3 hb13 hb03 hB4 HW2 HW1
      have t6 : (0 : Int) ≤ (n : Int) - 1 := by omega
      have t7 : (n : Int) - 1 ≤ (cap : Int) := by omega
      have t8 : ((n : Int) - 1).toNat = n - 1 := by omega
      have t9 : wrap64 ((n : Int) - 1) = (n : Int) - 1 := wrap64_id _ (by have : n ≤ 140737488351232 := HNm.out; omega)
      go_wp2_with fail
      refine Calls.mono HC3.out ?_
      clear HC3
      intro e w4 h4
      obtain ⟨hb4, rfl⟩ := h4.err
      clear h4
      have hb04 : Below w.heap.size w w4 := HW3.out.1.trans (hb4.mono HW3.out.1.size)
      have HS : Hid _ := same_any (fun k => k < w4.heap.size) g1 g4 out.length out.length c1 c4 out w4 ((HW3.out.2.1.kept (Kept.of_below hb4 (fun _ h => h))).mono (fun k (h : k < _) => Nat.lt_of_lt_of_le h hb4.size)) ((HW3.out.2.2.kept (Kept.of_below hb4 (fun _ h => h))).mono (fun k (h : k < _) => Nat.lt_of_lt_of_le h hb4.size))
      have HAA : Hid _ := HA.out w4 hb04
      have HW4 : Hid (Below w.heap.size w w4) := hb04
      clear hb4 hb04 HW3
      go_wp2_with fail
      refine Calls.mono HS.out ?_
      clear HS
      rintro e w5 ⟨rfl, hw5⟩
      subst hw5
      go_wp2_with fail
      refine Calls.mono HAA.out ?_
      clear HAA
      rintro e w6 ⟨rfl, hb6⟩
      have HF : Hid (Below w.heap.size w w6) := HW4.out.trans (hb6.mono HW4.out.size)
      clear hb6 HW4
      go_wp2
      go_ret
      exact ⟨rfl, HF.out⟩
end Go.Proofs.YtiheajlgaehfmaaDoor
