/- InflateBehind's walk. -/
import Derived.Test.YtiheajlgaehfmaaDoorPlp
import Derived.Test.YtiheajlgaehfmaaDoorPal
import Derived.Test.YtiheajlgaehfmaaDoorPpl
import Derived.Test.YtiheajlgaehfmaaDoorPin
namespace Go.Proofs.YtiheajlgaehfmaaDoor
open Go.RowKit

theorem bytesIn_take {S : Nat → Prop} {w : World} {gb off len cap : Nat} {bs : List Int} (h : BytesIn S w (.slice (some ⟨gb, off, none⟩) len cap) bs) (k : Nat) (hk : k ≤ bs.length) : BytesIn S w (.slice (some ⟨gb, off, none⟩) k cap) (bs.take k) := by
  have hl : (bs.take k).length = k := by rw [List.length_take]; omega
  rcases h with ⟨rfl, a, c, e⟩ | ⟨b, o, c, e, hS, hc⟩
  · have : k = 0 := by simpa using hk
    subst this
    exact .inl ⟨by simp, _, _, rfl⟩
  · simp only [Value.slice.injEq, Option.some.injEq, Addr.mk.injEq, and_true] at e
    obtain ⟨⟨rfl, rfl⟩, _, rfl⟩ := e
    refine .inr ⟨gb, off, cap, by rw [hl], hS, fun j hj => ?_⟩
    rw [hl] at hj
    rw [List.getElem?_take_of_lt hj]
    exact hc j (by omega)
theorem bytesIn_news {S : Nat → Prop} {w : World} {gb off len cap : Nat} {bs : List Int} (h : BytesIn S w (.slice (some ⟨gb, off, none⟩) len cap) bs) : ∀ (j : Nat) (u : Value), (bs.map (Value.int .u8))[j]? = some u → w.cell? ((⟨gb, off, none⟩ : Addr).add j) = some u := by
  intro j u hu
  rcases h with ⟨rfl, a, c, e⟩ | ⟨b, o, c, e, hS, hc⟩
  · simp at hu
  · simp only [Value.slice.injEq, Option.some.injEq, Addr.mk.injEq, and_true] at e
    obtain ⟨⟨rfl, rfl⟩, _, rfl⟩ := e
    have hj : j < bs.length := by
      have := (List.getElem?_eq_some_iff.1 hu).1
      simpa using this
    have hadd : (⟨gb, off, none⟩ : Addr).add j = ⟨gb, off + j, none⟩ := by unfold Addr.add; split <;> simp_all
    rw [hadd, hc j hj]
    have e : (bs.map (Value.int .u8))[j]? = some (.int .u8 (bs[j]?.getD 0)) := by simp [hj]
    rw [e] at hu
    exact hu
theorem areBytes_take {bs : List Int} (h : AreBytes bs) (k : Nat) : AreBytes (bs.take k) := by
  intro j
  by_cases hj : j < k
  · rw [List.getElem?_take_of_lt hj]; exact h j
  · rw [List.getElem?_eq_none (by rw [List.length_take]; omega)]; simp
theorem areBytes_append {bs ms : List Int} (h : AreBytes bs) (h2 : AreBytes ms) : AreBytes (bs ++ ms) := by
  intro j
  by_cases hj : j < bs.length
  · rw [List.getElem?_append_left hj]; exact h j
  · rw [List.getElem?_append_right (by omega)]; exact h2 _

set_option maxRecDepth 100000 in
set_option maxHeartbeats 4000000 in
theorem beh_err (a a1 : Option Addr) (cap cap1 l1 : Nat) (bs : List Int) (most M : Int) (hM : (most ≤ 65536 ∧ M = most) ∨ (65536 < most ∧ M = 65536)) (er : Int) (hr : inflateS bs M = .error er) (w : World) (hb : AreBytes bs) (hl : bs.length ≤ 140737488351232)
    (hI : BytesIn (fun k => k < w.heap.size) w (.slice a bs.length cap) bs) (hO : OrdAt w) :
    Calls Tryd.prog 5 #[.slice a bs.length cap, .slice a1 l1 cap1, .int .i64 most] w fun e w' => e = .returned (.bool true) ∧ Below w.heap.size w w' := by
  have H1 : Hid (Calls Tryd.prog 7 #[.slice a bs.length cap, .int .i64 M] w (InPost w (.error er))) := by
    have := inflate_any a cap bs M (by omega) w hb hl hI hO
    rw [hr] at this
    exact this
  have hcont : ∀ e w1, InPost w (.error er) e w1 → Below w.heap.size w w1 ∧ er ≠ 0 ∧ e = .returned (.tuple #[.slice none 0 0, .int .i64 0, .int .i64 er]) := by
    rintro e w1 ⟨h, (⟨er', h1, h2, h3⟩ | ⟨out, took, g, c, h1, _⟩)⟩
    · simp only [Except.error.injEq] at h1
      subst h1
      exact ⟨h, h2, h3⟩
    · cases h1
  have HC : Hid (∀ e w1, InPost w (.error er) e w1 → Below w.heap.size w w1 ∧ er ≠ 0 ∧ e = .returned (.tuple #[.slice none 0 0, .int .i64 0, .int .i64 er])) := hcont
  clear hcont hr hI
  rcases hM with ⟨hm, rfl⟩ | ⟨hm, rfl⟩
  all_goals
    go_enter Tryd.func5, Tryd.ntmps5
    go_wp2_with fail
    refine Calls.mono H1.out ?_
    intro e w1 hp
    obtain ⟨hb1, hne, rfl⟩ := HC.out e w1 hp
    clear hp
    have t1 : (er != 0) = true := by simpa using hne
    have HA : Hid _ := alive_any w1 (hO.below hb1)
    go_wp2_with fail
    refine Calls.mono HA.out ?_
    rintro e w2 ⟨rfl, hb2⟩
    clear HA
    have HF : Hid (Below w.heap.size w w2) := hb1.trans (hb2.mono hb1.size)
    clear hb1 hb2
    go_wp2
    go_ret
    exact ⟨rfl, HF.out⟩
end Go.Proofs.YtiheajlgaehfmaaDoor
