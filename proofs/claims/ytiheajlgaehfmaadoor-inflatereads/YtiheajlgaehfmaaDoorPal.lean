import Derived.Test.YtiheajlgaehfmaaDoorPin
/- What must come at any rate: the chapter's examples. -/
namespace Go.Proofs.YtiheajlgaehfmaaDoor
open Go.RowKit

theorem al1 : inflateS [75, 4, 0] 9 = .ok ([97], 3) := by kernel_rfl
theorem al2 : inflateS [1, 1, 0, 254, 255, 97] 9 = .ok ([97], 6) := by kernel_rfl
theorem al3 : inflateS [7] 9 = .error 12 := by kernel_rfl
theorem al4 : inflateS [] 9 = .error 10 := by kernel_rfl
theorem InPost.ok {w : World} {out : List Int} {took : Nat} {e : Ending} {w' : World} (h : InPost w (.ok (out, took)) e w') : Below w.heap.size w w' ∧ ∃ g c, e = .returned (.tuple #[.slice g out.length c, .int .i64 (took : Int), .int .i64 0]) ∧ BytesIn (fun k => k < w'.heap.size) w' (.slice g out.length c) out := by
  obtain ⟨hb, ⟨er, h1, _⟩ | ⟨o, t, g, c, h1, _, _, h2, h3⟩⟩ := h
  · cases h1
  · simp only [Except.ok.injEq, Prod.mk.injEq] at h1
    obtain ⟨rfl, rfl⟩ := h1
    exact ⟨hb, g, c, h2, h3⟩
theorem InPost.err {w : World} {er : Int} {e : Ending} {w' : World} (h : InPost w (.error er) e w') : Below w.heap.size w w' ∧ e = .returned (.tuple #[.slice none 0 0, .int .i64 0, .int .i64 er]) := by
  obtain ⟨hb, ⟨er', h1, _, h2⟩ | ⟨o, t, g, c, h1, _⟩⟩ := h
  · cases h1
    exact ⟨hb, h2⟩
  · cases h1
theorem bytesIn_new (w : World) (zs : List Int) (c : Nat) : BytesIn (fun k => k < (w.alloc (.cells (zs.map (Value.int .u8)).toArray 5)).heap.size) (w.alloc (.cells (zs.map (Value.int .u8)).toArray 5)) (.slice (some ⟨w.heap.size, 0, none⟩) zs.length c) zs :=
  .inr ⟨w.heap.size, 0, c, rfl, by simp, fun j hj => by
    rw [Nat.zero_add]
    exact (Row.new w 5 _).cell (by simp [hj])⟩

set_option maxRecDepth 100000 in
set_option maxHeartbeats 4000000 in
theorem alive_any (w : World) (hO : OrdAt w) : Calls Tryd.prog 10 #[] w fun e w' => e = .returned (.bool true) ∧ Below w.heap.size w w' := by
  have hb1 : AreBytes [75, 4, 0] := fun j => by rcases j with _ | _ | _ | j <;> simp
  have hb2 : AreBytes [1, 1, 0, 254, 255, 97] := fun j => by rcases j with _ | _ | _ | _ | _ | _ | j <;> simp
  have hb3 : AreBytes [7] := fun j => by rcases j with _ | j <;> simp
  have hb4 : AreBytes [] := fun j => by simp
  have hbl0 : Below w.heap.size w (w.alloc (.cells #[.int .u8 75, .int .u8 4, .int .u8 0] 5)) := (Below.refl _ w).alloc (Nat.le_refl _) _
  have H1 : Hid (Calls Tryd.prog 7 #[.slice (some ⟨w.heap.size, 0, none⟩) 3 3, .int .i64 9] (w.alloc (.cells #[.int .u8 75, .int .u8 4, .int .u8 0] 5)) (InPost (w.alloc (.cells #[.int .u8 75, .int .u8 4, .int .u8 0] 5)) (.ok ([97], 3)))) := by
    have := inflate_any (some ⟨w.heap.size, 0, none⟩) 3 [75, 4, 0] 9 (by omega) _ hb1 (by decide) (bytesIn_new w [75, 4, 0] 3) (hO.below hbl0)
    rw [al1] at this
    exact this
  go_enter Tryd.func10, Tryd.ntmps10
  go_wp2_with fail
  refine Calls.mono H1.out ?_
  clear H1
  rintro e w1 h1
  obtain ⟨hx1, g1, c1, rfl, hB1⟩ := h1.ok
  have hbl1 : Below w.heap.size w w1 := hbl0.trans (hx1.mono (by simp))
  clear h1 hx1 hbl0
  have hy1 : Below w1.heap.size w1 (w1.alloc (.cells #[.int .u8 1, .int .u8 1, .int .u8 0, .int .u8 254, .int .u8 255, .int .u8 97] 5)) := (Below.refl _ w1).alloc (Nat.le_refl _) _
  have H2 : Hid (Calls Tryd.prog 7 #[.slice (some ⟨w1.heap.size, 0, none⟩) 6 6, .int .i64 9] (w1.alloc (.cells #[.int .u8 1, .int .u8 1, .int .u8 0, .int .u8 254, .int .u8 255, .int .u8 97] 5)) (InPost (w1.alloc (.cells #[.int .u8 1, .int .u8 1, .int .u8 0, .int .u8 254, .int .u8 255, .int .u8 97] 5)) (.ok ([97], 6)))) := by
    have := inflate_any (some ⟨w1.heap.size, 0, none⟩) 6 [1, 1, 0, 254, 255, 97] 9 (by omega) _ hb2 (by decide) (bytesIn_new w1 [1, 1, 0, 254, 255, 97] 6) ((hO.below hbl1).below hy1)
    rw [al2] at this
    exact this
  go_wp2_with fail
  refine Calls.mono H2.out ?_
  clear H2
  rintro e w2 h2
  obtain ⟨hx2, g2, c2, rfl, hB2⟩ := h2.ok
  have hz2 : Below w1.heap.size w1 w2 := hy1.trans (hx2.mono (by simp))
  have hbl2 : Below w.heap.size w w2 := hbl1.trans (hz2.mono hbl1.size)
  have hB12 := hB1.kept (Kept.of_below hz2 (fun _ h => h))
  clear h2 hx2 hy1 hB1
  have hy2 : Below w2.heap.size w2 (w2.alloc (.cells #[.int .u8 7] 5)) := (Below.refl _ w2).alloc (Nat.le_refl _) _
  have H3 : Hid (Calls Tryd.prog 7 #[.slice (some ⟨w2.heap.size, 0, none⟩) 1 1, .int .i64 9] (w2.alloc (.cells #[.int .u8 7] 5)) (InPost (w2.alloc (.cells #[.int .u8 7] 5)) (.error 12))) := by
    have := inflate_any (some ⟨w2.heap.size, 0, none⟩) 1 [7] 9 (by omega) _ hb3 (by decide) (bytesIn_new w2 [7] 1) ((hO.below hbl2).below hy2)
    rw [al3] at this
    exact this
  go_wp2_with fail
  refine Calls.mono H3.out ?_
  clear H3
  rintro e w3 h3
  obtain ⟨hx3, rfl⟩ := h3.err
  have hz3 : Below w2.heap.size w2 w3 := hy2.trans (hx3.mono (by simp))
  have hbl3 : Below w.heap.size w w3 := hbl2.trans (hz3.mono hbl2.size)
  clear h3 hx3 hy2
  have H4 : Hid (Calls Tryd.prog 7 #[.slice none 0 0, .int .i64 9] w3 (InPost w3 (.error 10))) := by
    have := inflate_any none 0 [] 9 (by omega) w3 hb4 (by decide) (.inl ⟨rfl, none, 0, rfl⟩) (hO.below hbl3)
    rw [al4] at this
    exact this
  go_wp2_with fail
  refine Calls.mono H4.out ?_
  clear H4
  rintro e w4 h4
  obtain ⟨hx4, rfl⟩ := h4.err
  have hbl4 : Below w.heap.size w w4 := hbl3.trans (hx4.mono hbl3.size)
  have hz4 : Below w2.heap.size w2 w4 := hz3.trans (hx4.mono hz3.size)
  have k1 := conv_bytes _ w4 _ _ (hB12.kept (Kept.of_below hz4 (fun k hk => Nat.lt_of_lt_of_le hk hz2.size)))
  have k2 := conv_bytes _ w4 _ _ (hB2.kept (Kept.of_below hz4 (fun _ h => h)))
  simp only [List.length_cons, List.length_nil, Nat.zero_add] at k1 k2
  have HF : Hid (Below w.heap.size w w4) := hbl4
  have hst : (strOfNums [97]).toList = [97] := by kernel_rfl
  clear hbl1 hbl2 hbl3 hbl4 hz2 hz3 hz4 hx4 h4 hB2 hB12 hO
  go_wp2
  go_ret
  exact ⟨rfl, HF.out⟩
end Go.Proofs.YtiheajlgaehfmaaDoor
