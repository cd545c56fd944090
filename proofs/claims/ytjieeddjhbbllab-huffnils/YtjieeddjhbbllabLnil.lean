/- HuffNils is proved: for any bytes (within the form's reach) Next of a nil decoder and Next at a nil reader answer the error for nil, and the chapter's examples hold; no condition. -/
import Derived.Test.YtjieeddjhbbllabLive
import Derived.Test.YtjieeddjhbbllabNew
import Derived.Test.YtjieeddjhbbllabRowk
import Derived.WalkMore
namespace Go.Proofs.Ytjieeddjhbbllab.huffNils
open Go.ChangeShapes Go.WideShapes Go.ChangeAt Go.RowKit

set_option maxHeartbeats 400000 in
theorem next_nil_d (v : Value) (w : World) : Calls Try.prog 4 #[.pointer none, v] w fun e w' => e = .returned (.tuple #[.int .i64 0, .int .i64 2]) ∧ w' = w := by
  go_enter Try.func4, Try.ntmps4
  go_wp2
  go_step3
  go_wp2
  rw [Exit.noGoto_ret]
  go_ret2
  exact ⟨rfl, rfl⟩
set_option maxHeartbeats 400000 in
theorem next_nil_r (p : Addr) (w : World) : Calls Try.prog 4 #[.pointer (some p), .pointer none] w fun e w' => e = .returned (.tuple #[.int .i64 0, .int .i64 2]) ∧ w' = w := by
  go_enter Try.func4, Try.ntmps4
  go_wp2
  go_step3
  go_wp2
  rw [Exit.noGoto_ret]
  go_ret2
  exact ⟨rfl, rfl⟩

set_option maxRecDepth 100000 in
set_option maxHeartbeats 2000000 in
theorem walk (a : Option Addr) (ca : Nat) (bs : List Int) (w : World) (hl : bs.length ≤ 140737488351232) (hI : BytesIn (· < w.heap.size) w (.slice a bs.length ca) bs) :
    Calls Try.prog 3 #[.slice a bs.length ca] w fun e w' => e = .returned (.bool true) ∧ Below w.heap.size w w' := by
  have HN : Hid (∀ W : World, Calls Try.prog 6 #[.slice (some ⟨W.heap.size, 0, none⟩) 2 2] (W.alloc (.cells #[.int .i64 1, .int .i64 1] 3)) fun e w' => Below W.heap.size W w' ∧ ∃ D, e = .returned (.tuple #[.pointer (some ⟨D, 0, none⟩), .int .i64 0])) := by
    intro W
    refine (new_ok (fun k => k < W.heap.size + 1) (some ⟨W.heap.size, 0, none⟩) 2 [1, 1] (W.alloc (.cells (intsV [1, 1]) 3)) (fun k hk => by simp; omega) (intsIn_new W [1, 1]) (by decide) (by decide)).mono ?_
    rintro e w' ⟨D, he, _, _, hB⟩
    exact ⟨((Below.refl _ W).alloc (Nat.le_refl _) _).trans (hB.mono (by simp)), D, he⟩
  go_enter Try.func3, Try.ntmps3
  go_wp2_with fail
  refine (newReader_any (· < w.heap.size) a ca bs w (by omega) hI).mono ?_
  rintro e w1 ⟨R, g, c, rfl, hR1, hT1, hO1, hB1⟩
  clear hT1 hO1 hI
  have hs1 := hB1.size
  go_wp2_with fail
  refine (next_nil_d _ w1).mono ?_
  rintro e w2 ⟨rfl, hw2⟩
  rw [hw2]
  clear hw2
  go_wp2_with fail
  refine Calls.mono (HN.out w1) ?_
  rintro e w3 ⟨hB3, D, rfl⟩
  go_wp2_with fail
  refine (next_nil_r _ w3).mono ?_
  rintro e w4 ⟨rfl, hw4⟩
  rw [hw4]
  clear hw4
  go_wp2_with fail
  refine (alive_any w3).mono ?_
  rintro e w5 ⟨rfl, hB5⟩
  go_wp2
  go_ret
  exact ⟨rfl, hB1.trans ((hB3.trans (hB5.mono hB3.size)).mono hs1)⟩

set_option maxRecDepth 100000 in
theorem lifted (os : Os) (started : os.Started) (H : Type) (enc : TypeId × Value → H) :
    ReturnsInHanded {} Try.checked os 3 .any (Rows.huffNilsSpec.pre6 enc Try.prog Try.f3 Rows.huffNilsRow.domain false) (Rows.huffNilsSpec.post enc Try.prog Try.f3 false true false false) := by
  refine returnsInHanded_of_change_sized (C := Try.checked) own started (by kernel_rfl) Try.func3
    (ChangeSpec.witness6 (enc := enc) (C := Try.checked) false ⟨#[], #[.slice none 0 0], []⟩ 8 (by kernel_rfl) (by kernel_rfl) (by kernel_rfl) (by kernel_rfl)) ?_
  intro W base args ds gs before hval0 hW _ hsz0 _
  have hsz : (DataW.weightsEach Try.prog (Try.f3.params.toList ++ Rows.huffNilsSpec.plain.varTypes Try.prog) (ds ++ gs)).all (· ≤ reachBytes) = true := hsz0
  clear hsz0
  have hval : ∀ (j : Nat) t v, Try.f3.params[j]? = some t → args[j]? = some v → Value.okWide Try.prog W .any base t v := hval0
  have hW' := hW
  obtain ⟨p, q, hA0, hV, rfl, _, _⟩ := hW
  have hA : DataW.TrodAll enc Try.prog W 0 (fun _ => true) true Try.f3.params.toList args.toList ds p := hA0
  rw [Try.params3] at hA hval hsz
  obtain ⟨v0, vs0, d0, ds0, p0, q0, hargs, rfl, rfl, h0, r0⟩ := trodAll_cons hA
  obtain ⟨rfl, rfl, rfl⟩ := trodAll_nil r0
  obtain rfl : args = #[v0] := by cases args; simp_all
  obtain ⟨rfl, rfl⟩ := trodVars_none hV
  obtain ⟨a0, len0, cap0, rfl⟩ := okWide_slice Try.underlying22 (hval 0 22 v0 rfl rfl)
  have k0 := h0
  have lt0 : ∀ x ∈ p0, x.block < W.heap.size := by obtain ⟨m, hm⟩ := k0; exact DataW.trod_lt m _ _ _ hm
  obtain ⟨bs, hlen0, hL, hz, hd1⟩ := open_bytes h0
  have hl1 : bs.length ≤ 140737488351232 := by
    rcases hd1 with ⟨_, h⟩ | ⟨e, s, rfl, h⟩
    · omega
    · have := sized_slice hsz (j := 0) (t := 22) (e := 5) rfl rfl Try.underlying22
      rw [bytes5] at this
      simp only [reachBytes] at this
      omega
  clear hA0 hval0
  subst hlen0
  refine (walk a0 cap0 bs W hl1 hL).mono fun e W' ⟨he, bel⟩ => ?_
  subst he
  exact ⟨_, rfl, _, _, _, [], _, [], hW', trodAll_mk1 (shut_bool Try.underlying4 _), (trodAll_cons_mk (Below.trod laidOut (by kernel_rfl) (of_decide_eq_true (by kernel_rfl)) k0 bel lt0) trodAll_mk0), rfl, bel.frame _, fun h => by cases h⟩

theorem over : Rows.huffNilsRow.holds Try.pinned (OpenSpec.ofChange Rows.huffNilsSpec) :=
  OpenClaim.holds_of_wide 3 Try.f3 rfl rfl rfl rfl rfl rfl rfl ⟨rfl, rfl, rfl, rfl, rfl⟩ rfl rfl rfl rfl rfl (by kernel_rfl) Try.func3 (by kernel_rfl)
    (of_decide_eq_true (by kernel_rfl)) (by unfold Func.isWrapper; first | (rw [if_pos (by decide +kernel)]; kernel_rfl) | (rw [if_neg (by decide +kernel)]; exact ⟨rfl, rfl⟩))
    (fun os started H enc _ => lifted os started H enc)
end Go.Proofs.Ytjieeddjhbbllab.huffNils
namespace Go.Proofs.Ytjieeddjhbbllab
theorem huffNils_holds : Rows.HuffNilsSaid := huffNils.over
#print axioms huffNils_holds
end Go.Proofs.Ytjieeddjhbbllab
