/- UtfTurns is proved: for every two texts (within the form's reach) the program's Upper, Lower and Trim answer what the document's answer, Less tells whether the one stands ahead of the other by bytes, and the chapter's examples hold; no condition. -/
import Derived.Test.YtckopbcpjecjhaaPal
import Derived.Test.YtckopbcpjecjhaaRowk
import Derived.Test.YtckopbcpjecjhaaRows
import Derived.ChangeMaps5
namespace Go.Proofs.Ytckopbcpjecjhaa.utfTurns
open Go.ChangeShapes Go.WideShapes Go.ChangeAt Go.RowKit Go.ChangeMaps

theorem less_any (a b : ByteArray) (w : World) : Calls Try.prog 27 #[.string a, .string b] w fun e w' => e = .returned (.bool (Op.bytesLess a.toList b.toList)) ∧ w' = w := by
  go_enter Try.func27, Try.ntmps27
  go_wp2
  go_ret
  exact ⟨rfl, rfl⟩
set_option maxHeartbeats 2000000 in
set_option maxRecDepth 100000 in
theorem walk (a b : ByteArray) (w : World) (hl : a.size ≤ 140737488351232) :
    Calls Try.prog 5 #[.string a, .string b] w fun e w' => e = .returned (.bool true) ∧ Below w.heap.size w w' := by
  obtain ⟨U, hU⟩ : ∃ U, strOfNums (upto (turnAt a 97 224) a.size) = U := ⟨_, rfl⟩
  obtain ⟨L, hL⟩ : ∃ L, strOfNums (upto (turnAt a 65 32) a.size) = L := ⟨_, rfl⟩
  obtain ⟨T, hT⟩ : ∃ T, strOfNums (trimEnd (trimTo a a.size)) = T := ⟨_, rfl⟩
  have H1 : ∀ W, Hid (Calls Try.prog 21 #[.string a] W fun e w' => e = .returned (.string U) ∧ Below W.heap.size W w') := fun W => hU ▸ pupper_any a hl W
  have H2 : ∀ W, Hid (Calls Try.prog 22 #[.string a] W fun e w' => e = .returned (.string U) ∧ Below W.heap.size W w') := fun W => hU ▸ upper_any a hl W
  have H3 : ∀ W, Hid (Calls Try.prog 23 #[.string a] W fun e w' => e = .returned (.string L) ∧ Below W.heap.size W w') := fun W => hL ▸ plower_any a hl W
  have H4 : ∀ W, Hid (Calls Try.prog 24 #[.string a] W fun e w' => e = .returned (.string L) ∧ Below W.heap.size W w') := fun W => hL ▸ lower_any a hl W
  have H5 : ∀ W, Hid (Calls Try.prog 25 #[.string a] W fun e w' => e = .returned (.string T) ∧ Below W.heap.size W w') := fun W => hT ▸ ptrim_any a hl W
  have H6 : ∀ W, Hid (Calls Try.prog 26 #[.string a] W fun e w' => e = .returned (.string T) ∧ Below W.heap.size W w') := fun W => hT ▸ trim_any a hl W
  have H8 : ∀ W, Hid (Calls Try.prog 16 #[] W fun e w' => e = .returned (.bool true) ∧ Below W.heap.size W w') := fun W => alive_any W
  clear hU hL hT
  go_enter Try.func5, Try.ntmps5
  go_wp2_with fail
  refine Calls.mono (H1 _).out ?_
  rintro e w1 ⟨rfl, b1⟩
  go_wp2_with fail
  refine Calls.mono (H2 _).out ?_
  rintro e w2 ⟨rfl, b2⟩
  have B2 : Hid (Below w.heap.size w w2) := b1.trans (b2.mono b1.size)
  clear b1 b2
  go_wp2_with fail
  refine Calls.mono (H3 _).out ?_
  rintro e w3 ⟨rfl, b3⟩
  have B3 : Hid (Below w.heap.size w w3) := B2.out.trans (b3.mono B2.out.size)
  clear b3 B2
  go_wp2_with fail
  refine Calls.mono (H4 _).out ?_
  rintro e w4 ⟨rfl, b4⟩
  have B4 : Hid (Below w.heap.size w w4) := B3.out.trans (b4.mono B3.out.size)
  clear b4 B3
  go_wp2_with fail
  refine Calls.mono (H5 _).out ?_
  rintro e w5 ⟨rfl, b5⟩
  have B5 : Hid (Below w.heap.size w w5) := B4.out.trans (b5.mono B4.out.size)
  clear b5 B4
  go_wp2_with fail
  refine Calls.mono (H6 _).out ?_
  rintro e w6 ⟨rfl, b6⟩
  have B6 : Hid (Below w.heap.size w w6) := B5.out.trans (b6.mono B5.out.size)
  clear b6 B5
  go_wp2_with fail
  refine Calls.mono (less_any a b _) ?_
  rintro e w7 ⟨rfl, rfl⟩
  go_wp2_with fail
  refine Calls.mono (H8 _).out ?_
  rintro e w8 ⟨rfl, b8⟩
  have B8 : Hid (Below w.heap.size w w8) := B6.out.trans (b8.mono B6.out.size)
  clear b8 B6
  go_wp2
  go_ret
  exact ⟨rfl, B8.out⟩

set_option maxRecDepth 100000 in
theorem lifted (os : Os) (started : os.Started) (H : Type) (enc : TypeId × Value → H) :
    ReturnsInHanded {} Try.checked os 5 .any (Rows.utfTurnsSpec.pre6 enc Try.prog Try.f5 Rows.utfTurnsRow.domain false) (Rows.utfTurnsSpec.post enc Try.prog Try.f5 false true false false) := by
  refine returnsInHanded_of_change_sized (C := Try.checked) own started (by kernel_rfl) Try.func5
    (ChangeSpec.witness6 (enc := enc) (C := Try.checked) false ⟨#[], #[.string ⟨#[]⟩, .string ⟨#[]⟩], []⟩ 8 (by kernel_rfl) (by kernel_rfl) (by kernel_rfl) (by kernel_rfl)) ?_
  intro W base args ds gs before hval0 hW _ hsz0 _
  have hsz : (DataW.weightsEach Try.prog (Try.f5.params.toList ++ Rows.utfTurnsSpec.plain.varTypes Try.prog) (ds ++ gs)).all (· ≤ reachBytes) = true := hsz0
  clear hsz0
  have hval : ∀ (j : Nat) t v, Try.f5.params[j]? = some t → args[j]? = some v → Value.okWide Try.prog W .any base t v := hval0
  have hW' := hW
  obtain ⟨p, q, hA0, hV, rfl, _, _⟩ := hW
  have hA : DataW.TrodAll enc Try.prog W 0 (fun _ => true) true Try.f5.params.toList args.toList ds p := hA0
  rw [Try.params5] at hA hval hsz
  obtain ⟨v0, vs0, d0, ds0, p0, q0, hargs, rfl, rfl, h0, r0⟩ := trodAll_cons hA
  obtain ⟨v1, vs1, d1, ds1, p1, q1, rfl, rfl, rfl, h1, r1⟩ := trodAll_cons r0
  obtain ⟨rfl, rfl, rfl⟩ := trodAll_nil r1
  obtain rfl : args = #[v0, v1] := by cases args; simp_all
  obtain ⟨rfl, rfl⟩ := trodVars_none hV
  obtain ⟨s0, rfl, rfl, rfl, w0⟩ := open_string Try.underlying9 (hval 0 9 v0 rfl rfl) h0
  obtain ⟨s1, rfl, rfl, rfl, w1⟩ := open_string Try.underlying9 (hval 1 9 v1 rfl rfl) h1
  have hl : s0.size ≤ 140737488351232 := by
    have := sized_string hsz (j := 0) (t := 9) rfl rfl
    simp only [reachBytes] at this
    simpa using this
  clear hA0 hval0
  refine (walk s0 s1 W hl).mono fun e W' ⟨he, bel⟩ => ?_
  subst he
  exact ⟨_, rfl, _, _, _, [], _, [], hW', trodAll_mk1 (shut_bool Try.underlying4 _), (trodAll_cons_mk (shut_string Try.underlying9 w0) (trodAll_cons_mk (shut_string Try.underlying9 w1) trodAll_mk0)), rfl, bel.frame _, fun h => by cases h⟩

theorem over : Rows.utfTurnsRow.holds Try.pinned (OpenSpec.ofChange Rows.utfTurnsSpec) :=
  OpenClaim.holds_of_wide 5 Try.f5 rfl rfl rfl rfl rfl rfl rfl ⟨rfl, rfl, rfl, rfl, rfl⟩ rfl rfl rfl rfl rfl (by kernel_rfl) Try.func5 (by kernel_rfl)
    (of_decide_eq_true (by kernel_rfl)) (by unfold Func.isWrapper; first | (rw [if_pos (by decide +kernel)]; kernel_rfl) | (rw [if_neg (by decide +kernel)]; exact ⟨rfl, rfl⟩))
    (fun os started H enc _ => lifted os started H enc)
end Go.Proofs.Ytckopbcpjecjhaa.utfTurns
namespace Go.Proofs.Ytckopbcpjecjhaa
theorem utfTurns_holds : Rows.UtfTurnsSaid := utfTurns.over
#print axioms utfTurns_holds
end Go.Proofs.Ytckopbcpjecjhaa
