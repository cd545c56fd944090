/- UtfCuts is proved where what comes in is of bulk at most 1048576 (its second form): for every text, every two numbers and every list of numbers the program's Cut and Text answer what the document's answer, and the chapter's examples hold. -/
import Derived.Test.YtckopbcpjecjhaaPal
import Derived.Test.YtckopbcpjecjhaaUfs
import Derived.Test.YtckopbcpjecjhaaUct
import Derived.Test.YtckopbcpjecjhaaRows
import Derived.ChangeMaps5
namespace Go.Proofs.Ytckopbcpjecjhaa.utfCuts
open Go.ChangeShapes Go.WideShapes Go.ChangeAt Go.RowKit Go.ChangeMaps

set_option maxHeartbeats 4000000 in
set_option maxRecDepth 100000 in
theorem walk (s : ByteArray) (f m : Int) (a : Option Addr) (cap : Nat) (ns : List Int) (w : World) (hs : s.size ≤ 1048576) (hn : ns.length ≤ 1048576) (hz : AreInts ns) (hf0 : -9223372036854775808 ≤ f) (hf1 : f ≤ 9223372036854775807) (hm0 : -9223372036854775808 ≤ m) (hm1 : m ≤ 9223372036854775807)
    (hI : IntsIn (· < w.heap.size) w (.slice a ns.length cap) ns) :
    Calls Try.prog 4 #[.string s, .int .i64 f, .int .i64 m, .slice a ns.length cap] w fun e w' => e = .returned (.bool true) ∧ Below w.heap.size w w' := by
  have H1 : ∀ W, Hid (Calls Try.prog 17 #[.string s, .int .i64 f, .int .i64 m] W fun e w' => e = .returned (.string (strOfNums (textZ (cutZ (restZ s 0) f m)))) ∧ Below W.heap.size W w') := fun W => pcut_any s f m hf0 hf1 hm0 hm1 (by omega) W
  have H2 : ∀ W, Hid (Calls Try.prog 18 #[.string s, .int .i64 f, .int .i64 m] W fun e w' => e = .returned (.string (strOfNums (textZ (cutZ (restZ s 0) f m)))) ∧ Below W.heap.size W w') := fun W => cut_any first_says s f m hf0 hf1 hm0 hm1 (by omega) W
  have H3 : ∀ W, IntsIn (fun k => k < W.heap.size) W (.slice a ns.length cap) ns → Hid (Calls Try.prog 19 #[.slice a ns.length cap] W fun e w' => e = .returned (.string (strOfNums (textZ ns))) ∧ Below W.heap.size W w') := fun W h => ptext_any a cap ns hz (by omega) W h
  have H4 : ∀ W, IntsIn (fun k => k < W.heap.size) W (.slice a ns.length cap) ns → Hid (Calls Try.prog 20 #[.slice a ns.length cap] W fun e w' => e = .returned (.string (strOfNums (textZ ns))) ∧ Below W.heap.size W w') := fun W h => text_any a cap ns (by omega) W h
  have H8 : ∀ W, Hid (Calls Try.prog 16 #[] W fun e w' => e = .returned (.bool true) ∧ Below W.heap.size W w') := fun W => alive_any W
  have HK : Hid (∀ W, Below w.heap.size w W → IntsIn (fun k => k < W.heap.size) W (.slice a ns.length cap) ns) := fun W hb => IntsIn.mono (fun k hk => by have := hb.size; omega) (IntsIn.below hb hI)
  generalize strOfNums (textZ (cutZ (restZ s 0) f m)) = X at H1 H2
  generalize strOfNums (textZ ns) = Y at H3 H4
  clear hI hz
  go_enter Try.func4, Try.ntmps4
  go_wp2_with fail
  refine Calls.mono (H1 _).out ?_
  rintro e w1 ⟨rfl, b1⟩
  go_wp2_with fail
  refine Calls.mono (H2 _).out ?_
  rintro e w2 ⟨rfl, b2⟩
  have B2 : Hid (Below w.heap.size w w2) := b1.trans (b2.mono b1.size)
  clear b1 b2
  go_wp2_with fail
  refine Calls.mono (H3 _ (HK.out _ B2.out)).out ?_
  rintro e w3 ⟨rfl, b3⟩
  have B3 : Hid (Below w.heap.size w w3) := B2.out.trans (b3.mono B2.out.size)
  clear b3 B2
  go_wp2_with fail
  refine Calls.mono (H4 _ (HK.out _ B3.out)).out ?_
  rintro e w4 ⟨rfl, b4⟩
  have B4 : Hid (Below w.heap.size w w4) := B3.out.trans (b4.mono B3.out.size)
  clear b4 B3
  go_wp2_with fail
  refine Calls.mono (H8 _).out ?_
  rintro e w10 ⟨rfl, b10⟩
  have B10 : Hid (Below w.heap.size w w10) := B4.out.trans (b10.mono B4.out.size)
  clear b10 B4
  go_wp2
  go_ret
  exact ⟨rfl, B10.out⟩

theorem length_le {H : Type} : ∀ l : List (DataW H), l.length ≤ Rows.uptoBulkAll l
  | [] => Nat.zero_le _
  | d :: r => by
    have h := length_le r
    have h1 : 1 ≤ Rows.uptoBulk d := by
      cases d with
      | lit x => cases x <;> simp [Rows.uptoBulk]
      | _ => simp [Rows.uptoBulk]
    simp only [List.length_cons, Rows.uptoBulkAll]
    omega

theorem contract (H : Type) (enc : TypeId × Value → H) (W : World) (base : Nat) (args : Array Value) (ds gs : List (DataW H)) (before : List MemPlace)
    (hval : ∀ (j : Nat) t v, Try.f4.params[j]? = some t → args[j]? = some v → Value.okWide Try.prog W .any base t v)
    (hW : DataW.Whole enc Try.prog Try.f4.params.toList Rows.utfCutsSpec.vars false W args.toList ds gs before) (hk : Rows.uptoSmall H (ds ++ gs) = true) :
    Calls Try.prog 4 args W fun e W' => ∃ v, e = .returned v ∧ Rows.utfCutsSpec.post enc Try.prog Try.f4 false true false false W args v W' := by
  have hW' := hW
  obtain ⟨p, q, hA0, hV, rfl, _, _⟩ := hW
  have hA : DataW.TrodAll enc Try.prog W 0 (fun _ => true) true Try.f4.params.toList args.toList ds p := hA0
  rw [Try.params4] at hA hval
  obtain ⟨v0, vs0, d0, ds0, p0, q0, hargs, rfl, rfl, h0, r0⟩ := trodAll_cons hA
  obtain ⟨v1, vs1, d1, ds1, p1, q1, rfl, rfl, rfl, h1, r1⟩ := trodAll_cons r0
  obtain ⟨v2, vs2, d2, ds2, p2, q2, rfl, rfl, rfl, h2, r2⟩ := trodAll_cons r1
  obtain ⟨v3, vs3, d3, ds3, p3, q3, rfl, rfl, rfl, h3, r3⟩ := trodAll_cons r2
  obtain ⟨rfl, rfl, rfl⟩ := trodAll_nil r3
  obtain rfl : args = #[v0, v1, v2, v3] := by cases args; simp_all
  obtain ⟨rfl, rfl⟩ := trodVars_none hV
  obtain ⟨s0, rfl, rfl, rfl, w0⟩ := open_string Try.underlying9 (hval 0 9 v0 rfl rfl) h0
  obtain ⟨a1, rfl, rfl, rfl, w1⟩ := open_int Try.underlying3 (hval 1 3 v1 rfl rfl) h1
  obtain ⟨a2, rfl, rfl, rfl, w2⟩ := open_int Try.underlying3 (hval 2 3 v2 rfl rfl) h2
  obtain ⟨a3, len3, cap3, rfl⟩ := okWide_slice Try.underlying26 (hval 3 26 v3 rfl rfl)
  have k3 := h3
  have lt3 : ∀ x ∈ p3, x.block < W.heap.size := by obtain ⟨m, hm⟩ := k3; exact DataW.trod_lt m _ _ _ hm
  obtain ⟨ns, hlen, hI, hz, hd⟩ := open_i64s h3
  have hbulk : Rows.uptoBulkAll ([.lit (.string s0.data.toList), .lit (.int .i64 a1), .lit (.int .i64 a2), d3] ++ ([] : List (DataW H))) ≤ 1048576 := of_decide_eq_true hk
  simp only [List.cons_append, List.nil_append, Rows.uptoBulkAll, Rows.uptoBulk, Array.length_toList] at hbulk
  have hs : s0.size ≤ 1048576 := by
    show s0.data.size ≤ _
    omega
  have hn : ns.length ≤ 1048576 := by
    rcases hd with ⟨_, h⟩ | ⟨e, s, rfl, h⟩
    · omega
    · have := length_le e
      simp only [Rows.uptoBulk] at hbulk
      omega
  have b1 := i64_bd w1
  have b2 := i64_bd w2
  clear hA0
  subst hlen
  refine (walk s0 a1 a2 a3 cap3 ns W hs hn hz b1.1 b1.2 b2.1 b2.2 hI).mono fun e W' ⟨he, bel⟩ => ?_
  subst he
  exact ⟨_, rfl, _, _, _, [], _, [], hW', trodAll_mk1 (shut_bool Try.underlying4 _), (trodAll_cons_mk (shut_string Try.underlying9 w0) (trodAll_cons_mk (shut_int Try.underlying3 w1) (trodAll_cons_mk (shut_int Try.underlying3 w2) (trodAll_cons_mk (Below.trod laidOut (by kernel_rfl) (of_decide_eq_true (by kernel_rfl)) k3 bel lt3) trodAll_mk0)))), rfl, bel.frame _, fun h => by cases h⟩

set_option maxRecDepth 100000 in
theorem lifted (os : Os) (started : os.Started) (H : Type) (enc : TypeId × Value → H) (F : Stop.Interp) :
    ReturnsInHanded {} Try.checked os 4 .any ((Rows.OpenSpec.upto Rows.utfCutsSpec).pre6 enc Try.prog Try.f4 Rows.utfCutsUptoRow.domain false) (((Rows.OpenSpec.upto Rows.utfCutsSpec).at F).post enc Try.prog Try.f4 false true false false) := by
  refine returnsInHanded_of_cond (C := Try.checked) (s := Rows.OpenSpec.upto Rows.utfCutsSpec) (k := Rows.uptoSmall) rfl own started (by kernel_rfl) Try.func4
    (OpenSpec.witness (enc := enc) (C := Try.checked) (s := Rows.OpenSpec.upto Rows.utfCutsSpec) (k := Rows.uptoSmall) rfl false ⟨#[], #[.string ⟨#[]⟩, .int .i64 0, .int .i64 0, .slice none 0 0], []⟩ 8 (by kernel_rfl) (by kernel_rfl) (by kernel_rfl)
      (x := ([.lit (.string []), .lit (.int .i64 0), .lit (.int .i64 0), .nil], [], [])) (by kernel_rfl) rfl (by kernel_rfl)) ?_
  intro W base args ds gs before hval hW _ hk _
  exact contract H enc W base args ds gs before hval hW hk

theorem over : Rows.UtfCutsUptoSaid :=
  OpenClaim.holds_of_cond 4 Try.f4 rfl rfl rfl rfl rfl rfl rfl ⟨rfl, rfl, rfl, rfl, rfl⟩ rfl rfl rfl rfl rfl (by kernel_rfl) Try.func4 (by kernel_rfl)
    (of_decide_eq_true (by kernel_rfl)) (by unfold Func.isWrapper; first | (rw [if_pos (by decide +kernel)]; kernel_rfl) | (rw [if_neg (by decide +kernel)]; exact ⟨rfl, rfl⟩))
    (fun os started H enc _ F => lifted os started H enc F)
end Go.Proofs.Ytckopbcpjecjhaa.utfCuts
namespace Go.Proofs.Ytckopbcpjecjhaa
theorem utfCuts_upto_holds : Rows.UtfCutsUptoSaid := utfCuts.over
#print axioms utfCuts_upto_holds
end Go.Proofs.Ytckopbcpjecjhaa
