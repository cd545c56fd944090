/- DeflateRow: whatever the row of lengths: it is told again by its symbols and their extra numbers. -/
import Derived.Test.YtijfjbpmlcmnmaaDoorLgt
import Derived.Test.YtijfjbpmlcmnmaaDoorRdr
import Derived.Test.YtijfjbpmlcmnmaaDoorAlv
import Derived.Test.YtijfjbpmlcmnmaaDoorRwi
import Derived.Test.YtijfjbpmlcmnmaaDoorCards
import Derived.Test.YtijfjbpmlcmnmaaDoorTie
import Derived.ProofKit
import Derived.OpenShut
import Derived.Deep.DeepHandedRow
import Derived.Lib.LaidTab
namespace Go.Proofs.YtijfjbpmlcmnmaaDoor
open Go.RowKit

set_option maxRecDepth 100000 in
set_option maxHeartbeats 4000000 in
theorem row_walk (a : Option Addr) (cap : Nat) (zs : List Int) (w : World) (hI : IntsIn (· < w.heap.size) w (.slice a zs.length cap) zs) (hlen : zs.length ≤ 17592186043904) :
    Calls Tryd.prog 6 #[.slice a zs.length cap] w fun e w' => e = .returned (.bool true) ∧ Below w.heap.size w w' := by
  have H1 : Hid (Calls Tryd.prog 14 #[.slice a zs.length cap] w _) := callsIn_wide.1 (lengths_in a cap zs (· < w.heap.size) w (fun _ h => h) hlen hI)
  go_enter Tryd.func6, Tryd.ntmps6
  go_wp2_with fail
  refine H1.out.mono ?_
  clear H1
  rintro e w1 ⟨hb1, ps, v1, v2, rfl, ho1, ho2, hR⟩
  have hi1 := ho1.ints
  have hi2 := ho2.ints
  obtain ⟨⟨g1, c1, e1⟩, _⟩ := ho1
  obtain ⟨⟨g2, c2, e2⟩, _⟩ := ho2
  rw [List.length_map] at e1 e2
  subst e1 e2
  have H2 : Hid (Calls Tryd.prog 15 #[.slice g1 ps.length c1, .slice g2 ps.length c2] w1 _) := refRow_any (· < w1.heap.size) g1 g2 c1 c2 ps (zs.map cln) w1 (fun _ h => h) hi1 hi2 hR (by simpa using hlen)
  clear hi1 hi2 hR
  go_wp2_with fail
  refine H2.out.mono ?_
  clear H2
  rintro e w2 ⟨hb2, v, rfl, ho3⟩
  have H4 : Hid (Calls Tryd.prog 8 #[] w2 _) := alive_any w2
  have ho4 := ho3
  obtain ⟨⟨g3, c3, e3⟩, _⟩ := ho3
  have eL : (zs.map cln).length = zs.length := List.length_map ..
  have hB2 : Below w.heap.size w w2 := hb1.trans (hb2.mono hb1.size)
  rw [eL] at e3
  subst e3
  have hsame : (zs.length != zs.length) = false := by simp
  clear hb1 hb2
  go_wp2_with fail
  refine H4.out.mono ?_
  clear H4
  rintro e w3 ⟨rfl, hb3⟩
  have ho5 := ho4.below hb3
  have HF : Hid (Below w.heap.size w w3) := hB2.trans (hb3.mono hB2.size)
  have hI3 := hI.kept (Kept.of_below HF.out (fun _ h => h))
  clear hb3 hB2 ho4 hI
  go_wp2
  go_loopw [7] (fun v7 wr => ∃ i : Nat, v7 = .int .i64 (i : Int) ∧ i ≤ zs.length ∧ wr = w3) (fun v7 _ => zs.length - (intOf v7).toNat)
  case atStart => exact ⟨0, rfl, by omega, rfl⟩
  case round =>
    obtain ⟨i, rfl, hile, rfl⟩ := hrel
    by_cases hlt : i < zs.length
    rotate_left
    · have t1 : ¬ ((i : Int) < (zs.length : Int)) := by omega
      go_wp2
      go_ret
      exact ⟨rfl, HF.out⟩
    · have t1 : (i : Int) < (zs.length : Int) := by omega
      have hwn : IntKind.i64.wrap ((i : Int) + 1) = (i : Int) + 1 := by simp [IntKind.wrap, IntKind.bits, IntKind.signed]; omega
      obtain ⟨b, off, rfl, hSb, q0⟩ := hI3.at i hlt
      rw [← eL] at ho5
      obtain ⟨gb, rfl, q1⟩ := ho5.cell i (by rw [eL]; exact hlt)
      rw [List.getElem?_map] at q1
      have HZ : ∃ z, zs[i]?.getD 0 = z ∧ (zs[i]?.map cln).getD 0 = cln z := ⟨_, rfl, by rw [List.getElem?_eq_getElem hlt]; rfl⟩
      obtain ⟨z, hz1, hz2⟩ := HZ
      rw [hz1] at q0
      rw [hz2] at q1
      have HL : Hid (i < zs.length) := hlt
      clear hz1 hz2 ho5 hI3
      by_cases hneg : z < 0
      · have hc : cln z = 0 := by unfold cln; rw [if_pos (.inl hneg)]
        rw [hc] at q1
        clear hc
        go_wp2
        exact ⟨⟨i + 1, by go_num, by have := HL.out; omega, trivial⟩, by have := HL.out; simp [intOf]; omega⟩
      · by_cases hbig : 15 < z
        · have hc : cln z = 0 := by unfold cln; rw [if_pos (.inr hbig)]
          rw [hc] at q1
          clear hc
          go_wp2
          exact ⟨⟨i + 1, by go_num, by have := HL.out; omega, trivial⟩, by have := HL.out; simp [intOf]; omega⟩
        · have hc : cln z = z := by unfold cln; rw [if_neg (by omega)]
          rw [hc] at q1
          clear hc
          go_wp2
          exact ⟨⟨i + 1, by go_num, by have := HL.out; omega, trivial⟩, by have := HL.out; simp [intOf]; omega⟩

namespace deflateRow
open Go.ChangeShapes Go.WideShapes Go.ChangeAt Go.RowKit
theorem own : ownKnob Tryd.prog.godebug = none := by kernel_rfl
set_option maxRecDepth 100000 in
theorem contract (H : Type) (enc : TypeId × Value → H) (W : World) (base : Nat) (args : Array Value) (ds gs : List (DataW H)) (before : List MemPlace)
    (hval : ∀ (j : Nat) t v, Tryd.f6.params[j]? = some t → args[j]? = some v → Value.okWide Tryd.prog W .any base t v)
    (hW : DataW.Whole enc Tryd.prog Tryd.f6.params.toList Rows.deflateRowSpec.vars false W args.toList ds gs before) (_hL : laidMetH Tryd.prog Rows.deflateRowRow.laid W)
    (hsz0 : (DataW.weightsEach Tryd.prog (Tryd.f6.params.toList ++ Rows.deflateRowSpec.plain.varTypes Tryd.prog) (ds ++ gs)).all (· ≤ reachBytes) = true) :
    Calls Tryd.prog 6 args W fun e W' => ∃ v, e = .returned v ∧ Rows.deflateRowSpec.post enc Tryd.prog Tryd.f6 false true false false W args v W' := by
  have hW' := hW
  obtain ⟨p, q, hA0, hV, rfl, hfz, hnd⟩ := hW
  have hA : DataW.TrodAll enc Tryd.prog W 0 (fun _ => true) true Tryd.f6.params.toList args.toList ds p := hA0
  have hsz := hsz0
  rw [Tryd.params6] at hA hval hsz
  obtain ⟨v0, vs0, d0, ds0, p0, q0, hargs, rfl, rfl, h0, r0⟩ := trodAll_cons hA
  obtain ⟨rfl, rfl, rfl⟩ := trodAll_nil r0
  obtain rfl : args = #[v0] := by cases args; simp_all
  obtain ⟨rfl, rfl⟩ := trodVars_none hV
  obtain ⟨a0, len0, cap0, rfl⟩ := okWide_slice Tryd.underlying40 (hval 0 40 v0 rfl rfl)
  have k0 := h0
  have lt0 : ∀ x ∈ p0, x.block < W.heap.size := by obtain ⟨m, hm⟩ := k0; exact DataW.trod_lt m _ _ _ hm
  obtain ⟨zs, hlen0, hLb, hz, hd1⟩ := open_i64s h0
  have hl1 : zs.length ≤ 17592186043904 := by
    rcases hd1 with ⟨_, h⟩ | ⟨e, s, rfl, h⟩
    · omega
    · have := sized_slice hsz (j := 0) (t := 40) (e := 3) rfl rfl Tryd.underlying40
      rw [bytes3] at this
      simp only [reachBytes] at this
      omega
  clear hA0 hsz hsz0
  subst hlen0
  refine (row_walk a0 cap0 zs W hLb hl1).mono fun e W' ⟨he, bel⟩ => ?_
  subst he
  exact ⟨_, rfl, _, _, _, [], _, [], hW', trodAll_mk1 (shut_bool Tryd.underlying4 _), (trodAll_cons_mk (Below.trod laidOut (by kernel_rfl) (of_decide_eq_true (by kernel_rfl)) k0 bel lt0) trodAll_mk0), rfl, bel.frame _, fun h => by cases h⟩

/-- A world for the witness: the settled one, the table holding what its initialiser lays. -/
noncomputable def laidWorld (os : Os) : World :=
  { World.holding Tryd.prog os ⟨#[], #[], []⟩ with heap := (World.holding Tryd.prog os ⟨#[], #[], []⟩).heap.modify 0 fun
      | .cells _ t frozen => .cells #[.int .i64 16, .int .i64 17, .int .i64 18, .int .i64 0, .int .i64 8, .int .i64 7, .int .i64 9, .int .i64 6, .int .i64 10, .int .i64 5, .int .i64 11, .int .i64 4, .int .i64 12, .int .i64 3, .int .i64 13, .int .i64 2, .int .i64 14, .int .i64 1, .int .i64 15] t frozen
      | o => o }
theorem laid_met (os : Os) : laidMet Tryd.prog Rows.deflateRowRow.laid ((laidWorld os).forCall (fun _ _ => 0) ⟨#[], #[.slice none 0 0], []⟩).memory :=
  laidMet_of_run' 8 (by kernel_rfl) (by kernel_rfl)
theorem reads (os : Os) {H : Type} (enc : TypeId × Value → H) : ∃ places, DataW.whole enc Tryd.prog ((laidWorld os).forCall (fun _ _ => 0) ⟨#[], #[.slice none 0 0], []⟩).memory Tryd.f6.params.toList Rows.deflateRowSpec.vars false #[Value.slice none 0 0].toList 8 = some ([.nil], [], places) :=
  ⟨[], by kernel_rfl⟩
set_option maxRecDepth 100000 in
theorem lifted (os : Os) (started : os.Started) (H : Type) (enc : TypeId × Value → H) (F : Stop.Interp) :
    ReturnsInHanded {} Tryd.checked os 6 .any ((OpenSpec.ofChange Rows.deflateRowSpec).preRow enc Tryd.prog Tryd.f6 Rows.deflateRowRow.domain false Rows.deflateRowRow.laid) (((OpenSpec.ofChange Rows.deflateRowSpec).at F).post enc Tryd.prog Tryd.f6 false true false false) := by
  obtain ⟨places, hx⟩ := reads os enc
  refine returnsInHanded_of_row (C := Tryd.checked) (s := OpenSpec.ofChange Rows.deflateRowSpec) own started (by kernel_rfl) Tryd.func6
    (witness_row_at (enc := enc) (C := Tryd.checked) false (laidWorld os) #[.slice none 0 0] rfl (by kernel_rfl) (by kernel_rfl) (by kernel_rfl)
      (OpenSpec.preRow_of_cond 8 hx (by kernel_rfl) (fun k hk => by cases hk) (by kernel_rfl) (laid_met os))) ?_
  intro W base args ds gs before hval hW _ _ hsz hL _ _
  exact contract H enc W base args ds gs before hval hW hL hsz
theorem said : Rows.DeflateRowSaid :=
  OpenClaim.holds_of_cond 6 Tryd.f6 rfl rfl rfl rfl rfl rfl rfl ⟨rfl, rfl, rfl, rfl, rfl⟩ rfl rfl rfl rfl rfl (by kernel_rfl) Tryd.func6 (by kernel_rfl)
    (of_decide_eq_true (by kernel_rfl)) (by unfold Func.isWrapper; first | (rw [if_pos (by decide +kernel)]; kernel_rfl) | (rw [if_neg (by decide +kernel)]; exact ⟨rfl, rfl⟩))
    (fun os started H enc _ F => by rw [OpenClaim.pre_eq_preRow]; exact lifted os started H enc F)
theorem plain (f : FuncId) (fn : Func) (hf : Tryd.pinned.checked.prog.funcNamed "quire/quirelaw04.DeflateRow" = some f) (hfn : Tryd.pinned.checked.prog.funcs[f]? = some fn) :
    false = Tryd.pinned.checked.prog.looks [] ∧ ∀ (j : Nat) t, fn.params[j]? = some t → Tryd.pinned.checked.prog.wantsStandIn t = false := by
  obtain rfl : f = 6 := Option.some.inj ((show Tryd.prog.funcNamed "quire/quirelaw04.DeflateRow" = some 6 by kernel_rfl).symm.trans hf) |>.symm
  obtain rfl : fn = Tryd.f6 := (Option.some.inj (Tryd.func6.symm.trans hfn)).symm
  refine ⟨by kernel_rfl, fun j t ht => ?_⟩
  rw [Tryd.params6] at ht
  obtain rfl : t = 40 := by simpa using Array.mem_of_getElem? ht
  exact (show Tryd.prog.wantsStandIn 40 = false by kernel_rfl)
theorem card : Rows.DeflateRowCardSaid :=
  Claim7.holds_tied_plain_at .later [] _ _ _ _ said (fun _ h => by cases h) (by kernel_rfl) (fun _ h => by cases h) deflateRow_row_tie rfl ⟨rfl, rfl⟩ (by kernel_rfl) rfl plain (by kernel_rfl)
end deflateRow
theorem deflateRow_holds : Rows.DeflateRowCardSaid := deflateRow.card
#print axioms deflateRow_holds
end Go.Proofs.YtijfjbpmlcmnmaaDoor
