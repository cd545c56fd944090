import Derived.Test.YtiheajlgaehfmaaDoorIin
import Derived.Test.YtiheajlgaehfmaaDoorPal
import Derived.Test.YtiheajlgaehfmaaDoorRowk
import Derived.Test.YtiheajlgaehfmaaDoorCards
import Derived.Test.YtiheajlgaehfmaaDoorTie
import Derived.ProofKit
import Derived.OpenShut
import Derived.Deep.DeepHandedRow
import Derived.Lib.LaidTab
/- InflateReads: whatever the bytes and whatever the room: the program reads a stream as the document does. -/
namespace Go.Proofs.YtiheajlgaehfmaaDoor
open Go.RowKit

set_option maxRecDepth 100000 in
set_option maxHeartbeats 4000000 in
theorem reads_walk (a : Option Addr) (cap : Nat) (bs : List Int) (most : Int) (w : World) (hb : AreBytes bs) (hl : bs.length ≤ 140737488351232) (hcap : bs.length ≤ cap) (hnil : a = none → cap = 0) (hI : BytesIn (fun k => k < w.heap.size) w (.slice a bs.length cap) bs) (hO : OrdAt w) :
    Calls Tryd.prog 3 #[.slice a bs.length cap, .int .i64 most] w fun e w' => e = .returned (.bool true) ∧ Below w.heap.size w w' := by
  obtain ⟨M, hM⟩ : ∃ M : Int, (most ≤ 65536 ∧ M = most) ∨ (65536 < most ∧ M = 65536) := by
    by_cases h : most ≤ 65536
    · exact ⟨most, .inl ⟨h, rfl⟩⟩
    · exact ⟨65536, .inr ⟨by omega, rfl⟩⟩
  have H1 : Hid (Calls Tryd.prog 7 #[.slice a bs.length cap, .int .i64 M] w (InPost w (inflateS bs M))) := inflate_any a cap bs M (by omega) w hb hl hI hO
  have H2 : Hid (∀ w1, Below w.heap.size w w1 → Calls Tryd.prog 8 #[.slice a bs.length cap, .int .i64 M] w1 (InPost w1 (inflateS bs M))) := fun w1 hb1 => refInflate_any a cap bs M (by omega) w1 hb hl ((hI.kept (Kept.of_below hb1 (fun _ h => h))).mono (fun k (h : k < _) => Nat.lt_of_lt_of_le h hb1.size)) hcap hnil
  generalize inflateS bs M = R at H1 H2
  clear hI hcap hnil
  rcases hM with ⟨hm, rfl⟩ | ⟨hm, rfl⟩
  all_goals
    go_enter Tryd.func3, Tryd.ntmps3
    go_wp2_with fail
    refine Calls.mono H1.out ?_
    clear H1
    rintro e w1 ⟨hb1, (⟨er, rfl, hne, rfl⟩ | ⟨out, took, g, c, rfl, hol, htk, rfl, hB1⟩)⟩
    · have H3 : Hid _ := H2.out w1 hb1
      clear H2
      go_wp2_with fail
      refine Calls.mono H3.out ?_
      clear H3
      rintro e w2 h2
      obtain ⟨hb2, rfl⟩ := h2.err
      clear h2
      have hb02 : Below w.heap.size w w2 := hb1.trans (hb2.mono hb1.size)
      have hn2 : BytesIn (fun k => k < w2.heap.size) w2 (.slice none 0 0) [] := .inl ⟨rfl, none, 0, rfl⟩
      have HS : Hid _ := same_any (fun k => k < w2.heap.size) none none 0 0 0 0 [] w2 hn2 hn2
      have HA : Hid _ := alive_any w2 (hO.below hb02)
      have t2 : (er == er) = true := by simp
      clear hn2
      go_wp2_with fail
      refine Calls.mono HS.out ?_
      clear HS
      rintro e w3 ⟨rfl, hw3⟩
      subst hw3
      go_wp2_with fail
      refine Calls.mono HA.out ?_
      clear HA
      rintro e w4 ⟨rfl, hb4⟩
      have HF : Hid (Below w.heap.size w w4) := hb02.trans (hb4.mono hb02.size)
      clear hb02 hb4 hb1 hb2
      go_wp2
      go_ret
      exact ⟨rfl, HF.out⟩
    · have H3 : Hid _ := H2.out w1 hb1
      clear H2
      go_wp2_with fail
      refine Calls.mono H3.out ?_
      clear H3
      rintro e w2 h2
      obtain ⟨hb2, g2, c2, rfl, hB2⟩ := h2.ok
      clear h2
      have hb02 : Below w.heap.size w w2 := hb1.trans (hb2.mono hb1.size)
      have HS : Hid _ := same_any (fun k => k < w2.heap.size) g g2 out.length out.length c c2 out w2 ((hB1.kept (Kept.of_below hb2 (fun _ h => h))).mono (fun k (h : k < _) => Nat.lt_of_lt_of_le h hb2.size)) hB2
      have HA : Hid _ := alive_any w2 (hO.below hb02)
      have t2 : (((took : Int)) == (took : Int)) = true := by simp
      clear hB1 hB2
      go_wp2_with fail
      refine Calls.mono HS.out ?_
      clear HS
      rintro e w3 ⟨rfl, hw3⟩
      subst hw3
      go_wp2_with fail
      refine Calls.mono HA.out ?_
      clear HA
      rintro e w4 ⟨rfl, hb4⟩
      have HF : Hid (Below w.heap.size w w4) := hb02.trans (hb4.mono hb02.size)
      clear hb02 hb4 hb1 hb2
      go_wp2
      go_ret
      exact ⟨rfl, HF.out⟩
open Go.ChangeShapes Go.WideShapes Go.ChangeAt in
theorem open_capr {H : Type} {enc : TypeId × Value → H} {W : World} {a : Option Addr} {len cap : Nat} {d : DataW H} {p : List MemPlace}
    (h : DataW.Trod enc Tryd.prog W 0 (fun _ => true) true 22 (.slice a len cap) d p) : len ≤ cap ∧ (a = none → cap = 0 ∧ len = 0) := by
  obtain ⟨fuel, hf⟩ := h
  rcases open_ints Tryd.underlying22 Tryd.underlying5 (by kernel_rfl) hf with ⟨hcs, hx⟩ | ⟨x, l, c, zs, hcs, _, hl, hm, hz, hx, hcell, hwz⟩
  · simp [Value.cells] at hcs
    obtain ⟨rfl, rfl, rfl⟩ := hcs
    exact ⟨Nat.le_refl _, fun _ => ⟨rfl, rfl⟩⟩
  · simp [Value.cells] at hcs
    obtain ⟨rfl, rfl, rfl⟩ := hcs
    exact ⟨hl, fun h => by cases h⟩

namespace inflateReads
open Go.ChangeShapes Go.WideShapes Go.ChangeAt Go.RowKit
theorem own : ownKnob Tryd.prog.godebug = none := by kernel_rfl
theorem gTab : Tryd.prog.globalNamed "quire/inflate.lengthOrder" = some 0 := by kernel_rfl
theorem gTabType : (Tryd.prog.globals[0]?).map (·.type) = some 118 := by kernel_rfl
theorem cells118 : Tryd.prog.cellsOf 118 = 19 := by kernel_rfl
theorem cells3 : Tryd.prog.cellsOf 3 = 1 := by kernel_rfl
/-- What the row's list gives: the table's cells hold the order. -/
theorem table {W : World} (h : laidMetH Tryd.prog Rows.inflateReadsRow.laid W) : Lib.TabIs Tryd.prog W "quire/inflate.lengthOrder" .i64 [16, 17, 18, 0, 8, 7, 9, 6, 10, 5, 11, 4, 12, 3, 13, 2, 14, 1, 15] :=
  Lib.tabIs_of_head (rest := []) gTab gTabType Tryd.underlying118 Tryd.underlying3 cells3 cells118 h
theorem ord {W : World} (h : laidMetH Tryd.prog Rows.inflateReadsRow.laid W) : OrdAt W := by
  have hc : ∀ j, j < 19 → W.cell? ⟨0, j, none⟩ = some (.int .i64 ((orderL[j]?.getD 0 : Nat) : Int)) := by
    intro j hj
    have := (table h).cell gTab j (by simpa using hj)
    have key : ∀ j, j < 19 → ([16, 17, 18, 0, 8, 7, 9, 6, 10, 5, 11, 4, 12, 3, 13, 2, 14, 1, 15] : List Int).getD j 0 = ((orderL[j]?.getD 0 : Nat) : Int) := by decide
    rw [this, key j hj]
  exact ⟨World.block_lt_of_cell? _ _ (hc 0 (by omega)), hc⟩
set_option maxRecDepth 100000 in
theorem contract (H : Type) (enc : TypeId × Value → H) (W : World) (base : Nat) (args : Array Value) (ds gs : List (DataW H)) (before : List MemPlace)
    (hval : ∀ (j : Nat) t v, Tryd.f3.params[j]? = some t → args[j]? = some v → Value.okWide Tryd.prog W .any base t v)
    (hW : DataW.Whole enc Tryd.prog Tryd.f3.params.toList Rows.inflateReadsSpec.vars false W args.toList ds gs before) (hL : laidMetH Tryd.prog Rows.inflateReadsRow.laid W)
    (hsz0 : (DataW.weightsEach Tryd.prog (Tryd.f3.params.toList ++ Rows.inflateReadsSpec.plain.varTypes Tryd.prog) (ds ++ gs)).all (· ≤ reachBytes) = true) :
    Calls Tryd.prog 3 args W fun e W' => ∃ v, e = .returned v ∧ Rows.inflateReadsSpec.post enc Tryd.prog Tryd.f3 false true false false W args v W' := by
  have hW' := hW
  obtain ⟨p, q, hA0, hV, rfl, hfz, hnd⟩ := hW
  have hA : DataW.TrodAll enc Tryd.prog W 0 (fun _ => true) true Tryd.f3.params.toList args.toList ds p := hA0
  have hsz := hsz0
  rw [Tryd.params3] at hA hval hsz
  obtain ⟨v0, vs0, d0, ds0, p0, q0, hargs, rfl, rfl, h0, r0⟩ := trodAll_cons hA
  obtain ⟨v1, vs1, d1, ds1, p1, q1, rfl, rfl, rfl, h1, r1⟩ := trodAll_cons r0
  obtain ⟨rfl, rfl, rfl⟩ := trodAll_nil r1
  obtain rfl : args = #[v0, v1] := by cases args; simp_all
  obtain ⟨rfl, rfl⟩ := trodVars_none hV
  obtain ⟨a0, len0, cap0, rfl⟩ := okWide_slice Tryd.underlying22 (hval 0 22 v0 rfl rfl)
  obtain ⟨most, rfl, rfl, rfl, hwn⟩ := open_int Tryd.underlying3 (hval 1 3 v1 rfl rfl) h1
  have k0 := h0
  have lt0 : ∀ x ∈ p0, x.block < W.heap.size := by obtain ⟨m, hm⟩ := k0; exact DataW.trod_lt m _ _ _ hm
  obtain ⟨hc0, hn0⟩ := open_capr h0
  obtain ⟨bs, hlen0, hLb, hz, hd1⟩ := open_bytes h0
  have hl1 : bs.length ≤ 140737488351232 := by
    rcases hd1 with ⟨_, h⟩ | ⟨e, s, rfl, h⟩
    · omega
    · have := sized_slice hsz (j := 0) (t := 22) (e := 5) rfl rfl Tryd.underlying22
      rw [bytes5] at this
      simp only [reachBytes] at this
      omega
  clear hA0 hsz hsz0
  subst hlen0
  refine (reads_walk a0 cap0 bs most W hz hl1 hc0 (fun h => (hn0 h).1) hLb (ord hL)).mono fun e W' ⟨he, bel⟩ => ?_
  subst he
  exact ⟨_, rfl, _, _, _, [], _, [], hW', trodAll_mk1 (shut_bool Tryd.underlying4 _), (trodAll_cons_mk (Below.trod laidOut (by kernel_rfl) (of_decide_eq_true (by kernel_rfl)) k0 bel lt0) (trodAll_mk1 (shut_int Tryd.underlying3 hwn))), rfl, bel.frame _, fun h => by cases h⟩

/-- A world for the witness: the settled one, the table holding what its initialiser lays. -/
noncomputable def laidWorld (os : Os) : World :=
  { World.holding Tryd.prog os ⟨#[], #[], []⟩ with heap := (World.holding Tryd.prog os ⟨#[], #[], []⟩).heap.modify 0 fun
      | .cells _ t frozen => .cells #[.int .i64 16, .int .i64 17, .int .i64 18, .int .i64 0, .int .i64 8, .int .i64 7, .int .i64 9, .int .i64 6, .int .i64 10, .int .i64 5, .int .i64 11, .int .i64 4, .int .i64 12, .int .i64 3, .int .i64 13, .int .i64 2, .int .i64 14, .int .i64 1, .int .i64 15] t frozen
      | o => o }
theorem laid_met (os : Os) : laidMet Tryd.prog Rows.inflateReadsRow.laid ((laidWorld os).forCall (fun _ _ => 0) ⟨#[], #[.slice none 0 0, .int .i64 0], []⟩).memory :=
  laidMet_of_run' 8 (by kernel_rfl) (by kernel_rfl)
theorem reads (os : Os) {H : Type} (enc : TypeId × Value → H) : ∃ places, DataW.whole enc Tryd.prog ((laidWorld os).forCall (fun _ _ => 0) ⟨#[], #[.slice none 0 0, .int .i64 0], []⟩).memory Tryd.f3.params.toList Rows.inflateReadsSpec.vars false #[Value.slice none 0 0, Value.int .i64 0].toList 8 = some ([.nil, .lit (.int .i64 0)], [], places) :=
  ⟨[], by kernel_rfl⟩
set_option maxRecDepth 100000 in
theorem lifted (os : Os) (started : os.Started) (H : Type) (enc : TypeId × Value → H) (F : Stop.Interp) :
    ReturnsInHanded {} Tryd.checked os 3 .any ((OpenSpec.ofChange Rows.inflateReadsSpec).preRow enc Tryd.prog Tryd.f3 Rows.inflateReadsRow.domain false Rows.inflateReadsRow.laid) (((OpenSpec.ofChange Rows.inflateReadsSpec).at F).post enc Tryd.prog Tryd.f3 false true false false) := by
  obtain ⟨places, hx⟩ := reads os enc
  refine returnsInHanded_of_row (C := Tryd.checked) (s := OpenSpec.ofChange Rows.inflateReadsSpec) own started (by kernel_rfl) Tryd.func3
    (witness_row_at (enc := enc) (C := Tryd.checked) false (laidWorld os) #[.slice none 0 0, .int .i64 0] rfl (by kernel_rfl) (by kernel_rfl) (by kernel_rfl)
      (OpenSpec.preRow_of_cond 8 hx (by kernel_rfl) (fun k hk => by cases hk) (by kernel_rfl) (laid_met os))) ?_
  intro W base args ds gs before hval hW _ _ hsz hL _ _
  exact contract H enc W base args ds gs before hval hW hL hsz
theorem said : Rows.InflateReadsSaid :=
  OpenClaim.holds_of_cond 3 Tryd.f3 rfl rfl rfl rfl rfl rfl rfl ⟨rfl, rfl, rfl, rfl, rfl⟩ rfl rfl rfl rfl rfl (by kernel_rfl) Tryd.func3 (by kernel_rfl)
    (of_decide_eq_true (by kernel_rfl)) (by unfold Func.isWrapper; first | (rw [if_pos (by decide +kernel)]; kernel_rfl) | (rw [if_neg (by decide +kernel)]; exact ⟨rfl, rfl⟩))
    (fun os started H enc _ F => by rw [OpenClaim.pre_eq_preRow]; exact lifted os started H enc F)
theorem plain (f : FuncId) (fn : Func) (hf : Tryd.pinned.checked.prog.funcNamed "quire/quirelaw03.InflateReads" = some f) (hfn : Tryd.pinned.checked.prog.funcs[f]? = some fn) :
    true = Tryd.pinned.checked.prog.looks [] ∧ ∀ (j : Nat) t, fn.params[j]? = some t → Tryd.pinned.checked.prog.wantsStandIn t = false := by
  obtain rfl : f = 3 := Option.some.inj ((show Tryd.prog.funcNamed "quire/quirelaw03.InflateReads" = some 3 by kernel_rfl).symm.trans hf) |>.symm
  obtain rfl : fn = Tryd.f3 := (Option.some.inj (Tryd.func3.symm.trans hfn)).symm
  refine ⟨by kernel_rfl, fun j t ht => ?_⟩
  rw [Tryd.params3] at ht
  have hm : t = 22 ∨ t = 3 := by
    have := Array.mem_of_getElem? ht
    simp at this
    omega
  rcases hm with rfl | rfl
  · exact (show Tryd.prog.wantsStandIn 22 = false by kernel_rfl)
  · exact (show Tryd.prog.wantsStandIn 3 = false by kernel_rfl)
theorem card : Rows.InflateReadsCardSaid :=
  Claim7.holds_tied_plain_at .later [] _ _ _ _ said (fun _ h => by cases h) (by kernel_rfl) (fun _ h => by cases h) inflateReads_row_tie rfl ⟨rfl, rfl⟩ (by kernel_rfl) rfl plain (by kernel_rfl)
end inflateReads
theorem inflateReads_holds : Rows.InflateReadsCardSaid := inflateReads.card
#print axioms inflateReads_holds
end Go.Proofs.YtiheajlgaehfmaaDoor
