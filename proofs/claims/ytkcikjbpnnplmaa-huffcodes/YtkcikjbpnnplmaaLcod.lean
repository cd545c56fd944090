/- HuffCodes is proved: for any slice of ints (within the form's reach) the program's Codes and Full answer what the document's answer, and the chapter's examples hold; no condition. -/
import Derived.Test.YtkcikjbpnnplmaaLive
import Derived.Test.YtkcikjbpnnplmaaRco
import Derived.Test.YtkcikjbpnnplmaaRwi
namespace Go.Proofs.Ytkcikjbpnnplmaa.huffCodes
open Go.ChangeShapes Go.WideShapes Go.ChangeAt Go.RowKit

set_option maxRecDepth 100000 in
set_option maxHeartbeats 4000000 in
theorem walk (a : Option Addr) (ca : Nat) (zs : List Int) (w : World) (hI : IntsIn (· < w.heap.size) w (.slice a zs.length ca) zs) :
    Calls Try.prog 3 #[.slice a zs.length ca] w fun e w' => e = .returned (.bool true) ∧ Below w.heap.size w w' := by
  by_cases h0 : errOf zs = 0
  · have hl := (errOf_zero h0).1.1
    have hcl : (codesOf zs).length = zs.length := cstate_length zs 15
    go_enter Try.func3, Try.ntmps3
    go_wp2_with fail
    refine (codes_any (· < w.heap.size) a ca zs w (fun _ h => h) hI).mono ?_
    rintro e w1 ⟨hB1, (⟨hne, _⟩ | ⟨_, G, rfl, hG, hR⟩)⟩
    · exact absurd h0 hne
    have hs1 := hB1.size
    have HC : Hid _ := refCodes_ok (· < w.heap.size) a ca zs w1 (fun k hk => by omega) (hI.below hB1) h0
    go_wp2_with fail
    refine Calls.mono HC.out ?_
    rintro e w2 ⟨rfl, hR2, hB2⟩
    have hB2' : Below w.heap.size w w2 := hB1.trans (hB2.mono hs1)
    have hs2 := hB2'.size
    have hRc := hR.below hB2 hR.lt
    have HF : Hid _ := full10_any (· < w.heap.size) a ca zs w2 (fun k hk => by omega) (hI.below hB2')
    clear HC hR hB1 hB2
    have t1 : (((zs.length : Int)) != (zs.length : Int)) = false := by simp
    generalize w1.heap.size = G2 at hR2
    go_wp2_with fail
    refine Calls.mono HF.out ?_
    rintro e w3 ⟨rfl, hB3⟩
    have hB3' : Below w.heap.size w w3 := hB2'.trans (hB3.mono hs2)
    have hRc := hRc.below hB3 hRc.lt
    have hR2 := hR2.below hB3 hR2.lt
    have HF2 : Hid _ := refFull_any (· < w.heap.size) a ca zs w3 (hI.below hB3')
    clear HF hB3 hB2' hI h0
    generalize fullB zs = fb at HF2
    go_wp2_with fail
    refine Calls.mono HF2.out ?_
    rintro e w4 ⟨rfl, hw4⟩
    rw [hw4]
    clear HF2 hw4
    have t2 : (fb != fb) = false := by cases fb <;> rfl
    go_wp2_with fail
    go_loopw [7] (fun v wr => ∃ (i q : Nat), i ≤ zs.length ∧ v = .int .i64 i ∧ wr = w3.drewN q) (fun v _ => zs.length - (intOf v).toNat)
    case atStart => exact ⟨0, 0, Nat.zero_le _, rfl, rfl⟩
    case round =>
      obtain ⟨i, q, hi, rfl, hwr⟩ := hrel
      by_cases hil : i < zs.length
      · have h1 : (i : Int) < zs.length := by omega
        have c1 : wr.cell? ⟨G, i, none⟩ = some (.int .u32 ((codesOf zs)[i]'(by omega) : Nat)) := by rw [hwr]; exact hRc.cell (u32s_at (codesOf zs) i (by omega))
        have c2 : wr.cell? ⟨G2, i, none⟩ = some (.int .u32 ((codesOf zs)[i]'(by omega) : Nat)) := by rw [hwr]; exact hR2.cell (u32s_at (codesOf zs) i (by omega))
        have HWR : Hid _ := hwr
        clear hwr hRc hR2
        generalize (codesOf zs)[i]'(by omega) = c at c1 c2
        have t3 : ((c : Int) != (c : Int)) = false := by simp
        go_wp2
        go_quiet (fail)
        go_wp2
        exact ⟨⟨i + 1, q + nq, by omega, by simp, by rw [HWR.out, World.drewN_drewN]⟩, by simp [intOf]; omega⟩
      · obtain rfl : i = zs.length := by omega
        have hB4 : Below w.heap.size w wr := hB3'.trans (by rw [hwr]; exact ⟨rfl, rfl, rfl, Nat.le_refl _, fun _ _ => rfl⟩)
        clear hwr hRc hR2
        go_wp2_with fail
        refine (alive_any wr).mono ?_
        rintro e w5 ⟨rfl, hB5⟩
        go_wp2
        go_ret
        exact ⟨rfl, hB4.trans (hB5.mono hB4.size)⟩
  · go_enter Try.func3, Try.ntmps3
    go_wp2_with fail
    refine (codes_any (· < w.heap.size) a ca zs w (fun _ h => h) hI).mono ?_
    rintro e w1 ⟨hB1, hor⟩
    obtain rfl : e = .returned (.tuple #[.slice none 0 0, .int .i64 (errOf zs)]) := by
      rcases hor with ⟨_, h⟩ | ⟨he, _⟩
      · exact h
      · exact absurd he h0
    clear hor
    have hs1 := hB1.size
    have HC : Hid _ := refCodes_err (· < w.heap.size) a ca zs w1 (hI.below hB1) h0
    have HF : Hid _ := full10_any (· < w.heap.size) a ca zs w1 (fun k hk => by omega) (hI.below hB1)
    have HI1 : Hid (∀ W, Below w.heap.size w W → IntsIn (· < w.heap.size) W (.slice a zs.length ca) zs) := fun W hW => hI.below hW
    clear hI h0
    generalize errOf zs = r at HC ⊢
    have t1 : (r != r) = false := by simp
    go_wp2_with fail
    refine Calls.mono HC.out ?_
    rintro e w2 ⟨rfl, hw2⟩
    rw [hw2]
    clear HC hw2
    go_wp2_with fail
    refine Calls.mono HF.out ?_
    rintro e w3 ⟨rfl, hB3⟩
    have hB3' : Below w.heap.size w w3 := hB1.trans (hB3.mono hs1)
    have HF2 : Hid _ := refFull_any (· < w.heap.size) a ca zs w3 (HI1.out w3 hB3')
    clear HF HI1 hB3
    generalize fullB zs = fb at HF2 ⊢
    go_wp2_with fail
    refine Calls.mono HF2.out ?_
    rintro e w4 ⟨rfl, hw4⟩
    rw [hw4]
    clear HF2 hw4
    have t2 : (fb != fb) = false := by cases fb <;> rfl
    go_wp2_with fail
    go_loopw [7] (fun v wr => v = .int .i64 0 ∧ wr = w3) (fun _ _ => 0)
    case atStart => exact ⟨rfl, rfl⟩
    case round =>
      obtain ⟨rfl, rfl⟩ := hrel
      go_wp2_with fail
      refine (alive_any _).mono ?_
      rintro e w5 ⟨rfl, hB5⟩
      go_wp2
      go_ret
      exact ⟨rfl, hB3'.trans (hB5.mono hB3'.size)⟩
set_option maxRecDepth 100000 in
theorem lifted (os : Os) (started : os.Started) (H : Type) (enc : TypeId × Value → H) :
    ReturnsInHanded {} Try.checked os 3 .any (Rows.huffCodesSpec.pre6 enc Try.prog Try.f3 Rows.huffCodesRow.domain false) (Rows.huffCodesSpec.post enc Try.prog Try.f3 false true false false) := by
  refine returnsInHanded_of_change_sized (C := Try.checked) own started (by kernel_rfl) Try.func3
    (ChangeSpec.witness6 (enc := enc) (C := Try.checked) false ⟨#[], #[.slice none 0 0], []⟩ 8 (by kernel_rfl) (by kernel_rfl) (by kernel_rfl) (by kernel_rfl)) ?_
  intro W base args ds gs before hval0 hW _ _ _
  have hval : ∀ (j : Nat) t v, Try.f3.params[j]? = some t → args[j]? = some v → Value.okWide Try.prog W .any base t v := hval0
  have hW' := hW
  obtain ⟨p, q, hA0, hV, rfl, _, _⟩ := hW
  have hA : DataW.TrodAll enc Try.prog W 0 (fun _ => true) true Try.f3.params.toList args.toList ds p := hA0
  rw [Try.params3] at hA hval
  obtain ⟨v0, vs0, d0, ds0, p0, q0, hargs, rfl, rfl, h0, r0⟩ := trodAll_cons hA
  obtain ⟨rfl, rfl, rfl⟩ := trodAll_nil r0
  obtain rfl : args = #[v0] := by cases args; simp_all
  obtain ⟨rfl, rfl⟩ := trodVars_none hV
  obtain ⟨a0, len0, cap0, rfl⟩ := okWide_slice Try.underlying22 (hval 0 22 v0 rfl rfl)
  have k0 := h0
  have lt0 : ∀ x ∈ p0, x.block < W.heap.size := by obtain ⟨m, hm⟩ := k0; exact DataW.trod_lt m _ _ _ hm
  obtain ⟨zs, hlen0, hI, _, _⟩ := open_i64s h0
  clear hA0 hval0
  subst hlen0
  refine (walk a0 cap0 zs W hI).mono fun e W' ⟨he, bel⟩ => ?_
  subst he
  exact ⟨_, rfl, _, _, _, [], _, [], hW', trodAll_mk1 (shut_bool Try.underlying4 _), trodAll_cons_mk (Below.trod laidOut (by kernel_rfl) (of_decide_eq_true (by kernel_rfl)) k0 bel lt0) trodAll_mk0, rfl, bel.frame _, fun h => by cases h⟩

theorem over : Rows.huffCodesRow.holds Try.pinned (OpenSpec.ofChange Rows.huffCodesSpec) :=
  OpenClaim.holds_of_wide 3 Try.f3 rfl rfl rfl rfl rfl rfl rfl ⟨rfl, rfl, rfl, rfl, rfl⟩ rfl rfl rfl rfl rfl (by kernel_rfl) Try.func3 (by kernel_rfl)
    (of_decide_eq_true (by kernel_rfl)) (by unfold Func.isWrapper; first | (rw [if_pos (by decide +kernel)]; kernel_rfl) | (rw [if_neg (by decide +kernel)]; exact ⟨rfl, rfl⟩))
    (fun os started H enc _ => lifted os started H enc)
end Go.Proofs.Ytkcikjbpnnplmaa.huffCodes
namespace Go.Proofs.Ytkcikjbpnnplmaa
theorem huffCodes_holds : Rows.HuffCodesSaid := huffCodes.over
#print axioms huffCodes_holds
end Go.Proofs.Ytkcikjbpnnplmaa
