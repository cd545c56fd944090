/- HuffPrefix is proved: for any slice of ints (within the form's reach) no code that the program answers is the beginning of another one, and where it answers an error it answers no codes; the chapter's examples hold; no condition. -/
import Derived.Test.YtkcikjbpnnplmaaLive
import Derived.Test.YtkcikjbpnnplmaaPre
import Derived.Test.YtkcikjbpnnplmaaRwi
namespace Go.Proofs.Ytkcikjbpnnplmaa.huffPrefix
open Go.ChangeShapes Go.WideShapes Go.ChangeAt Go.RowKit

set_option maxRecDepth 100000 in
set_option maxHeartbeats 4000000 in
theorem walk (a : Option Addr) (ca : Nat) (zs : List Int) (w : World) (hI : IntsIn (· < w.heap.size) w (.slice a zs.length ca) zs) :
    Calls Try.prog 6 #[.slice a zs.length ca] w fun e w' => e = .returned (.bool true) ∧ Below w.heap.size w w' := by
  go_enter Try.func6, Try.ntmps6
  go_wp2_with fail
  refine (codes_any (· < w.heap.size) a ca zs w (fun _ h => h) hI).mono ?_
  rintro e w1 ⟨hB1, (⟨hne, rfl⟩ | ⟨he0, G, rfl, hG, hR⟩)⟩
  · have ht : (errOf zs != 0) = true := by simpa using hne
    clear hI hne
    generalize errOf zs = r at ht
    go_wp2_with fail
    refine (alive_any w1).mono ?_
    rintro e w2 ⟨rfl, hB2⟩
    go_wp2
    go_ret
    exact ⟨rfl, hB1.trans (hB2.mono hB1.size)⟩
  · obtain ⟨⟨hl, hrg⟩, hrt⟩ := errOf_zero he0
    have hroom := room_right zs hrt
    have hI1 := hI.below hB1
    have hcl : (codesOf zs).length = zs.length := cstate_length zs 15
    go_wp2_with fail
    go_loopw [5] (fun v wr => ∃ (i q : Nat), i ≤ zs.length ∧ v = .int .i64 i ∧ wr = w1.drewN q) (fun v _ => zs.length - (intOf v).toNat)
    case atStart => exact ⟨0, 0, Nat.zero_le _, rfl, rfl⟩
    case round =>
      obtain ⟨i, q, hi, rfl, hwr⟩ := hrel
      by_cases hil : i < zs.length
      · have h1 : (i : Int) < zs.length := by omega
        have HWR : Hid _ := hwr
        have hRr : Row wr G 28 (u32s (codesOf zs)) := by rw [hwr]; exact hR
        have hIr : IntsIn (· < w.heap.size) wr (.slice a zs.length ca) zs := by rw [hwr]; exact hI1
        clear hwr
        go_wp2_with fail
        go_loopw [6] (fun v wr2 => ∃ (k q2 : Nat), k ≤ zs.length ∧ v = .int .i64 k ∧ wr2 = wr.drewN q2) (fun v _ => zs.length - (intOf v).toNat)
        case atStart => exact ⟨0, 0, Nat.zero_le _, rfl, rfl⟩
        case round =>
          obtain ⟨k, q2, hk, rfl, hwr2⟩ := hrel
          by_cases hkl : k < zs.length
          · have h2 : (k : Int) < zs.length := by omega
            have hR2 : Row wr G 28 (u32s (codesOf zs)) := by rw [hwr2]; exact hRr
            have hI2 : IntsIn (· < w.heap.size) wr (.slice a zs.length ca) zs := by rw [hwr2]; exact hIr
            obtain ⟨bz, oz, rfl, _, eI⟩ := hI2.at i hil
            obtain ⟨bz', oz', hbb, _, eK⟩ := hI2.at k hkl
            simp only [Option.some.injEq, Addr.mk.injEq] at hbb
            obtain ⟨rfl, rfl, _⟩ := hbb
            have gI : zs[i]?.getD 0 = zs[i] := by simp [hil]
            have gK : zs[k]?.getD 0 = zs[k] := by simp [hkl]
            have bI := hrg _ (List.getElem_mem hil)
            have bK := hrg _ (List.getElem_mem hkl)
            obtain ⟨m, hm⟩ := Int.eq_ofNat_of_zero_le bI.1
            obtain ⟨n, hn⟩ := Int.eq_ofNat_of_zero_le bK.1
            have cI := hR2.cell (u32s_at (codesOf zs) i (by omega))
            have cK := hR2.cell (u32s_at (codesOf zs) k (by omega))
            have hPF : 1 ≤ m → m ≤ n → i ≠ k → (codesOf zs)[k]'(by omega) / 2 ^ (n - m) ≠ (codesOf zs)[i]'(by omega) := fun a1 a2 a3 =>
              prefix_free zs hl hroom i k m n _ _ hil hkl (by rw [gI, hm]) (by rw [gK, hn]) a3 a1 a2 (by omega) (List.getElem?_eq_getElem _) (List.getElem?_eq_getElem _)
            rw [gI, hm] at eI
            rw [gK, hn] at eK
            have hm15 : m ≤ 15 := by omega
            have hn15 : n ≤ 15 := by omega
            have HPF : Hid _ := hPF
            have HWR2 : Hid _ := hwr2
            clear hPF gI gK bI bK hm hn hR2 hI2 hrg hroom hRr hIr hR hI hI1 hwr2 hrt he0
            generalize (codesOf zs)[i]'(by omega) = ci at cI HPF
            generalize (codesOf zs)[k]'(by omega) = ck at cK HPF
            by_cases c1 : i = k
            · have t1 : ((i : Int) != (k : Int)) = false := by simp [c1]
              go_wp2
              go_quiet (fail)
              go_wp2
              exact ⟨⟨k + 1, q2 + nq, by omega, by simp, by rw [HWR2.out, World.drewN_drewN]⟩, by simp [intOf]; omega⟩
            · have t1 : ((i : Int) != (k : Int)) = true := by simp; omega
              by_cases c2 : m = 0
              · have t2 : ¬ (0 : Int) < m := by omega
                go_wp2
                go_quiet (fail)
                go_wp2
                exact ⟨⟨k + 1, q2 + nq, by omega, by simp, by rw [HWR2.out, World.drewN_drewN]⟩, by simp [intOf]; omega⟩
              · have t2 : (0 : Int) < m := by omega
                have t2' : 0 < m := by omega
                by_cases c3 : m ≤ n
                · have t3 : (m : Int) ≤ n := by omega
                  have hfr := HPF.out (by omega) c3 c1
                  have hsub : (n : Int) - m = ((n - m : Nat) : Int) := by omega
                  have ht : (((ck : Int) / 2 ^ (n - m)) == (ci : Int)) = false := by
                    rw [beq_eq_false_iff_ne]
                    intro h
                    apply hfr
                    exact_mod_cast h
                  clear hfr
                  go_wp2
                  go_quiet (fail)
                  go_wp2
                  exact ⟨⟨k + 1, q2 + nq, by omega, by simp, by rw [HWR2.out, World.drewN_drewN]⟩, by simp [intOf]; omega⟩
                · have t3 : ¬ (m : Int) ≤ n := by omega
                  go_wp2
                  go_quiet (fail)
                  go_wp2
                  exact ⟨⟨k + 1, q2 + nq, by omega, by simp, by rw [HWR2.out, World.drewN_drewN]⟩, by simp [intOf]; omega⟩
          · obtain rfl : k = zs.length := by omega
            have HFIN : Hid (wr = w1.drewN (q + q2)) := by show _ = _; rw [hwr2, HWR.out, World.drewN_drewN]
            clear hwr2
            go_wp2
            exact ⟨⟨i + 1, q + q2, by omega, by simp, HFIN.out⟩, by simp [intOf]; omega⟩
      · obtain rfl : i = zs.length := by omega
        have hB1' : Below w.heap.size w wr := hB1.trans (by rw [hwr]; exact ⟨rfl, rfl, rfl, Nat.le_refl _, fun _ _ => rfl⟩)
        clear hwr
        go_wp2_with fail
        refine (alive_any wr).mono ?_
        rintro e w2 ⟨rfl, hB2⟩
        go_wp2
        go_ret
        exact ⟨rfl, hB1'.trans (hB2.mono hB1'.size)⟩

set_option maxRecDepth 100000 in
theorem lifted (os : Os) (started : os.Started) (H : Type) (enc : TypeId × Value → H) :
    ReturnsInHanded {} Try.checked os 6 .any (Rows.huffPrefixSpec.pre6 enc Try.prog Try.f6 Rows.huffPrefixRow.domain false) (Rows.huffPrefixSpec.post enc Try.prog Try.f6 false true false false) := by
  refine returnsInHanded_of_change_sized (C := Try.checked) own started (by kernel_rfl) Try.func6
    (ChangeSpec.witness6 (enc := enc) (C := Try.checked) false ⟨#[], #[.slice none 0 0], []⟩ 8 (by kernel_rfl) (by kernel_rfl) (by kernel_rfl) (by kernel_rfl)) ?_
  intro W base args ds gs before hval0 hW _ _ _
  have hval : ∀ (j : Nat) t v, Try.f6.params[j]? = some t → args[j]? = some v → Value.okWide Try.prog W .any base t v := hval0
  have hW' := hW
  obtain ⟨p, q, hA0, hV, rfl, _, _⟩ := hW
  have hA : DataW.TrodAll enc Try.prog W 0 (fun _ => true) true Try.f6.params.toList args.toList ds p := hA0
  rw [Try.params6] at hA hval
  obtain ⟨v0, vs0, d0, ds0, p0, q0, hargs, rfl, rfl, h0, r0⟩ := trodAll_cons hA
  obtain ⟨rfl, rfl, rfl⟩ := trodAll_nil r0
  obtain rfl : args = #[v0] := by cases args; simp_all
  obtain ⟨rfl, rfl⟩ := trodVars_none hV
  obtain ⟨a0, len0, cap0, rfl⟩ := okWide_slice Try.underlying22 (hval 0 22 v0 rfl rfl)
  have k0 := h0
  have lt0 : ∀ x ∈ p0, x.block < W.heap.size := by obtain ⟨m, hm⟩ := k0; exact DataW.trod_lt m _ _ _ hm
  obtain ⟨zs, hlen0, hI, _, _⟩ := open_i64s h0
  clear hA0 hval0
  subst hlen0
  refine (walk a0 cap0 zs W hI).mono fun e W' ⟨he, bel⟩ => ?_
  subst he
  exact ⟨_, rfl, _, _, _, [], _, [], hW', trodAll_mk1 (shut_bool Try.underlying4 _), trodAll_cons_mk (Below.trod laidOut (by kernel_rfl) (of_decide_eq_true (by kernel_rfl)) k0 bel lt0) trodAll_mk0, rfl, bel.frame _, fun h => by cases h⟩

theorem over : Rows.huffPrefixRow.holds Try.pinned (OpenSpec.ofChange Rows.huffPrefixSpec) :=
  OpenClaim.holds_of_wide 6 Try.f6 rfl rfl rfl rfl rfl rfl rfl ⟨rfl, rfl, rfl, rfl, rfl⟩ rfl rfl rfl rfl rfl (by kernel_rfl) Try.func6 (by kernel_rfl)
    (of_decide_eq_true (by kernel_rfl)) (by unfold Func.isWrapper; first | (rw [if_pos (by decide +kernel)]; kernel_rfl) | (rw [if_neg (by decide +kernel)]; exact ⟨rfl, rfl⟩))
    (fun os started H enc _ => lifted os started H enc)
end Go.Proofs.Ytkcikjbpnnplmaa.huffPrefix
namespace Go.Proofs.Ytkcikjbpnnplmaa
theorem huffPrefix_holds : Rows.HuffPrefixSaid := huffPrefix.over
#print axioms huffPrefix_holds
end Go.Proofs.Ytkcikjbpnnplmaa
