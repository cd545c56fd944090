/- The iterator over runs of lengths. -/
import Derived.Test.YtijfjbpmlcmnmaaDoorRns
namespace Go.Proofs.YtijfjbpmlcmnmaaDoor
open Go.RowKit Go.Shelf

attribute [local go_sem] Oper.semAt_some

def tot : List (Int × Nat) → Nat
  | [] => 0
  | x :: xs => x.2 + tot xs
theorem tot_snoc (pre : List (Int × Nat)) (x : Int × Nat) : tot (pre ++ [x]) = tot pre + x.2 := by
  induction pre with
  | nil => simp [tot]
  | cons y ys ih => simp [tot, ih]; omega

/-- What may come next: a run of the row. -/
def RunOf (zs : List Int) (pre : List (Int × Nat)) (x : Int × Nat) : Prop :=
  1 ≤ x.2 ∧ tot pre + x.2 ≤ zs.length ∧ (0 ≤ x.1 ∧ x.1 ≤ 15) ∧ ∀ j, tot pre ≤ j → j < tot pre + x.2 → cln (zs[j]?.getD 0) = x.1

set_option maxRecDepth 100000 in
set_option maxHeartbeats 4000000 in
theorem runs_seq (n : Nat) (B0 : Nat) (a : Option Addr) (cap : Nat) (zs : List Int) (S : Nat → Prop) (hS0 : S B0) (w : World) (hSw : ∀ k, S k → k < w.heap.size) (hlen : zs.length ≤ 17592186043904)
    (c0 : w.cell? ⟨B0, 0, none⟩ = some (.slice a zs.length cap)) (hI : IntsIn S w (.slice a zs.length cap) zs) :
    SeqRel Fence.wide n Tryd.prog 43 #[.pointer (some ⟨B0, 0, none⟩)] (fun x : Int × Nat => #[Value.int .i64 x.1, .int .i64 (x.2 : Int)]) (Kept S) (RunOf zs) (fun xs => tot xs = zs.length) w := by
  intro l J W hW hY h0
  have hKW : Kept S w W := Kept.of_below hW hSw
  have c0' := (hKW.cell (p := ⟨B0, 0, none⟩) hS0).trans c0
  have hI' := hI.kept hKW
  clear hW hKW c0 hI
  refine callsIn_of_wp Tryd.func43 rfl trivial ?_ rfl
  simp only [Tryd.ntmps43, List.size_toArray, List.length_cons, List.length_nil, Nat.reduceAdd, Nat.reduceSub, Array.replicate_succ, Array.replicate_zero, List.push_toArray, List.append_toArray, List.nil_append, List.cons_append]
  gi_wp2
  gi_loopw [3] (fun v3 wr => ∃ pre : List (Int × Nat), v3 = .int .i64 (tot pre : Int) ∧ tot pre ≤ zs.length ∧ J pre wr ∧ Kept S W wr) (fun v3 _ => zs.length - (intOf v3).toNat)
  case atStart => exact ⟨[], rfl, Nat.zero_le _, h0, Kept.refl _ _⟩
  case round =>
    obtain ⟨pre, rfl, hle, hJ, hK⟩ := hrel
    have d0 := (hK.cell (p := ⟨B0, 0, none⟩) hS0).trans c0'
    have hIr := hI'.kept hK
    by_cases hlt : tot pre < zs.length
    rotate_left
    · have HE : Hid (tot pre = zs.length) := by show _ = _; omega
      have t1 : ¬ ((tot pre : Int) < (zs.length : Int)) := by omega
      clear hY hIr hI' hK
      gi_wp2
      go_end0
      exact ⟨⟨_, rfl⟩, pre, HE.out, hJ⟩
    obtain ⟨b, off, rfl, hSb, q0⟩ := hIr.at (tot pre) hlt
    have HQC : Hid (∀ j, j < zs.length → wr.cell? ⟨b, off + j, none⟩ = some (.int .i64 (zs[j]?.getD 0))) := by
      intro j hj
      obtain ⟨b', off', e, _, q⟩ := hIr.at j hj
      simp only [Option.some.injEq, Addr.mk.injEq, and_true] at e
      obtain ⟨rfl, rfl⟩ := e
      exact q
    obtain ⟨z, HZ⟩ : ∃ z, Hid (zs[tot pre]?.getD 0 = z) := ⟨_, rfl⟩
    rw [HZ.out] at q0
    have HC : Hid (Calls Tryd.prog 44 #[.int .i64 z] wr fun e w' => e = .returned (.int .i64 (cln z)) ∧ w' = wr) := clean_any _ wr
    clear hIr hI'
    gi_wp2_with fail
    refine ⟨trivial, (fun h => by cases h), (callsIn_wide.2 HC.out).mono ?_⟩
    clear HC
    rintro e w1 ⟨rfl, rfl⟩
    obtain ⟨ln, HLN⟩ : ∃ ln, Hid (cln z = ln) := ⟨_, rfl⟩
    rw [HLN.out]
    have HB : Hid (0 ≤ ln ∧ ln ≤ 15) := by rw [← HLN.out]; exact cln_bd _
    have hwp : IntKind.i64.wrap ((tot pre : Int) + 1) = (tot pre : Int) + 1 := by simp [IntKind.wrap, IntKind.bits, IntKind.signed]; omega
    gi_wp2
    gi_loopw [4] (fun v4 wq => ∃ nx : Nat, v4 = .int .i64 (nx : Int) ∧ tot pre < nx ∧ nx ≤ zs.length ∧ Hid (∀ j, tot pre ≤ j → j < nx → cln (zs[j]?.getD 0) = ln) ∧ wq = w1) (fun v4 _ => zs.length - (intOf v4).toNat)
    case atStart =>
      refine ⟨tot pre + 1, by go_num, by omega, by omega, ?_, rfl⟩
      intro j h1 h2
      obtain rfl : j = tot pre := by omega
      rw [HZ.out]
      exact HLN.out
    case round =>
      obtain ⟨nx, rfl, hn1, hn2, HA, rfl⟩ := hrel
      by_cases hnl : nx < zs.length
      · obtain ⟨z2, HZ2⟩ : ∃ z2, Hid (zs[nx]?.getD 0 = z2) := ⟨_, rfl⟩
        have q2 := HQC.out nx hnl
        rw [HZ2.out] at q2
        have t1 : (nx : Int) < (zs.length : Int) := by omega
        have HC : Hid (Calls Tryd.prog 44 #[.int .i64 z2] wr fun e w' => e = .returned (.int .i64 (cln z2)) ∧ w' = wr) := clean_any _ wr
        gi_wp2_with fail
        refine ⟨trivial, (fun h => by cases h), (callsIn_wide.2 HC.out).mono ?_⟩
        clear HC
        rintro e wz ⟨rfl, hwz⟩
        subst hwz
        obtain ⟨l2, HL2⟩ : ∃ l2, Hid (cln z2 = l2) := ⟨_, rfl⟩
        rw [HL2.out]
        by_cases heq : l2 = ln
        · have e1 : (l2 == ln) = true := by simpa using heq
          have HA2 : Hid (∀ j, tot pre ≤ j → j < nx + 1 → cln (zs[j]?.getD 0) = ln) := by
            intro j h1 h2
            by_cases hj : j = nx
            · subst hj; rw [HZ2.out, HL2.out]; exact heq
            · exact HA.out j h1 (by omega)
          have HNL : Hid (tot pre < nx + 1 ∧ nx + 1 ≤ zs.length) := ⟨by omega, by omega⟩
          have hwn : IntKind.i64.wrap ((nx : Int) + 1) = (nx : Int) + 1 := by simp [IntKind.wrap, IntKind.bits, IntKind.signed]; omega
          clear hY HA heq
          gi_wp2
          exact ⟨⟨nx + 1, by go_num, HNL.out.1, HNL.out.2, HA2, trivial⟩, by have := HNL.out; simp [intOf]; omega⟩
        · have e1 : (l2 == ln) = false := by simpa using heq
          clear heq HL2 HZ2
          have hRO : RunOf zs pre (ln, nx - tot pre) := ⟨by show 1 ≤ nx - tot pre; omega, by show tot pre + (nx - tot pre) ≤ zs.length; omega, HB.out, fun j h1 h2 => HA.out j h1 (by have : j < tot pre + (nx - tot pre) := h2; omega)⟩
          obtain ⟨fn, tmps, assign, body, hy, hRd⟩ := hY pre (ln, nx - tot pre) wz hJ hRO
          have HTS : Hid (tot (pre ++ [(ln, nx - tot pre)]) = nx) := by show _ = _; rw [tot_snoc]; show tot pre + (nx - tot pre) = nx; omega
          have HTL : Hid (tot pre < nx ∧ nx ≤ zs.length) := ⟨by omega, by omega⟩
          simp only at hy
          rw [show ((nx - tot pre : Nat) : Int) = (nx : Int) - (tot pre : Int) by omega] at hy
          have hws : IntKind.i64.wrap ((nx : Int) - (tot pre : Int)) = (nx : Int) - (tot pre : Int) := by simp [IntKind.wrap, IntKind.bits, IntKind.signed]; omega
          clear hY hJ hRO HA HB
          gi_wp2
          refine ⟨(fun h => by cases h), hRd.mono ?_⟩
          rintro e w9 ⟨rfl, hJ9, hk9⟩
          clear hRd hy
          gi_wp2
          exact ⟨⟨pre ++ [(ln, nx - tot pre)], by rw [HTS.out], by rw [HTS.out]; exact HTL.out.2, hJ9, hK.trans hk9⟩, by have := HTL.out; simp [intOf]; omega⟩
      · obtain rfl : nx = zs.length := by omega
        have hRO : RunOf zs pre (ln, zs.length - tot pre) := ⟨by show 1 ≤ zs.length - tot pre; omega, by show tot pre + (zs.length - tot pre) ≤ zs.length; omega, HB.out, fun j h1 h2 => HA.out j h1 (by have : j < tot pre + (zs.length - tot pre) := h2; omega)⟩
        obtain ⟨fn, tmps, assign, body, hy, hRd⟩ := hY pre (ln, zs.length - tot pre) wr hJ hRO
        have HTS : Hid (tot (pre ++ [(ln, zs.length - tot pre)]) = zs.length) := by show _ = _; rw [tot_snoc]; show tot pre + (zs.length - tot pre) = zs.length; omega
        have HTL : Hid (tot pre < zs.length ∧ zs.length ≤ zs.length) := ⟨by omega, by omega⟩
        simp only at hy
        rw [show ((zs.length - tot pre : Nat) : Int) = (zs.length : Int) - (tot pre : Int) by omega] at hy
        have hws : IntKind.i64.wrap ((zs.length : Int) - (tot pre : Int)) = (zs.length : Int) - (tot pre : Int) := by simp [IntKind.wrap, IntKind.bits, IntKind.signed]; omega
        clear hY hJ hRO HA HB
        gi_wp2
        refine ⟨trivial, ?_⟩
        gi_wp2
        refine ⟨(fun h => by cases h), hRd.mono ?_⟩
        rintro e w9 ⟨rfl, hJ9, hk9⟩
        clear hRd hy
        gi_wp2
        exact ⟨⟨pre ++ [(ln, zs.length - tot pre)], by rw [HTS.out], by rw [HTS.out]; exact HTL.out.2, hJ9, hK.trans hk9⟩, by have := HTL.out; simp [intOf]; omega⟩
end Go.Proofs.YtijfjbpmlcmnmaaDoor
