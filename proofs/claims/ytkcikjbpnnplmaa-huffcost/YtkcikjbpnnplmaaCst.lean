/- Cost: the program's and the document's are one function. -/
import Derived.Test.YtkcikjbpnnplmaaFul
namespace Go.Proofs.Ytkcikjbpnnplmaa
open Go.RowKit

def big (v m : Int) : Bool := decide (m < v) || decide (v < -m)
def stepC (s f n : Int) : Option Int := if f = 0 ∨ n = 0 then some s else if big f 1099511627776 || big n 1048576 then none else if big (s + f * n) 2305843009213693952 then none else some (s + f * n)
def costN (fs ls : List Int) : Nat → Option Int
  | 0 => some 0
  | k + 1 => (costN fs ls k).bind fun s => stepC s (fs[k]?.getD 0) (ls[k]?.getD 0)
def costR (fs ls : List Int) : Int := (costN fs ls (min fs.length ls.length)).getD 4611686018427387904
theorem costN_none (fs ls : List Int) (k N : Nat) (h : k ≤ N) (e : costN fs ls k = none) : costN fs ls N = none := by
  induction h with
  | refl => exact e
  | step _ ih => rw [costN, ih]; rfl
theorem stepC_bd (s f n t : Int) (h : stepC s f n = some t) (hs : -2305843009213693952 ≤ s ∧ s ≤ 2305843009213693952) : -2305843009213693952 ≤ t ∧ t ≤ 2305843009213693952 := by
  unfold stepC at h
  split at h
  · obtain rfl := Option.some.inj h; exact hs
  · split at h
    · cases h
    · split at h
      · cases h
      · rename_i h3
        obtain rfl := Option.some.inj h
        simp [big] at h3
        omega
theorem mul_bd (f n : Int) (hf : big f 1099511627776 = false) (hn : big n 1048576 = false) : -1152921504606846976 ≤ f * n ∧ f * n ≤ 1152921504606846976 := by
  simp [big] at hf hn
  have h1 : f.natAbs ≤ 1099511627776 := by omega
  have h2 : n.natAbs ≤ 1048576 := by omega
  have h3 : (f * n).natAbs ≤ 1099511627776 * 1048576 := by rw [Int.natAbs_mul]; exact Nat.mul_le_mul h1 h2
  omega

set_option maxHeartbeats 1000000 in
theorem beyond_any (v m : Int) (h0 : 0 ≤ m) (h1 : m ≤ 4611686018427387904) (w : World) : Calls Try.prog 36 #[.int .i64 v, .int .i64 m] w fun e w' => e = .returned (.bool (big v m)) ∧ w' = w := by
  have hb : big v m = (decide (m < v) || decide (v < -m)) := rfl
  have HB : Hid _ := hb
  clear hb
  by_cases h2 : m < v
  · have e : big v m = true := by rw [HB.out]; simp [h2]
    rw [e]
    go_enter Try.func36, Try.ntmps36
    go_wp2
    go_ret
    exact ⟨rfl, rfl⟩
  · by_cases h3 : v < -m
    · have e : big v m = true := by rw [HB.out]; simp [h3]
      rw [e]
      go_enter Try.func36, Try.ntmps36
      go_wp2
      go_ret
      exact ⟨rfl, rfl⟩
    · have e : big v m = false := by rw [HB.out]; simp [h2, h3]
      rw [e]
      go_enter Try.func36, Try.ntmps36
      go_wp2
      go_ret
      exact ⟨rfl, rfl⟩

set_option maxRecDepth 100000 in
set_option maxHeartbeats 4000000 in
theorem cost_any (S : Nat → Prop) (a b : Option Addr) (ca cb : Nat) (fs ls : List Int) (w : World) (hF : IntsIn S w (.slice a fs.length ca) fs) (hL : IntsIn S w (.slice b ls.length cb) ls) (hlf : fs.length ≤ 140737488355328) (hll : ls.length ≤ 140737488355328) (r : Int) (HR : Hid (r = costR fs ls)) :
    Calls Try.prog 17 #[.slice a fs.length ca, .slice b ls.length cb] w fun e w' => e = .returned (.int .i64 r) ∧ ∃ q, w' = w.drewN q := by
  rcases Nat.lt_trichotomy fs.length ls.length with hle | hle | hle
  · have h1 : (fs.length : Int) < ls.length := by omega
    have hmin : min fs.length ls.length = fs.length := by omega
    go_enter Try.func17, Try.ntmps17
    go_wp2
    go_loopw [5, 14] (fun v5 v14 wr => ∃ (k : Nat) (s : Int) (q : Nat), k ≤ fs.length ∧ v14 = .int .i64 k ∧ v5 = .int .i64 s ∧ costN fs ls k = some s ∧ (-2305843009213693952 ≤ s ∧ s ≤ 2305843009213693952) ∧ wr = w.drewN q)
      (fun _ v14 _ => fs.length - (intOf v14).toNat)
    case atStart => exact ⟨0, 0, 0, Nat.zero_le _, rfl, rfl, rfl, by omega, rfl⟩
    case round =>
      obtain ⟨k, s, q, hk, rfl, rfl, hcs, hsb, hwr⟩ := hrel
      by_cases hlt : k < fs.length
      · obtain ⟨bf, of, rfl, _, ef⟩ := hF.at k (by omega)
        obtain ⟨bl, ol, rfl, _, el⟩ := hL.at k (by omega)
        have cf : wr.cell? ⟨bf, of + k, none⟩ = some (.int .i64 (fs[k]?.getD 0)) := by rw [hwr]; exact ef
        have cl : wr.cell? ⟨bl, ol + k, none⟩ = some (.int .i64 (ls[k]?.getD 0)) := by rw [hwr]; exact el
        have HST : Hid (costN fs ls (k + 1) = stepC s (fs[k]?.getD 0) (ls[k]?.getD 0)) := by
          show _ = _
          rw [costN, hcs]
          rfl
        have HWR : Hid _ := hwr
        have k1 : (k : Int) < fs.length := by omega
        have k2 : (k : Int) < ls.length := by omega
        clear ef el hwr hF hL hcs
        generalize fs[k]?.getD 0 = f at cf HST
        generalize ls[k]?.getD 0 = n at cl HST
        have HEND : Hid (costN fs ls (k + 1) = none → r = 4611686018427387904) := fun h => by
          rw [show r = _ from HR.out, costR, hmin, costN_none fs ls (k + 1) fs.length hlt h]
          rfl
        clear HR hmin
        by_cases hf0 : f = 0
        · have t1 : (f == 0) = true := by simpa using hf0
          have HE : Hid (costN fs ls (k + 1) = some s) := by show _ = _; rw [HST.out, stepC, if_pos (.inl hf0)]
          clear HST HEND hf0
          go_wp2
          go_quiet (fail)
          go_wp2
          exact ⟨⟨k + 1, s, q + nq, by omega, by simp, rfl, HE.out, hsb, by rw [show wr = _ from HWR.out, World.drewN_drewN]⟩, by simp [intOf]; omega⟩
        · have t1 : (f == 0) = false := by simpa using hf0
          by_cases hn0 : n = 0
          · have t2 : (n == 0) = true := by simpa using hn0
            have HE : Hid (costN fs ls (k + 1) = some s) := by show _ = _; rw [HST.out, stepC, if_pos (.inr hn0)]
            clear HST HEND hf0 hn0
            go_wp2
            go_quiet (fail)
            go_wp2
            exact ⟨⟨k + 1, s, q + nq, by omega, by simp, rfl, HE.out, hsb, by rw [show wr = _ from HWR.out, World.drewN_drewN]⟩, by simp [intOf]; omega⟩
          · have t2 : (n == 0) = false := by simpa using hn0
            cases hbf : big f 1099511627776 with
            | true =>
              have HE : Hid (r = 4611686018427387904) := HEND.out (by rw [HST.out, stepC, if_neg (by simp [hf0, hn0]), hbf]; rfl)
              clear HST HEND hf0 hn0
              go_wp2
              go_quiet (fail)
              go_wp2_with (go_at_call 36; refine (beyond_any _ _ (by omega) (by omega) _).mono ?_; rintro e w' ⟨rfl, rfl⟩)
              go_ret
              exact ⟨by rw [HE.out]; rfl, q + nq, by rw [show wr = _ from HWR.out, World.drewN_drewN]⟩
            | false =>
              cases hbn : big n 1048576 with
              | true =>
                have HE : Hid (r = 4611686018427387904) := HEND.out (by rw [HST.out, stepC, if_neg (by simp [hf0, hn0]), hbf, hbn]; rfl)
                clear HST HEND hf0 hn0
                go_wp2
                go_quiet (fail)
                go_wp2_with (go_at_call 36; refine (beyond_any _ _ (by omega) (by omega) _).mono ?_; rintro e w' ⟨rfl, rfl⟩)
                go_ret
                exact ⟨by rw [HE.out]; rfl, q + nq, by rw [show wr = _ from HWR.out, World.drewN_drewN]⟩
              | false =>
                have hmb := mul_bd f n hbf hbn
                have hst2 : stepC s f n = if big (s + f * n) 2305843009213693952 then none else some (s + f * n) := by rw [stepC, if_neg (by simp [hf0, hn0]), hbf, hbn]; rfl
                have hw1 : IntKind.i64.wrap (f * n) = f * n := by rw [IntKind.wrap_i64]; generalize f * n = t at hmb ⊢; omega
                have hw2 : IntKind.i64.wrap (s + f * n) = s + f * n := by rw [IntKind.wrap_i64]; generalize f * n = t at hmb ⊢; omega
                have hw3 : wrap64 (f * n) = f * n := wrap64_id _ (by omega)
                have hw4 : wrap64 (s + f * n) = s + f * n := wrap64_id _ (by omega)
                have HS2 : Hid _ := hst2
                clear hst2 hmb hf0 hn0
                cases hbs : big (s + f * n) 2305843009213693952 with
                | true =>
                  have HE : Hid (r = 4611686018427387904) := HEND.out (by rw [HST.out, HS2.out, hbs]; rfl)
                  clear HST HEND HS2
                  go_wp2
                  go_quiet (fail)
                  go_wp2_with (go_at_call 36; refine (beyond_any _ _ (by omega) (by omega) _).mono ?_; rintro e w' ⟨rfl, rfl⟩)
                  go_ret
                  exact ⟨by rw [HE.out]; rfl, q + nq, by rw [show wr = _ from HWR.out, World.drewN_drewN]⟩
                | false =>
                  have HE : Hid (costN fs ls (k + 1) = some (s + f * n)) := by show _ = _; rw [HST.out, HS2.out, hbs]; rfl
                  have HSB : Hid (-2305843009213693952 ≤ s + f * n ∧ s + f * n ≤ 2305843009213693952) := by
                    have h := hbs
                    show _ ∧ _
                    generalize s + f * n = t at h ⊢
                    simp [big] at h
                    omega
                  clear HST HEND HS2
                  go_wp2
                  go_quiet (fail)
                  go_wp2_with (go_at_call 36; refine (beyond_any _ _ (by omega) (by omega) _).mono ?_; rintro e w' ⟨rfl, rfl⟩)
                  exact ⟨⟨k + 1, s + f * n, q + nq, by omega, by simp, rfl, HE.out, HSB.out, by rw [show wr = _ from HWR.out, World.drewN_drewN]⟩, by simp [intOf]; omega⟩
      · obtain rfl : k = fs.length := by omega
        have HE : Hid (r = s) := by
          show _ = _
          rw [show r = _ from HR.out, costR, hmin, hcs]
          rfl
        clear HR hmin hF hL hcs
        go_wp2
        go_ret
        exact ⟨by rw [HE.out]; rfl, q, rfl⟩
  · have hA : ¬ (fs.length : Int) < ls.length := by omega
    have hB : ¬ (ls.length : Int) < fs.length := by omega
    have hmin : min fs.length ls.length = ls.length := by omega
    go_enter Try.func17, Try.ntmps17
    go_wp2
    go_loopw [5, 14] (fun v5 v14 wr => ∃ (k : Nat) (s : Int) (q : Nat), k ≤ ls.length ∧ v14 = .int .i64 k ∧ v5 = .int .i64 s ∧ costN fs ls k = some s ∧ (-2305843009213693952 ≤ s ∧ s ≤ 2305843009213693952) ∧ wr = w.drewN q)
      (fun _ v14 _ => ls.length - (intOf v14).toNat)
    case atStart => exact ⟨0, 0, 0, Nat.zero_le _, rfl, rfl, rfl, by omega, rfl⟩
    case round =>
      obtain ⟨k, s, q, hk, rfl, rfl, hcs, hsb, hwr⟩ := hrel
      by_cases hlt : k < ls.length
      · obtain ⟨bf, of, rfl, _, ef⟩ := hF.at k (by omega)
        obtain ⟨bl, ol, rfl, _, el⟩ := hL.at k (by omega)
        have cf : wr.cell? ⟨bf, of + k, none⟩ = some (.int .i64 (fs[k]?.getD 0)) := by rw [hwr]; exact ef
        have cl : wr.cell? ⟨bl, ol + k, none⟩ = some (.int .i64 (ls[k]?.getD 0)) := by rw [hwr]; exact el
        have HST : Hid (costN fs ls (k + 1) = stepC s (fs[k]?.getD 0) (ls[k]?.getD 0)) := by
          show _ = _
          rw [costN, hcs]
          rfl
        have HWR : Hid _ := hwr
        have k1 : (k : Int) < fs.length := by omega
        have k2 : (k : Int) < ls.length := by omega
        clear ef el hwr hF hL hcs
        generalize fs[k]?.getD 0 = f at cf HST
        generalize ls[k]?.getD 0 = n at cl HST
        have HEND : Hid (costN fs ls (k + 1) = none → r = 4611686018427387904) := fun h => by
          rw [show r = _ from HR.out, costR, hmin, costN_none fs ls (k + 1) ls.length hlt h]
          rfl
        clear HR hmin
        by_cases hf0 : f = 0
        · have t1 : (f == 0) = true := by simpa using hf0
          have HE : Hid (costN fs ls (k + 1) = some s) := by show _ = _; rw [HST.out, stepC, if_pos (.inl hf0)]
          clear HST HEND hf0
          go_wp2
          go_quiet (fail)
          go_wp2
          exact ⟨⟨k + 1, s, q + nq, by omega, by simp, rfl, HE.out, hsb, by rw [show wr = _ from HWR.out, World.drewN_drewN]⟩, by simp [intOf]; omega⟩
        · have t1 : (f == 0) = false := by simpa using hf0
          by_cases hn0 : n = 0
          · have t2 : (n == 0) = true := by simpa using hn0
            have HE : Hid (costN fs ls (k + 1) = some s) := by show _ = _; rw [HST.out, stepC, if_pos (.inr hn0)]
            clear HST HEND hf0 hn0
            go_wp2
            go_quiet (fail)
            go_wp2
            exact ⟨⟨k + 1, s, q + nq, by omega, by simp, rfl, HE.out, hsb, by rw [show wr = _ from HWR.out, World.drewN_drewN]⟩, by simp [intOf]; omega⟩
          · have t2 : (n == 0) = false := by simpa using hn0
            cases hbf : big f 1099511627776 with
            | true =>
              have HE : Hid (r = 4611686018427387904) := HEND.out (by rw [HST.out, stepC, if_neg (by simp [hf0, hn0]), hbf]; rfl)
              clear HST HEND hf0 hn0
              go_wp2
              go_quiet (fail)
              go_wp2_with (go_at_call 36; refine (beyond_any _ _ (by omega) (by omega) _).mono ?_; rintro e w' ⟨rfl, rfl⟩)
              go_ret
              exact ⟨by rw [HE.out]; rfl, q + nq, by rw [show wr = _ from HWR.out, World.drewN_drewN]⟩
            | false =>
              cases hbn : big n 1048576 with
              | true =>
                have HE : Hid (r = 4611686018427387904) := HEND.out (by rw [HST.out, stepC, if_neg (by simp [hf0, hn0]), hbf, hbn]; rfl)
                clear HST HEND hf0 hn0
                go_wp2
                go_quiet (fail)
                go_wp2_with (go_at_call 36; refine (beyond_any _ _ (by omega) (by omega) _).mono ?_; rintro e w' ⟨rfl, rfl⟩)
                go_ret
                exact ⟨by rw [HE.out]; rfl, q + nq, by rw [show wr = _ from HWR.out, World.drewN_drewN]⟩
              | false =>
                have hmb := mul_bd f n hbf hbn
                have hst2 : stepC s f n = if big (s + f * n) 2305843009213693952 then none else some (s + f * n) := by rw [stepC, if_neg (by simp [hf0, hn0]), hbf, hbn]; rfl
                have hw1 : IntKind.i64.wrap (f * n) = f * n := by rw [IntKind.wrap_i64]; generalize f * n = t at hmb ⊢; omega
                have hw2 : IntKind.i64.wrap (s + f * n) = s + f * n := by rw [IntKind.wrap_i64]; generalize f * n = t at hmb ⊢; omega
                have hw3 : wrap64 (f * n) = f * n := wrap64_id _ (by omega)
                have hw4 : wrap64 (s + f * n) = s + f * n := wrap64_id _ (by omega)
                have HS2 : Hid _ := hst2
                clear hst2 hmb hf0 hn0
                cases hbs : big (s + f * n) 2305843009213693952 with
                | true =>
                  have HE : Hid (r = 4611686018427387904) := HEND.out (by rw [HST.out, HS2.out, hbs]; rfl)
                  clear HST HEND HS2
                  go_wp2
                  go_quiet (fail)
                  go_wp2_with (go_at_call 36; refine (beyond_any _ _ (by omega) (by omega) _).mono ?_; rintro e w' ⟨rfl, rfl⟩)
                  go_ret
                  exact ⟨by rw [HE.out]; rfl, q + nq, by rw [show wr = _ from HWR.out, World.drewN_drewN]⟩
                | false =>
                  have HE : Hid (costN fs ls (k + 1) = some (s + f * n)) := by show _ = _; rw [HST.out, HS2.out, hbs]; rfl
                  have HSB : Hid (-2305843009213693952 ≤ s + f * n ∧ s + f * n ≤ 2305843009213693952) := by
                    have h := hbs
                    show _ ∧ _
                    generalize s + f * n = t at h ⊢
                    simp [big] at h
                    omega
                  clear HST HEND HS2
                  go_wp2
                  go_quiet (fail)
                  go_wp2_with (go_at_call 36; refine (beyond_any _ _ (by omega) (by omega) _).mono ?_; rintro e w' ⟨rfl, rfl⟩)
                  exact ⟨⟨k + 1, s + f * n, q + nq, by omega, by simp, rfl, HE.out, HSB.out, by rw [show wr = _ from HWR.out, World.drewN_drewN]⟩, by simp [intOf]; omega⟩
      · obtain rfl : k = ls.length := by omega
        have HE : Hid (r = s) := by
          show _ = _
          rw [show r = _ from HR.out, costR, hmin, hcs]
          rfl
        clear HR hmin hF hL hcs
        go_wp2
        go_ret
        exact ⟨by rw [HE.out]; rfl, q, rfl⟩
  · have h1 : (ls.length : Int) < fs.length := by omega
    have hmin : min fs.length ls.length = ls.length := by omega
    go_enter Try.func17, Try.ntmps17
    go_wp2
    go_loopw [5, 14] (fun v5 v14 wr => ∃ (k : Nat) (s : Int) (q : Nat), k ≤ ls.length ∧ v14 = .int .i64 k ∧ v5 = .int .i64 s ∧ costN fs ls k = some s ∧ (-2305843009213693952 ≤ s ∧ s ≤ 2305843009213693952) ∧ wr = w.drewN q)
      (fun _ v14 _ => ls.length - (intOf v14).toNat)
    case atStart => exact ⟨0, 0, 0, Nat.zero_le _, rfl, rfl, rfl, by omega, rfl⟩
    case round =>
      obtain ⟨k, s, q, hk, rfl, rfl, hcs, hsb, hwr⟩ := hrel
      by_cases hlt : k < ls.length
      · obtain ⟨bf, of, rfl, _, ef⟩ := hF.at k (by omega)
        obtain ⟨bl, ol, rfl, _, el⟩ := hL.at k (by omega)
        have cf : wr.cell? ⟨bf, of + k, none⟩ = some (.int .i64 (fs[k]?.getD 0)) := by rw [hwr]; exact ef
        have cl : wr.cell? ⟨bl, ol + k, none⟩ = some (.int .i64 (ls[k]?.getD 0)) := by rw [hwr]; exact el
        have HST : Hid (costN fs ls (k + 1) = stepC s (fs[k]?.getD 0) (ls[k]?.getD 0)) := by
          show _ = _
          rw [costN, hcs]
          rfl
        have HWR : Hid _ := hwr
        have k1 : (k : Int) < fs.length := by omega
        have k2 : (k : Int) < ls.length := by omega
        clear ef el hwr hF hL hcs
        generalize fs[k]?.getD 0 = f at cf HST
        generalize ls[k]?.getD 0 = n at cl HST
        have HEND : Hid (costN fs ls (k + 1) = none → r = 4611686018427387904) := fun h => by
          rw [show r = _ from HR.out, costR, hmin, costN_none fs ls (k + 1) ls.length hlt h]
          rfl
        clear HR hmin
        by_cases hf0 : f = 0
        · have t1 : (f == 0) = true := by simpa using hf0
          have HE : Hid (costN fs ls (k + 1) = some s) := by show _ = _; rw [HST.out, stepC, if_pos (.inl hf0)]
          clear HST HEND hf0
          go_wp2
          go_quiet (fail)
          go_wp2
          exact ⟨⟨k + 1, s, q + nq, by omega, by simp, rfl, HE.out, hsb, by rw [show wr = _ from HWR.out, World.drewN_drewN]⟩, by simp [intOf]; omega⟩
        · have t1 : (f == 0) = false := by simpa using hf0
          by_cases hn0 : n = 0
          · have t2 : (n == 0) = true := by simpa using hn0
            have HE : Hid (costN fs ls (k + 1) = some s) := by show _ = _; rw [HST.out, stepC, if_pos (.inr hn0)]
            clear HST HEND hf0 hn0
            go_wp2
            go_quiet (fail)
            go_wp2
            exact ⟨⟨k + 1, s, q + nq, by omega, by simp, rfl, HE.out, hsb, by rw [show wr = _ from HWR.out, World.drewN_drewN]⟩, by simp [intOf]; omega⟩
          · have t2 : (n == 0) = false := by simpa using hn0
            cases hbf : big f 1099511627776 with
            | true =>
              have HE : Hid (r = 4611686018427387904) := HEND.out (by rw [HST.out, stepC, if_neg (by simp [hf0, hn0]), hbf]; rfl)
              clear HST HEND hf0 hn0
              go_wp2
              go_quiet (fail)
              go_wp2_with (go_at_call 36; refine (beyond_any _ _ (by omega) (by omega) _).mono ?_; rintro e w' ⟨rfl, rfl⟩)
              go_ret
              exact ⟨by rw [HE.out]; rfl, q + nq, by rw [show wr = _ from HWR.out, World.drewN_drewN]⟩
            | false =>
              cases hbn : big n 1048576 with
              | true =>
                have HE : Hid (r = 4611686018427387904) := HEND.out (by rw [HST.out, stepC, if_neg (by simp [hf0, hn0]), hbf, hbn]; rfl)
                clear HST HEND hf0 hn0
                go_wp2
                go_quiet (fail)
                go_wp2_with (go_at_call 36; refine (beyond_any _ _ (by omega) (by omega) _).mono ?_; rintro e w' ⟨rfl, rfl⟩)
                go_ret
                exact ⟨by rw [HE.out]; rfl, q + nq, by rw [show wr = _ from HWR.out, World.drewN_drewN]⟩
              | false =>
                have hmb := mul_bd f n hbf hbn
                have hst2 : stepC s f n = if big (s + f * n) 2305843009213693952 then none else some (s + f * n) := by rw [stepC, if_neg (by simp [hf0, hn0]), hbf, hbn]; rfl
                have hw1 : IntKind.i64.wrap (f * n) = f * n := by rw [IntKind.wrap_i64]; generalize f * n = t at hmb ⊢; omega
                have hw2 : IntKind.i64.wrap (s + f * n) = s + f * n := by rw [IntKind.wrap_i64]; generalize f * n = t at hmb ⊢; omega
                have hw3 : wrap64 (f * n) = f * n := wrap64_id _ (by omega)
                have hw4 : wrap64 (s + f * n) = s + f * n := wrap64_id _ (by omega)
                have HS2 : Hid _ := hst2
                clear hst2 hmb hf0 hn0
                cases hbs : big (s + f * n) 2305843009213693952 with
                | true =>
                  have HE : Hid (r = 4611686018427387904) := HEND.out (by rw [HST.out, HS2.out, hbs]; rfl)
                  clear HST HEND HS2
                  go_wp2
                  go_quiet (fail)
                  go_wp2_with (go_at_call 36; refine (beyond_any _ _ (by omega) (by omega) _).mono ?_; rintro e w' ⟨rfl, rfl⟩)
                  go_ret
                  exact ⟨by rw [HE.out]; rfl, q + nq, by rw [show wr = _ from HWR.out, World.drewN_drewN]⟩
                | false =>
                  have HE : Hid (costN fs ls (k + 1) = some (s + f * n)) := by show _ = _; rw [HST.out, HS2.out, hbs]; rfl
                  have HSB : Hid (-2305843009213693952 ≤ s + f * n ∧ s + f * n ≤ 2305843009213693952) := by
                    have h := hbs
                    show _ ∧ _
                    generalize s + f * n = t at h ⊢
                    simp [big] at h
                    omega
                  clear HST HEND HS2
                  go_wp2
                  go_quiet (fail)
                  go_wp2_with (go_at_call 36; refine (beyond_any _ _ (by omega) (by omega) _).mono ?_; rintro e w' ⟨rfl, rfl⟩)
                  exact ⟨⟨k + 1, s + f * n, q + nq, by omega, by simp, rfl, HE.out, HSB.out, by rw [show wr = _ from HWR.out, World.drewN_drewN]⟩, by simp [intOf]; omega⟩
      · obtain rfl : k = ls.length := by omega
        have HE : Hid (r = s) := by
          show _ = _
          rw [show r = _ from HR.out, costR, hmin, hcs]
          rfl
        clear HR hmin hF hL hcs
        go_wp2
        go_ret
        exact ⟨by rw [HE.out]; rfl, q, rfl⟩
end Go.Proofs.Ytkcikjbpnnplmaa
