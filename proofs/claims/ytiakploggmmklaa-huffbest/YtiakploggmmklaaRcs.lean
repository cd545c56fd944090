/- The document's Cost. -/
import Derived.Test.YtiakploggmmklaaCst
namespace Go.Proofs.Ytiakploggmmklaa
open Go.RowKit

set_option maxRecDepth 100000 in
set_option maxHeartbeats 4000000 in
theorem refCost_any (S : Nat → Prop) (a b : Option Addr) (ca cb : Nat) (fs ls : List Int) (w : World) (hF : IntsIn S w (.slice a fs.length ca) fs) (hL : IntsIn S w (.slice b ls.length cb) ls) (hlf : fs.length ≤ 140737488355328) (_hll : ls.length ≤ 140737488355328) (r : Int) (HR : Hid (r = costR fs ls)) :
    Calls Try.prog 7 #[.slice a fs.length ca, .slice b ls.length cb] w fun e w' => e = .returned (.int .i64 r) ∧ ∃ q, w' = w.drewN q := by
  obtain ⟨M, hM⟩ : ∃ M, M = min fs.length ls.length := ⟨_, rfl⟩
  have HM : Hid _ := hM
  have hM1 : M ≤ fs.length := by omega
  have hM2 : M ≤ ls.length := by omega
  have hM3 : M = fs.length ∨ M = ls.length := by omega
  have HM3 : Hid _ := hM3
  clear hM hM3
  go_enter Try.func7, Try.ntmps7
  go_wp2
  go_loopw [5, 6] (fun v5 v6 wr => ∃ (k : Nat) (s : Int) (q : Nat), k ≤ M ∧ v6 = .int .i64 k ∧ v5 = .int .i64 s ∧ costN fs ls k = some s ∧ (-2305843009213693952 ≤ s ∧ s ≤ 2305843009213693952) ∧ wr = w.drewN q)
    (fun _ v6 _ => M - (intOf v6).toNat)
  case atStart => exact ⟨0, 0, 0, Nat.zero_le _, rfl, rfl, rfl, by omega, rfl⟩
  case round =>
    obtain ⟨k, s, q, hk, rfl, rfl, hcs, hsb, hwr⟩ := hrel
    by_cases hlt : k < M
    · obtain ⟨bf, of, rfl, _, ef⟩ := hF.at k (by omega)
      obtain ⟨bl, ol, rfl, _, el⟩ := hL.at k (by omega)
      have cf : wr.cell? ⟨bf, of + k, none⟩ = some (.int .i64 (fs[k]?.getD 0)) := by rw [hwr]; exact ef
      have cl : wr.cell? ⟨bl, ol + k, none⟩ = some (.int .i64 (ls[k]?.getD 0)) := by rw [hwr]; exact el
      have HST : Hid (costN fs ls (k + 1) = stepC s (fs[k]?.getD 0) (ls[k]?.getD 0)) := by
        show _ = _
        rw [costN, hcs]
        rfl
      have HWR : Hid _ := hwr
      have k1 : (k : Int) < fs.length := by omega
      have k2 : (k : Int) < ls.length := by omega
      clear ef el hwr hF hL hcs
      generalize fs[k]?.getD 0 = f at cf HST
      generalize ls[k]?.getD 0 = n at cl HST
      have HEND : Hid (costN fs ls (k + 1) = none → r = 4611686018427387904) := fun h => by
        rw [show r = _ from HR.out, costR, ← show M = _ from HM.out, costN_none fs ls (k + 1) M hlt h]
        rfl
      have HSB : Hid (-2305843009213693952 ≤ s ∧ s ≤ 2305843009213693952) := hsb
      clear HR
      by_cases hf0 : f = 0
      · have t1 : (f == 0) = true := by simpa using hf0
        have HE : Hid (costN fs ls (k + 1) = some s) := by show _ = _; rw [HST.out, stepC, if_pos (.inl hf0)]
        clear HST HEND hf0
        go_wp2
        go_quiet (fail)
        go_wp2
        exact ⟨⟨k + 1, s, q + nq, by omega, by simp, rfl, HE.out, HSB.out, by rw [show wr = _ from HWR.out, World.drewN_drewN]⟩, by simp [intOf]; omega⟩
      · have t1 : (f == 0) = false := by simpa using hf0
        by_cases hn0 : n = 0
        · have t2 : (n == 0) = true := by simpa using hn0
          have HE : Hid (costN fs ls (k + 1) = some s) := by show _ = _; rw [HST.out, stepC, if_pos (.inr hn0)]
          clear HST HEND hf0 hn0
          go_wp2
          go_quiet (fail)
          go_wp2
          exact ⟨⟨k + 1, s, q + nq, by omega, by simp, rfl, HE.out, HSB.out, by rw [show wr = _ from HWR.out, World.drewN_drewN]⟩, by simp [intOf]; omega⟩
        · have t2 : (n == 0) = false := by simpa using hn0
          cases hbf : big f 1099511627776 with
          | true =>
            have HE : Hid (r = 4611686018427387904) := HEND.out (by rw [HST.out, stepC, if_neg (by simp [hf0, hn0]), hbf]; rfl)
            have hor : 1099511627776 < f ∨ (¬ 1099511627776 < f ∧ f < -1099511627776) := by simp [big] at hbf; omega
            clear HST HEND hf0 hn0 hbf
            rcases hor with h | ⟨h, h'⟩
            all_goals
              go_wp2
              go_quiet (fail)
              go_wp2
              go_ret
              exact ⟨by rw [HE.out]; rfl, q + nq, by rw [show wr = _ from HWR.out, World.drewN_drewN]⟩
          | false =>
            have hf1 : ¬ 1099511627776 < f := by simp [big] at hbf; omega
            have hf2 : ¬ f < -1099511627776 := by simp [big] at hbf; omega
            cases hbn : big n 1048576 with
            | true =>
              have HE : Hid (r = 4611686018427387904) := HEND.out (by rw [HST.out, stepC, if_neg (by simp [hf0, hn0]), hbf, hbn]; rfl)
              have hor : 1048576 < n ∨ (¬ 1048576 < n ∧ n < -1048576) := by simp [big] at hbn; omega
              clear HST HEND hf0 hn0 hbn hbf
              rcases hor with h | ⟨h, h'⟩
              all_goals
                go_wp2
                go_quiet (fail)
                go_wp2
                go_ret
                exact ⟨by rw [HE.out]; rfl, q + nq, by rw [show wr = _ from HWR.out, World.drewN_drewN]⟩
            | false =>
              have hn1 : ¬ 1048576 < n := by simp [big] at hbn; omega
              have hn2 : ¬ n < -1048576 := by simp [big] at hbn; omega
              have hmb := mul_bd f n hbf hbn
              have hst2 : stepC s f n = if big (s + f * n) 2305843009213693952 then none else some (s + f * n) := by rw [stepC, if_neg (by simp [hf0, hn0]), hbf, hbn]; rfl
              have hw1 : IntKind.i64.wrap (f * n) = f * n := by rw [IntKind.wrap_i64]; generalize f * n = t at hmb ⊢; omega
              have hw2 : IntKind.i64.wrap (s + f * n) = s + f * n := by rw [IntKind.wrap_i64]; generalize f * n = t at hmb ⊢; omega
              have hw3 : wrap64 (f * n) = f * n := wrap64_id _ (by omega)
              have hw4 : wrap64 (s + f * n) = s + f * n := wrap64_id _ (by omega)
              have HS2 : Hid _ := hst2
              clear hst2 hmb hf0 hn0
              cases hbs : big (s + f * n) 2305843009213693952 with
              | true =>
                have HE : Hid (r = 4611686018427387904) := HEND.out (by rw [HST.out, HS2.out, hbs]; rfl)
                have hor : 2305843009213693952 < s + f * n ∨ (¬ 2305843009213693952 < s + f * n ∧ s + f * n < -2305843009213693952) := by
                  have h := hbs
                  generalize s + f * n = t at h ⊢
                  simp [big] at h
                  omega
                clear HST HEND HS2 hbs hbf hbn
                rcases hor with h | ⟨h, h'⟩
                all_goals
                  go_wp2
                  go_quiet (fail)
                  go_wp2
                  go_ret
                  exact ⟨by rw [HE.out]; rfl, q + nq, by rw [show wr = _ from HWR.out, World.drewN_drewN]⟩
              | false =>
                have HE : Hid (costN fs ls (k + 1) = some (s + f * n)) := by show _ = _; rw [HST.out, HS2.out, hbs]; rfl
                have hs1 : ¬ 2305843009213693952 < s + f * n := by
                  have h := hbs
                  generalize s + f * n = t at h ⊢
                  simp [big] at h
                  omega
                have hs2 : ¬ s + f * n < -2305843009213693952 := by
                  have h := hbs
                  generalize s + f * n = t at h ⊢
                  simp [big] at h
                  omega
                have HSB : Hid (-2305843009213693952 ≤ s + f * n ∧ s + f * n ≤ 2305843009213693952) := by
                  show _ ∧ _
                  generalize s + f * n = t at hs1 hs2 ⊢
                  omega
                clear HST HEND HS2 hbs hbf hbn
                go_wp2
                go_quiet (fail)
                go_wp2
                exact ⟨⟨k + 1, s + f * n, q + nq, by omega, by simp, rfl, HE.out, HSB.out, by rw [show wr = _ from HWR.out, World.drewN_drewN]⟩, by simp [intOf]; omega⟩
    · obtain rfl : k = M := by omega
      have HE : Hid (r = s) := by
        show _ = _
        rw [show r = _ from HR.out, costR, ← show k = _ from HM.out, hcs]
        rfl
      have hcase : ¬ (k : Int) < fs.length ∨ ((k : Int) < fs.length ∧ ¬ (k : Int) < ls.length) := by have := HM3.out; omega
      clear HR hF hL hcs hk hlt
      rcases hcase with h | ⟨h, h'⟩
      all_goals
        go_wp2
        go_ret
        exact ⟨by rw [HE.out]; rfl, q, rfl⟩
end Go.Proofs.Ytiakploggmmklaa
