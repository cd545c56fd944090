/- The document's Number and bare. -/
import Derived.Test.YtnblbakjfpfipaaGreatDoorRlt
namespace Go.Proofs.YtnblbakjfpfipaaGreatDoor
open Go.RowKit

theorem convR {W : World} {B : Nat} {x : Int} (h : Row W B 5 #[.int .u8 x]) : (convert 46 9 (.slice (some ⟨B, 0, none⟩) 1 1)).run Tryz.prog W = .ok (.string (bs [UInt8.ofNat x.toNat])) W := by
  have := run_convert_bytes_arg (P := Tryz.prog) W 46 5 Tryz.underlying46 Tryz.underlying5 B 0 1 1 [x] rfl (fun i hi => by
    obtain rfl : i = 0 := by omega
    exact h.cell rfl) 9 Tryz.underlying9
  exact this
set_option maxRecDepth 100000 in
set_option maxHeartbeats 1000000 in
theorem number_one (n : Nat) (h : n < 10) (w : World) : Calls Tryz.prog 54 #[.int .i64 (n : Int)] w fun e w' => e = .returned (.string (bs (Lib.decDigits n))) ∧ Below w.heap.size w w' := by
  have e : Lib.decDigits n = [UInt8.ofNat (48 + n)] := by unfold Lib.decDigits; rw [dif_pos h]
  have hc := conv1 w (48 + (n : Int))
  rw [show (48 + (n : Int)).toNat = 48 + n by omega, ← e] at hc
  have hb : Below w.heap.size w w := Below.refl _ _
  have t1 : (n : Int) < 10 := by omega
  clear e
  go_enter Tryz.func54, Tryz.ntmps54
  go_wp2
  go_ret
  exact ⟨rfl, hb.alloc (Nat.le_refl _) _⟩
set_option maxRecDepth 100000 in
set_option maxHeartbeats 2000000 in
theorem number_more (n : Nat) (h : ¬ n < 10) (hn : n < 1000) (hk : (Lib.decDigits (n / 10)).length ≤ 10) (hrec : ∀ w, Hid (Calls Tryz.prog 54 #[.int .i64 ((n / 10 : Nat) : Int)] w fun e w' => e = .returned (.string (bs (Lib.decDigits (n / 10)))) ∧ Below w.heap.size w w')) (w : World) :
    Calls Tryz.prog 54 #[.int .i64 (n : Int)] w fun e w' => e = .returned (.string (bs (Lib.decDigits n))) ∧ Below w.heap.size w w' := by
  have e : Lib.decDigits n = Lib.decDigits (n / 10) ++ [UInt8.ofNat (48 + n % 10)] := by rw [Lib.decDigits, dif_neg h]
  have HE : Hid (bs (Lib.decDigits n) = bs (Lib.decDigits (n / 10)) ++ bs [UInt8.ofNat (48 + n % 10)]) := by show _ = _; rw [bs_append, e]
  have t1 : ¬ ((n : Int) < 10) := by omega
  obtain ⟨q, hq⟩ : ∃ q : Nat, n / 10 = q := ⟨_, rfl⟩
  rw [hq] at hrec hk HE
  have Hq : Hid (IntKind.i64.wrap ((n : Int) / 10) = (q : Int)) := by show IntKind.i64.wrap _ = _; simp [IntKind.wrap, IntKind.bits, IntKind.signed]; omega
  obtain ⟨x, hx⟩ : ∃ x : Int, 48 + (n : Int) % 10 = x := ⟨_, rfl⟩
  have Hx : Hid (IntKind.i64.wrap (48 + (n : Int) % 10) = x) := by show IntKind.i64.wrap _ = _; rw [hx]; simp [IntKind.wrap, IntKind.bits, IntKind.signed]; omega
  have hx1 : 0 ≤ x ∧ x < 256 := by omega
  have Hn : Hid (UInt8.ofNat (48 + n % 10) = UInt8.ofNat x.toNat) := by show _ = _; rw [show 48 + n % 10 = x.toNat by omega]
  rw [Hn.out] at HE
  have k1 : (bs (Lib.decDigits q)).size ≤ 10 := by rw [bs_size]; exact hk
  have k2 : (bs [UInt8.ofNat x.toNat]).size = 1 := by rw [bs_size]; rfl
  have HV : Hid (∀ (W : World) (B : Nat), Row W B 5 #[.int .u8 x] → (convert 46 9 (.slice (some ⟨B, 0, none⟩) 1 1)).run Tryz.prog W = .ok (.string (bs [UInt8.ofNat x.toNat])) W) := fun W B h => convR h
  generalize Lib.decDigits q = dq at *
  generalize bs [UInt8.ofNat x.toNat] = sx at *
  clear hx hq e Hn hk h hn
  go_enter Tryz.func54, Tryz.ntmps54
  go_wp2_with fail
  refine wp_region_M (fun _ => True) (fun _ => false) 11 rfl (by kernel_rfl) ?_
  refine wpM_free 0 (v := .int .i64 (n : Int)) rfl (by kernel_rfl) (by kernel_rfl) rfl (fun _ _ _ h => h) rfl (by intro wx; go_simp <;> rfl) ?_
  refine wpM_free 1 (v := .int .i64 (q : Int)) rfl (by kernel_rfl) (by kernel_rfl) rfl (fun _ _ _ h => h) rfl (by intro wx; go_simp <;> first | exact Hq.out | rfl) ?_
  refine wpM_free 3 (v := .int .i64 (n : Int)) rfl (by kernel_rfl) (by kernel_rfl) rfl (fun _ _ _ h => h) rfl (by intro wx; go_simp <;> rfl) ?_
  refine wpM_free 4 (v := .int .i64 ((n : Int) % 10)) rfl (by kernel_rfl) (by kernel_rfl) rfl (fun _ _ _ h => h) rfl (by intro wx; go_simp <;> rfl) ?_
  refine wpM_free 5 (v := .int .i64 x) rfl (by kernel_rfl) (by kernel_rfl) rfl (fun _ _ _ h => h) rfl (by intro wx; go_simp <;> first | exact Hx.out | rfl) ?_
  refine wpM_free 6 (v := .int .u8 x) rfl (by kernel_rfl) (by kernel_rfl) rfl (fun _ _ _ h => h) rfl (by intro wx; go_simp <;> first | rfl | (simp [IntKind.wrap, IntKind.bits, IntKind.signed]; omega)) ?_
  have hw0 : Below w.heap.size w w.drew := (Below.refl _ w).drew
  refine wpM_two 2 7 rfl rfl (by kernel_rfl) rfl rfl ?_ ?_
  · go_wp2_with fail
    refine Calls.mono (hrec _).out ?_
    rintro _ w1 ⟨rfl, hb⟩
    have hB1 : Below w.heap.size w w1 := hw0.trans (hb.mono hw0.size)
    clear hb
    go_wp2_with fail
    refine ⟨(fun h => by simp at h), ?_⟩
    refine wpM_one 7 rfl (by kernel_rfl) rfl ?_
    go_wp2_with fail
    refine ⟨(fun h => by simp at h), ?_⟩
    have hcv := HV.out (w1.alloc (.cells #[.int .u8 x] 5)) w1.heap.size (Row.new w1 5 _)
    refine wpM_one 8 rfl (by kernel_rfl) rfl ?_
    go_wp2_with fail
    refine ⟨(fun h => by simp at h), ?_⟩
    refine wpM_one 9 rfl (by kernel_rfl) rfl ?_
    go_wp2_with fail
    refine ⟨(fun h => by simp at h), ?_⟩
    refine wpM_one 10 rfl (by kernel_rfl) rfl ?_
    go_wp2_with fail
    refine ⟨(fun h => by simp at h), ?_⟩
    refine wpM_done (by kernel_rfl) ?_
    go_wp2
    go_ret
    refine ⟨?_, below_allocS hB1 _⟩
    rw [HE.out]
    rfl
  · go_wp2_with fail
    refine ⟨(fun h => by simp at h), ?_⟩
    have hR0 := Row.new w 5 #[.int .u8 x]
    have hBa : Below w.heap.size w (w.alloc (.cells #[.int .u8 x] 5)).drew := ((Below.refl _ w).alloc (Nat.le_refl _) _).drew
    refine wpM_two 2 8 rfl rfl (by kernel_rfl) rfl rfl ?_ ?_
    · go_wp2_with fail
      refine Calls.mono (hrec _).out ?_
      rintro _ w1 ⟨rfl, hb⟩
      have hR1 : Row w1 w.heap.size 5 #[.int .u8 x] := Row.below (W := (w.alloc (.cells #[.int .u8 x] 5)).drew) hR0 hb (by simp)
      have hB1 : Below w.heap.size w w1 := hBa.trans (hb.mono hBa.size)
      clear hb
      go_wp2_with fail
      refine ⟨(fun h => by simp at h), ?_⟩
      have hcv := HV.out w1 w.heap.size hR1
      refine wpM_one 8 rfl (by kernel_rfl) rfl ?_
      go_wp2_with fail
      refine ⟨(fun h => by simp at h), ?_⟩
      refine wpM_one 9 rfl (by kernel_rfl) rfl ?_
      go_wp2_with fail
      refine ⟨(fun h => by simp at h), ?_⟩
      refine wpM_one 10 rfl (by kernel_rfl) rfl ?_
      go_wp2_with fail
      refine ⟨(fun h => by simp at h), ?_⟩
      refine wpM_done (by kernel_rfl) ?_
      go_wp2
      go_ret
      refine ⟨?_, hB1⟩
      rw [HE.out]
      rfl
    · have hcv := HV.out (w.alloc (.cells #[.int .u8 x] 5)) w.heap.size hR0
      have hcv2 := HV.out (w.alloc (.cells #[.int .u8 x] 5)).drew w.heap.size hR0
      go_wp2_with fail
      refine ⟨(fun h => by simp at h), ?_⟩
      refine wpM_one 2 rfl (by kernel_rfl) rfl ?_
      go_wp2_with fail
      refine Calls.mono (hrec _).out ?_
      rintro _ w1 ⟨rfl, hb⟩
      have hB1 : Below w.heap.size w w1 := hBa.trans (hb.mono hBa.size)
      clear hb
      go_wp2_with fail
      refine ⟨(fun h => by simp at h), ?_⟩
      refine wpM_one 9 rfl (by kernel_rfl) rfl ?_
      go_wp2_with fail
      refine ⟨(fun h => by simp at h), ?_⟩
      refine wpM_one 10 rfl (by kernel_rfl) rfl ?_
      go_wp2_with fail
      refine ⟨(fun h => by simp at h), ?_⟩
      refine wpM_done (by kernel_rfl) ?_
      go_wp2
      go_ret
      refine ⟨?_, hB1⟩
      rw [HE.out]
      rfl
theorem number_any (n : Nat) (h : n < 1000) (w : World) : Calls Tryz.prog 54 #[.int .i64 (n : Int)] w fun e w' => e = .returned (.string (bs (Lib.decDigits n))) ∧ Below w.heap.size w w' := by
  have l2 : ∀ m, m < 1000 → (Lib.decDigits m).length ≤ 10 := fun m hm => Nat.le_trans (decDigits_len m hm) (by omega)
  by_cases h1 : n < 10
  · exact number_one n h1 w
  refine number_more n h1 h (l2 _ (by omega)) (fun W => ?_) w
  by_cases h2 : n / 10 < 10
  · exact number_one (n / 10) h2 W
  refine number_more (n / 10) h2 (by omega) (l2 _ (by omega)) (fun V => ?_) W
  exact number_one (n / 10 / 10) (by omega) V
set_option maxRecDepth 100000 in
set_option maxHeartbeats 1000000 in
theorem bare_any (x : Rf) (h0 : 0 ≤ x.r) (h1 : x.r ≤ 512) (w : World) : Calls Tryz.prog 33 #[x.v] w fun e w' => e = .returned (.string (bs (placeL x.c x.r x.ac x.ar))) ∧ Below w.heap.size w w' := by
  obtain ⟨s, c, r, ac, ar⟩ := x
  simp only at h0 h1
  unfold Rf.v
  simp only
  obtain ⟨n, rfl⟩ : ∃ n : Nat, r = n := ⟨r.toNat, by omega⟩
  have HL : ∀ W, Hid _ := fun W => refLetters_any c W
  have HN : ∀ W, Hid _ := fun W => number_any n (by omega) W
  have ei : Lib.itoa (n : Int) = Lib.decDigits n := by unfold Lib.itoa; rw [if_neg (by omega)]; rfl
  have k3 : (bs (lettersS c)).size ≤ 2 := by rw [bs_size]; exact lettersS_len c
  have k4 : (bs (Lib.decDigits n)).size ≤ 3 := by rw [bs_size]; exact decDigits_len n (by omega)
  have k5 : (⟨#[36]⟩ : ByteArray).size = 1 := rfl
  have k6 : (⟨#[]⟩ : ByteArray).size = 0 := rfl
  have HQ : Hid (∀ a b : Bool, bs (placeL c (n : Int) a b) = bs (fixedL a) ++ bs (lettersS c) ++ bs (fixedL b) ++ bs (Lib.decDigits n)) := fun a b => by
    unfold placeL
    rw [ei, bs_append, bs_append, bs_append]
  rw [HQ.out ac ar]
  generalize bs (lettersS c) = s3 at *
  generalize bs (Lib.decDigits n) = s4 at *
  clear h0 h1 ei HQ
  have f1 : bs (fixedL true) = ⟨#[36]⟩ := rfl
  have f0 : bs (fixedL false) = ⟨#[]⟩ := rfl
  have he : (⟨#[]⟩ : ByteArray) ++ s3 = s3 := by
    have e1 : s3 = bs s3.data.toList := rfl
    rw [e1, show (⟨#[]⟩ : ByteArray) = bs [] from rfl, bs_append]; rfl
  have he2 : ∀ t : ByteArray, t ++ (⟨#[]⟩ : ByteArray) = t := fun t => by
    have e1 : t = bs t.data.toList := rfl
    rw [e1, show (⟨#[]⟩ : ByteArray) = bs [] from rfl, bs_append, List.append_nil]
  have HE : Hid _ := he
  have HE2 : Hid _ := he2
  clear he he2
  cases ac <;> cases ar
  all_goals
    first
      | rw [f1, f0]
      | rw [f0]
      | rw [f1]
    clear f1 f0
    go_enter Tryz.func33, Tryz.ntmps33
    go_wp2_with fail
    refine Calls.mono (HL _).out ?_
    rintro _ w1 ⟨rfl, b1⟩
    obtain ⟨hA, hB⟩ := one_row w w1 _ _ b1
    clear b1 HL
    obtain ⟨a0, a1, a2, a3, a4⟩ := hA.five
    go_wp2_with fail
    refine Calls.mono (HN _).out ?_
    rintro _ w2 ⟨rfl, b2⟩
    have hB2 := hB.trans (b2.mono hB.size)
    clear b2 HN hA hB a0 a1 a2 a3 a4
    go_wp2
    go_ret
    refine ⟨?_, hB2⟩
    try rw [HE2.out]
    rfl
end Go.Proofs.YtnblbakjfpfipaaGreatDoor
