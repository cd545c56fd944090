import Derived.Test.YtoncpcdepemlcaaGreatDoorTabM
import Derived.Test.YtoncpcdepemlcaaGreatDoorShf
import Derived.Deep.Cut
namespace Go.Proofs.YtoncpcdepemlcaaGreatDoor
set_option maxRecDepth 100000
set_option maxHeartbeats 1000000
open Go.RowKit
theorem div10_small (lo : Nat) (hl : lo < 18446744073709551616) (w : World) : Calls Tryz.prog 128 #[.int .u64 0, .int .u64 lo, .int .u64 10] w fun r w' =>
    r = .returned (.tuple #[.int .u64 ((lo / 10 : Nat) : Int), .int .u64 ((lo % 10 : Nat) : Int)]) ∧ ∃ q, w' = w.drewN q := by
  go_enter Tryz.func128, Tryz.ntmps128
  go_wp2
  go_quiet (fail)
  go_wp2
  exact bodyPost_ret (results_tmp2 rfl _ _ _) rfl ⟨rfl, _, rfl⟩
theorem or_parts (hi a:Nat) (h9:hi<10) (ha:a<1152921504606846976):bits .or .u64 ((hi:Int)*1152921504606846976) (a:Int)=((hi*1152921504606846976+a:Nat):Int):=by
 rw[u64_or _ _ (by omega) (by omega) (by omega) (by omega)];have e1:((hi:Int)*1152921504606846976).toNat=hi*1152921504606846976:=by omega
 rw[e1,Int.toNat_natCast];have:=Nat.two_pow_add_eq_or_of_lt (i:=60) (b:=a) (by simpa using ha) hi;rw[Nat.mul_comm] at this;have h2:(2:Nat) ^ 60=1152921504606846976:=by decide
 rw[h2] at this;rw[this]
theorem and_low (a:Nat) (ha:a<18446744073709551616):bits .and .u64 (a:Int) 4294967295=((a % 4294967296:Nat):Int):=by
 rw[u64_and _ _ (by omega) (by omega) (by omega) (by omega)];have e1:(4294967295:Int).toNat=2 ^ 32-1:=by decide
 rw[e1,Int.toNat_natCast,Nat.and_two_pow_sub_one_eq_mod]
theorem and_ten:bits .and .u64 11529215046068469760 4294967295=0:=by decide
theorem wrap_tdiv (U q r:Nat) (h:U=q*2684354560+r) (hr:r<2684354560) (hU:U<18446744073709551616):IntKind.u64.wrap ((U:Int).tdiv 2684354560)=(q:Int):=by
 rw[u64_wrap,Int.tdiv_eq_ediv_of_nonneg (by omega)];omega
theorem wrap_rest (U q r:Nat) (h:U=q*2684354560+r) (hr:r<2684354560):IntKind.u64.wrap ((U:Int)-IntKind.u64.wrap ((q:Int)*2684354560))=(r:Int):=by
 rw[u64_wrap,u64_wrap];omega
theorem wrap3 (x y z:Int):IntKind.u64.wrap (IntKind.u64.wrap (IntKind.u64.wrap x+y)-IntKind.u64.wrap z)=(x+y-z) % 18446744073709551616:=by
 rw[u64_wrap,u64_wrap,u64_wrap,u64_wrap,Int.emod_add_emod,Int.emod_sub_emod,Int.sub_emod_emod]
theorem low_step (U A1 q r:Nat) (h:U=q*2684354560+r) (hr:r<2684354560) (hA:A1<4294967296):IntKind.u64.wrap (IntKind.u64.wrap (IntKind.u64.wrap ((U:Int)*4294967296)+(A1:Int))-IntKind.u64.wrap ((q:Int)*11529215046068469760))=((r*4294967296+A1:Nat):Int):=by
 rw[wrap3];have h1:(U:Int)*4294967296+(A1:Int)-(q:Int)*11529215046068469760=((r*4294967296+A1:Nat):Int):=by omega
 rw[h1,Int.emod_eq_of_lt (by omega) (by omega)]
theorem wrap_low (lo:Nat):IntKind.u64.wrap ((lo:Int)*1152921504606846976)=((lo % 16*1152921504606846976:Nat):Int):=by
 rw[u64_wrap];omega
theorem div10_great (hi lo Q R : Nat) (h0 : 0 < hi) (h9 : hi < 10) (hl : lo < 18446744073709551616) (hQ : (hi * 18446744073709551616 + lo) / 10 = Q) (hR : (hi * 18446744073709551616 + lo) % 10 = R) (w : World) : Calls Tryz.prog 128 #[.int .u64 hi, .int .u64 lo, .int .u64 10] w fun r w' =>
    r = .returned (.tuple #[.int .u64 (Q : Int), .int .u64 (R : Int)]) ∧ w' = w := by
  have hne : ((hi : Int) == 0) = false := by simp; omega
  have hlt : ¬ ((10 : Int) ≤ (hi : Int)) := by omega
  obtain ⟨U, hU⟩ : ∃ U, hi * 1152921504606846976 + lo / 16 = U := ⟨_, rfl⟩
  obtain ⟨A, hA⟩ : ∃ A, lo % 16 * 1152921504606846976 = A := ⟨_, rfl⟩
  obtain ⟨A1, hA1⟩ : ∃ A1, A / 4294967296 = A1 := ⟨_, rfl⟩
  obtain ⟨q1, hq1⟩ : ∃ q1, U / 2684354560 = q1 := ⟨_, rfl⟩
  obtain ⟨r1, hr1⟩ : ∃ r1, U % 2684354560 = r1 := ⟨_, rfl⟩
  obtain ⟨U2, hU2⟩ : ∃ U2, r1 * 4294967296 + A1 = U2 := ⟨_, rfl⟩
  obtain ⟨q0, hq0⟩ : ∃ q0, U2 / 2684354560 = q0 := ⟨_, rfl⟩
  obtain ⟨r0, hr0⟩ : ∃ r0, U2 % 2684354560 = r0 := ⟨_, rfl⟩
  have f1 : Hid (bits .or .u64 ((hi : Int) * 1152921504606846976) ((lo : Int) / 16) = (U : Int)) := by
    show _ = _
    rw [← hU, ← or_parts hi (lo / 16) h9 (by omega)]; rfl
  have f2 : Hid (IntKind.u64.wrap ((lo : Int) * 1152921504606846976) = (A : Int)) := by
    show _ = _
    rw [← hA]; exact wrap_low lo
  have f3 : Hid (bits .and .u64 (A : Int) 4294967295 = 0) := by
    show _ = _
    rw [and_low A (by omega)]
    omega
  have f4 : Hid (IntKind.u64.wrap ((U : Int).tdiv 2684354560) = (q1 : Int)) := wrap_tdiv U q1 r1 (by omega) (by omega) (by omega)
  have f5 : Hid (IntKind.u64.wrap ((U : Int) - IntKind.u64.wrap ((q1 : Int) * 2684354560)) = (r1 : Int)) := wrap_rest U q1 r1 (by omega) (by omega)
  have f6 : Hid ((A : Int) / 4294967296 = (A1 : Int)) := by show _ = _; omega
  have b1 : decide ((4294967296 : Int) ≤ (q1 : Int)) = false := decide_eq_false (by omega)
  have b2 : decide ((4294967296 : Int) ≤ (q0 : Int)) = false := decide_eq_false (by omega)
  have f7 : Hid (IntKind.u64.wrap (IntKind.u64.wrap (IntKind.u64.wrap ((U : Int) * 4294967296) + (A1 : Int)) - IntKind.u64.wrap ((q1 : Int) * 11529215046068469760)) = (U2 : Int)) := by
    show _ = _
    rw [← hU2]; exact low_step U A1 q1 r1 (by omega) (by omega) (by omega)
  have f8 : Hid (IntKind.u64.wrap ((U2 : Int).tdiv 2684354560) = (q0 : Int)) := wrap_tdiv U2 q0 r0 (by omega) (by omega) (by omega)
  have f9 : Hid (IntKind.u64.wrap ((U2 : Int) - IntKind.u64.wrap ((q0 : Int) * 2684354560)) = (r0 : Int)) := wrap_rest U2 q0 r0 (by omega) (by omega)
  have f10 : Hid (IntKind.u64.wrap (IntKind.u64.wrap ((q1 : Int) * 4294967296) + (q0 : Int)) = (Q : Int)) := by
    show _ = _
    rw [u64_wrap, u64_wrap]; omega
  have f11 : Hid (IntKind.u64.wrap (IntKind.u64.wrap (IntKind.u64.wrap ((U2 : Int) * 4294967296)) - IntKind.u64.wrap ((q0 : Int) * 11529215046068469760)) / 1152921504606846976 = (R : Int)) := by
    show _ = _
    have h := low_step U2 0 q0 r0 (by omega) (by omega) (by omega)
    rw [show ((0 : Nat) : Int) = 0 from rfl, Int.add_zero] at h
    rw [h]; omega
  have bA : A1 < 4294967296 := by omega
  have br1 : r1 < 2684354560 := by omega
  have br0 : r0 < 2684354560 := by omega
  clear hU hA hA1 hq1 hr1 hU2 hq0 hr0 hQ hR
  obtain ⟨z, hz⟩ : ∃ z : Nat, z = 0 := ⟨0, rfl⟩
  have FZ : Hid (bits .and .u64 11529215046068469760 4294967295 = (z : Int)) := by show _ = _; rw [hz]; exact and_ten
  have HZ : Hid (z = 0) := hz
  clear hz
  go_enter Tryz.func128, Tryz.ntmps128
  go_wp2_with fail
  refine (Tryz.bits_LeadingZeros64 10 _ (by omega) (by omega)).mono ?_
  rintro _ wz ⟨rfl, hwz⟩
  rw [hwz]
  clear hwz wz
  have hb : (64 - (Lib.bitLen (10 : Int).toNat : Int)) = 60 := by kernel_rfl
  rw [hb]
  go_wp2
  rw [f1.out, f2.out, f3.out, f4.out, f5.out, f6.out, FZ.out]
  obtain ⟨s1, g1⟩ : ∃ s1 : Nat, IntKind.u64.wrap (4294967296 * (r1 : Int)) = (s1 : Int) := ⟨(IntKind.u64.wrap (4294967296 * (r1 : Int))).toNat, by rw [u64_wrap]; omega⟩
  obtain ⟨s2, g2⟩ : ∃ s2 : Nat, IntKind.u64.wrap ((s1 : Int) + (A1 : Int)) = (s2 : Int) := ⟨(IntKind.u64.wrap ((s1 : Int) + (A1 : Int))).toNat, by rw [u64_wrap]; omega⟩
  have g3 : ¬ ((s2 : Int) < (z : Int)) := by rw [HZ.out]; omega
  have g4 : IntKind.u64.wrap ((q1 : Int) * (z : Int)) = (z : Int) := by rw [HZ.out]; simp [u64_wrap]
  refine wp_loop_once ?_
  clear h0 h9 hl hne hlt
  go_wp2
  rw [f7.out, f8.out, f9.out]
  clear g1 g2 g3 g4
  obtain ⟨t1, g1⟩ : ∃ s1 : Nat, IntKind.u64.wrap (4294967296 * (r0 : Int)) = (s1 : Int) := ⟨(IntKind.u64.wrap (4294967296 * (r0 : Int))).toNat, by rw [u64_wrap]; omega⟩
  have g2 : IntKind.u64.wrap (t1 : Int) = (t1 : Int) := by rw [u64_wrap] at *; omega
  have g3 : ¬ ((t1 : Int) < (z : Int)) := by rw [HZ.out]; omega
  have g4 : IntKind.u64.wrap ((q0 : Int) * (z : Int)) = (z : Int) := by rw [HZ.out]; simp [u64_wrap]
  refine wp_loop_once ?_
  go_wp2
  rw [f10.out, f11.out]
  exact bodyPost_ret (results_tmp2 rfl _ _ _) rfl ⟨rfl, rfl⟩
theorem div10_any (hi lo : Nat) (h9 : hi < 10) (hl : lo < 18446744073709551616) (w : World) : Calls Tryz.prog 128 #[.int .u64 hi, .int .u64 lo, .int .u64 10] w fun r w' =>
    r = .returned (.tuple #[.int .u64 (((hi * 18446744073709551616 + lo) / 10 : Nat) : Int), .int .u64 (((hi * 18446744073709551616 + lo) % 10 : Nat) : Int)]) ∧ ∃ q, w' = w.drewN q := by
  by_cases h0 : hi = 0
  · subst h0
    refine (div10_small lo hl w).mono ?_
    rintro r w' ⟨rfl, h⟩
    exact ⟨by rw [Nat.zero_mul, Nat.zero_add], h⟩
  · refine (div10_great hi lo _ _ (by omega) h9 hl rfl rfl w).mono ?_
    rintro r w' ⟨rfl, rfl⟩
    exact ⟨rfl, 0, rfl⟩
end Go.Proofs.YtoncpcdepemlcaaGreatDoor
