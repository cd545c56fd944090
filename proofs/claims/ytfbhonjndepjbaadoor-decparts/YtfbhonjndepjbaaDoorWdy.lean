import Derived.Test.YtfbhonjndepjbaaDoorWdvM
import Derived.Test.YtfbhonjndepjbaaDoorPdvM
import Derived.Lib.ItoaNum
import Derived.Deep.CutBlock
import Derived.Deep.DeepCutAuto
/- math/bits.Div64 by any number. -/
namespace Go.Proofs.YtfbhonjndepjbaaDoor
open Go.RowKit

def natOf : Value → Nat | .int _ x => x.toNat | _ => 0
/-- The numbers of a division by a shifted divisor. -/
theorem norm {hi lo y s : Nat} (h0 : 0 < hi) (hy : hi < y) (hY : y < 18446744073709551616) (hl : lo < 18446744073709551616) (hs : 64 - Lib.bitLen y = s) :
    Lib.bitLen y ≤ 64 ∧ s < 64 ∧ 9223372036854775808 ≤ y * 2 ^ s ∧ y * 2 ^ s < 18446744073709551616 ∧ hi * 2 ^ s + lo / 2 ^ (64 - s) < y * 2 ^ s ∧ lo / 2 ^ (64 - s) < 2 ^ s ∧
    (hi * 2 ^ s + lo / 2 ^ (64 - s)) * 18446744073709551616 + lo * 2 ^ s % 18446744073709551616 = (hi * 18446744073709551616 + lo) * 2 ^ s := by
  have h64 : (2 : Nat) ^ 64 = 18446744073709551616 := by decide
  obtain ⟨_, b2, b1⟩ := Lib.bitLenAux_bounds 64 y (by omega) (by omega)
  have b1 : y < 2 ^ Lib.bitLen y := b1
  have b2 : 2 ^ (Lib.bitLen y - 1) ≤ y := b2
  obtain ⟨b, hb⟩ : ∃ b, Lib.bitLen y = b := ⟨_, rfl⟩
  rw [hb] at b1 b2 hs
  have hb0 : 1 ≤ b := by
    apply Nat.pos_of_ne_zero
    rintro rfl
    simp at b1
    omega
  have hb64 : b ≤ 64 := by
    apply Nat.le_of_lt_succ
    apply Nat.lt_of_not_le
    intro h
    have : 2 ^ 64 ≤ 2 ^ (b - 1) := Nat.pow_le_pow_right (by decide) (by omega)
    omega
  have hsb : s + b = 64 := by omega
  have e63 : 2 ^ (b - 1) * 2 ^ s = 9223372036854775808 := by
    rw [← Nat.pow_add, show b - 1 + s = 63 by omega]
  have e64 : 2 ^ b * 2 ^ s = 18446744073709551616 := by
    rw [← Nat.pow_add, show b + s = 64 by omega]
  rw [show 64 - s = b by omega]
  have hp : 0 < 2 ^ s := Nat.pow_pos (by decide)
  have hpb : 0 < 2 ^ b := Nat.pow_pos (by decide)
  have hlo : lo / 2 ^ b < 2 ^ s := by
    rw [Nat.div_lt_iff_lt_mul hpb, Nat.mul_comm, e64]
    exact hl
  refine ⟨by omega, by omega, ?_, ?_, ?_, hlo, ?_⟩
  · rw [← e63]
    exact Nat.mul_le_mul_right _ b2
  · rw [← e64]
    exact Nat.mul_lt_mul_of_pos_right b1 hp
  · have : (hi + 1) * 2 ^ s ≤ y * 2 ^ s := Nat.mul_le_mul_right _ hy
    rw [Nat.add_mul] at this
    omega
  · have hd := Nat.div_add_mod lo (2 ^ b)
    have hm : lo * 2 ^ s % 18446744073709551616 = lo % 2 ^ b * 2 ^ s := by
      rw [← e64, Nat.mul_mod_mul_right]
    rw [hm, ← e64]
    have h2 : lo * 2 ^ s = (2 ^ b * (lo / 2 ^ b) + lo % 2 ^ b) * 2 ^ s := by rw [hd]
    rw [Nat.add_mul, Nat.add_mul, h2, Nat.add_mul]
    have h3 : hi * 2 ^ s * (2 ^ b * 2 ^ s) = hi * (2 ^ b * 2 ^ s) * 2 ^ s := by
      rw [Nat.mul_assoc, Nat.mul_comm (2 ^ s) (2 ^ b * 2 ^ s), ← Nat.mul_assoc]
    have h4 : lo / 2 ^ b * (2 ^ b * 2 ^ s) = 2 ^ b * (lo / 2 ^ b) * 2 ^ s := by
      rw [← Nat.mul_assoc, Nat.mul_comm (lo / 2 ^ b)]
    rw [h3, h4, Nat.add_assoc]
theorem rest_wrap (Y U u : Nat) : IntKind.u64.wrap (IntKind.u64.wrap (IntKind.u64.wrap ((U : Int) * 4294967296) + (u : Int)) - IntKind.u64.wrap (((kq Y U u : Nat) : Int) * (Y : Int))) = (((kr Y U u) % 18446744073709551616 : Nat) : Int) := by
  rw [wrap3]
  have h : Y * kq Y U u + kr Y U u = U * 4294967296 + u := Nat.div_add_mod _ _
  rw [Nat.mul_comm] at h
  have h1 : (U : Int) * 4294967296 + (u : Int) - ((kq Y U u : Nat) : Int) * (Y : Int) = ((kr Y U u : Nat) : Int) := by
    rw [← Int.natCast_mul]
    omega
  rw [h1]
  exact (Int.natCast_emod _ _).symm
theorem wrap_mod (n : Nat) : IntKind.u64.wrap (n : Int) = ((n % 18446744073709551616 : Nat) : Int) := by
  rw [u64_wrap]
  exact (Int.natCast_emod _ _).symm

set_option maxRecDepth 100000 in
set_option maxHeartbeats 8000000 in
theorem div_great (hi lo y : Nat) (h0 : 0 < hi) (hy : hi < y) (hY : y < 18446744073709551616) (hl : lo < 18446744073709551616) (w : World) : Calls Tryd.prog 90 #[.int .u64 hi, .int .u64 lo, .int .u64 y] w fun r w' =>
    r = .returned (.tuple #[.int .u64 (((hi * 18446744073709551616 + lo) / y : Nat) : Int), .int .u64 (((hi * 18446744073709551616 + lo) % y : Nat) : Int)]) ∧ w' = w := by
  have hne : ((hi : Int) == 0) = false := by simp; omega
  have hye : ((y : Int) == 0) = false := by simp; omega
  have hlt : ¬ ((y : Int) ≤ (hi : Int)) := by omega
  obtain ⟨s, hs⟩ : ∃ s, 64 - Lib.bitLen y = s := ⟨_, rfl⟩
  obtain ⟨hbl, n1, n2, n3, n4, n5, n6⟩ := norm h0 hy hY hl hs
  have hs2 : (64 - (Lib.bitLen ((y : Int)).toNat : Int)) = (s : Int) := by rw [Int.toNat_natCast]; omega
  have HQ : Hid ((hi * 18446744073709551616 + lo) / y = (hi * 18446744073709551616 + lo) * 2 ^ s / (y * 2 ^ s)) := (Nat.mul_div_mul_right _ _ (Nat.pow_pos (by decide))).symm
  have HR : Hid (((hi * 18446744073709551616 + lo) % y) * 2 ^ s = (hi * 18446744073709551616 + lo) * 2 ^ s % (y * 2 ^ s)) := (Nat.mul_mod_mul_right _ _ _).symm
  rw [← n6] at HQ HR
  have F0 : Hid (IntKind.u64.wrap ((y : Int) * 2 ^ s) = ((y * 2 ^ s : Nat) : Int)) := by
    show _ = _
    rw [show (y : Int) * 2 ^ s = ((y * 2 ^ s : Nat) : Int) by simp, wrap_mod, Nat.mod_eq_of_lt n3]
  have hi64 : hi * 2 ^ s < 18446744073709551616 := Nat.lt_of_le_of_lt (Nat.le_add_right _ _) (Nat.lt_trans n4 n3)
  have lo64 : lo / 2 ^ (64 - s) < 18446744073709551616 := Nat.lt_of_le_of_lt (Nat.div_le_self _ _) hl
  have F1 : Hid (bits .or .u64 (IntKind.u64.wrap ((hi : Int) * 2 ^ s)) ((lo : Int) / 2 ^ (64 - s)) = ((hi * 2 ^ s + lo / 2 ^ (64 - s) : Nat) : Int)) := by
    show _ = _
    have e1 : IntKind.u64.wrap ((hi : Int) * 2 ^ s) = ((hi * 2 ^ s : Nat) : Int) := by
      rw [show (hi : Int) * 2 ^ s = ((hi * 2 ^ s : Nat) : Int) by simp, wrap_mod, Nat.mod_eq_of_lt hi64]
    have e2 : (lo : Int) / 2 ^ (64 - s) = ((lo / 2 ^ (64 - s) : Nat) : Int) := by simp
    rw [e1, e2, u64_or_nat _ _ hi64 lo64]
    congr 1
    rw [Nat.mul_comm hi]
    exact (Nat.two_pow_add_eq_or_of_lt n5 hi).symm
  have F2 : Hid (IntKind.u64.wrap ((lo : Int) * 2 ^ s) = ((lo * 2 ^ s % 18446744073709551616 : Nat) : Int)) := by
    show _ = _
    rw [show (lo : Int) * 2 ^ s = ((lo * 2 ^ s : Nat) : Int) by simp, wrap_mod]
  obtain ⟨Y, hYe⟩ : ∃ Y, y * 2 ^ s = Y := ⟨_, rfl⟩
  obtain ⟨U, hUe⟩ : ∃ U, hi * 2 ^ s + lo / 2 ^ (64 - s) = U := ⟨_, rfl⟩
  obtain ⟨L, hLe⟩ : ∃ L, lo * 2 ^ s % 18446744073709551616 = L := ⟨_, rfl⟩
  rw [hYe] at n2 n3 n4 F0 HQ HR
  rw [hUe] at n4 F1 HQ HR
  rw [hLe] at F2 HQ HR
  obtain ⟨y1, hy1⟩ : ∃ y1, Y / 4294967296 = y1 := ⟨_, rfl⟩
  obtain ⟨y0, hy0⟩ : ∃ y0, Y % 4294967296 = y0 := ⟨_, rfl⟩
  obtain ⟨u1, hu1⟩ : ∃ u1, L / 4294967296 = u1 := ⟨_, rfl⟩
  obtain ⟨u0, hu0⟩ : ∃ u0, L % 4294967296 = u0 := ⟨_, rfl⟩
  have hLB : L < 18446744073709551616 := by rw [← hLe]; exact Nat.mod_lt _ (by decide)
  have HL : Hid (U * 18446744073709551616 + L = (U * 4294967296 + u1) * 4294967296 + u0) := by
    show _ = _
    have h := Nat.div_add_mod L 4294967296
    rw [hu1, hu0] at h
    rw [← h, Nat.add_mul, Nat.mul_assoc, Nat.mul_comm 4294967296 u1, Nat.add_assoc]
  rw [HL.out] at HQ HR
  have f1 : Hid ((Y : Int) / 4294967296 = (y1 : Int)) := by show _ = _; omega
  have f2 : Hid (bits .and .u64 (Y : Int) 4294967295 = (y0 : Int)) := by show _ = _; rw [and_low Y n3, hy0]
  have f3 : Hid ((L : Int) / 4294967296 = (u1 : Int)) := by show _ = _; omega
  have f4 : Hid (bits .and .u64 (L : Int) 4294967295 = (u0 : Int)) := by show _ = _; rw [and_low L hLB, hu0]
  have HY1 : Hid (9223372036854775808 ≤ Y) := n2
  have HYD : Hid (Y / 4294967296 = y1) := hy1
  have HYM : Hid (Y % 4294967296 = y0) := hy0
  have HYB : Hid (2147483648 ≤ y1 ∧ y1 < 4294967296 ∧ y0 < 4294967296) := ⟨by omega, by omega, by omega⟩
  have HUB1 : Hid (u1 < 4294967296) := by show _ < _; omega
  have HUB0 : Hid (u0 < 4294967296) := by show _ < _; omega
  have hd1 := Nat.div_add_mod U y1
  have HT1 := trial n2 n3 n4 HUB1.out
  rw [hy1] at HT1
  obtain ⟨q1, hq1⟩ : ∃ q1, U / y1 = q1 := ⟨_, rfl⟩
  obtain ⟨r1, hr1⟩ : ∃ r1, U % y1 = r1 := ⟨_, rfl⟩
  have hr1l : r1 < y1 := by rw [← hr1]; exact Nat.mod_lt _ (by have := HYB.out; omega)
  rw [hq1] at hd1 HT1
  rw [hr1, Nat.mul_comm] at hd1
  have GQ1 : Hid (IntKind.u64.wrap ((U : Int) / (y1 : Int)) = (q1 : Int)) := by
    show _ = _
    rw [← hq1, ← Int.natCast_ediv, wrap_mod, Nat.mod_eq_of_lt]
    have : U / y1 ≤ U := Nat.div_le_self _ _
    omega
  have GR1 : Hid (IntKind.u64.wrap ((U : Int) - IntKind.u64.wrap ((q1 : Int) * (y1 : Int))) = (r1 : Int)) := by
    show _ = _
    rw [u64_wrap, u64_wrap, Int.sub_emod_emod, ← Int.natCast_mul]
    omega
  have HD1 : Hid (q1 * y1 + r1 = U ∧ r1 < 4294967296 ∧ kq Y U u1 ≤ q1 ∧ q1 ≤ 4294967297) := ⟨hd1, by have := HYB.out; omega, HT1.1, HT1.2⟩
  have HU : Hid (U < Y ∧ Y < 18446744073709551616) := ⟨n4, n3⟩
  have R1 := rest_wrap Y U u1
  obtain ⟨V, hV⟩ : ∃ V, kr Y U u1 = V := ⟨_, rfl⟩
  have hVl : V < Y := by rw [← hV]; exact Nat.mod_lt _ (by omega)
  rw [hV, Nat.mod_eq_of_lt (Nat.lt_trans hVl n3)] at R1
  have RF1 : Hid (IntKind.u64.wrap (IntKind.u64.wrap (IntKind.u64.wrap ((U : Int) * 4294967296) + (u1 : Int)) - IntKind.u64.wrap (((kq Y U u1 : Nat) : Int) * (Y : Int))) = (V : Int)) := R1
  have TD := two_digits (y := Y) (U := U) (u := u1) (v := u0) (by omega)
  rw [hV] at TD
  rw [← TD.1] at HQ
  rw [← TD.2] at HR
  have hd2 := Nat.div_add_mod V y1
  have HT2 := trial n2 n3 hVl HUB0.out
  rw [hy1] at HT2
  obtain ⟨q0, hq0⟩ : ∃ q0, V / y1 = q0 := ⟨_, rfl⟩
  obtain ⟨r0, hr0⟩ : ∃ r0, V % y1 = r0 := ⟨_, rfl⟩
  have hr0l : r0 < y1 := by rw [← hr0]; exact Nat.mod_lt _ (by have := HYB.out; omega)
  rw [hq0] at hd2 HT2
  rw [hr0, Nat.mul_comm] at hd2
  have GQ0 : Hid (IntKind.u64.wrap ((V : Int) / (y1 : Int)) = (q0 : Int)) := by
    show _ = _
    rw [← hq0, ← Int.natCast_ediv, wrap_mod, Nat.mod_eq_of_lt]
    have : V / y1 ≤ V := Nat.div_le_self _ _
    omega
  have GR0 : Hid (IntKind.u64.wrap ((V : Int) - IntKind.u64.wrap ((q0 : Int) * (y1 : Int))) = (r0 : Int)) := by
    show _ = _
    rw [u64_wrap, u64_wrap, Int.sub_emod_emod, ← Int.natCast_mul]
    omega
  have HD0 : Hid (q0 * y1 + r0 = V ∧ r0 < 4294967296 ∧ kq Y V u0 ≤ q0 ∧ q0 ≤ 4294967297) := ⟨hd2, by have := HYB.out; omega, HT2.1, HT2.2⟩
  have HV : Hid (V < Y) := hVl
  have R0 := rest_wrap Y V u0
  have hkl : kr Y V u0 < Y := Nat.mod_lt _ (by omega)
  rw [Nat.mod_eq_of_lt (Nat.lt_trans hkl n3)] at R0
  have RF0 : Hid (IntKind.u64.wrap (IntKind.u64.wrap (IntKind.u64.wrap ((V : Int) * 4294967296) + (u0 : Int)) - IntKind.u64.wrap (((kq Y V u0 : Nat) : Int) * (Y : Int))) = ((kr Y V u0 : Nat) : Int)) := R0
  have kl1 := kq_lt (u := u1) n4 HUB1.out
  have kl0 := kq_lt (u := u0) hVl HUB0.out
  have RQ : Hid (IntKind.u64.wrap (IntKind.u64.wrap (((kq Y U u1 : Nat) : Int) * 4294967296) + ((kq Y V u0 : Nat) : Int)) = (((hi * 18446744073709551616 + lo) / y : Nat) : Int)) := by
    show _ = _
    rw [HQ.out, u64_wrap, u64_wrap]
    omega
  have RR : Hid (((kr Y V u0 : Nat) : Int) / 2 ^ s = (((hi * 18446744073709551616 + lo) % y : Nat) : Int)) := by
    show _ = _
    rw [← HR.out]
    have h2 : (((hi * 18446744073709551616 + lo) % y * 2 ^ s : Nat) : Int) / 2 ^ s = (((hi * 18446744073709551616 + lo) % y * 2 ^ s / 2 ^ s : Nat) : Int) := by simp
    rw [h2, Nat.mul_div_cancel _ (Nat.pow_pos (by decide))]
  have hy1z : ((y1 : Int) == 0) = false := by have := HYB.out; simp; omega
  have hy1p : ¬ ((y1 : Int) = 0) := by have := HYB.out; omega
  have hs64 : s < 64 := n1
  clear HQ HR TD R0 R1 hkl kl1 kl0 hd1 hd2 HT1 HT2 hq1 hq0 hr1 hr0 hr1l hr0l hV hVl n1 n2 n3 n4 n5 n6 hYe hUe hLe hy1 hy0 hu1 hu0 hLB HL hs hbl h0 hy hi64 lo64
  go_enter Tryd.func90, Tryd.ntmps90
  go_wp2_with fail
  refine (Tryd.bits_LeadingZeros64 y _ (by omega) (by omega)).mono ?_
  rintro _ wz ⟨rfl, hwz⟩
  rw [hwz]
  clear hwz wz
  rw [hs2]
  clear hs2
  go_upto_region 9 with fail
  rw [F0.out]
  go_upto_region 11 with fail
  rw [f1.out, f2.out]
  go_upto_region 13 with fail
  rw [F1.out, F2.out]
  go_upto_region 15 with fail
  rw [f3.out, f4.out]
  go_upto_region 16 with fail
  rw [GQ1.out]
  go_upto_block 0 with fail
  rw [GR1.out]
  go_cut [15, 16] from 67 to 85 (fun v15 v16 wx => v15 = .int .u64 ((kq Y U u1 : Nat) : Int) ∧ (∃ r : Nat, v16 = .int .u64 (r : Int)) ∧ w = wx)
  case first =>
    go_wp2_with fail
    go_loopw [15, 16] (fun v15 v16 wr => ∃ q r : Nat, v15 = .int .u64 (q : Int) ∧ v16 = .int .u64 (r : Int) ∧ kq Y U u1 ≤ q ∧ q * y1 + r = U ∧ r < 4294967296 ∧ q ≤ 4294967297 ∧ w = wr) (fun v15 _ _ => natOf v15)
    case atStart => exact ⟨_, _, rfl, rfl, HD1.out.2.2.1, HD1.out.1, HD1.out.2.1, HD1.out.2.2.2, rfl⟩
    case round =>
      obtain ⟨q, r, rfl, rfl, hq1, hq2, hq3, hq4, rfl⟩ := hrel
      have TG := too_great (y := Y) (U := U) (u := u1) (q := q) (r := r) HY1.out (by rw [HYD.out]; exact hq2)
      rw [HYM.out] at TG
      by_cases hbig : kq Y U u1 < q
      · have hq0 : 1 ≤ q := by omega
        obtain ⟨p, rfl⟩ : ∃ p, q = p + 1 := ⟨q - 1, by omega⟩
        have m1 : IntKind.u64.wrap (((p + 1 : Nat) : Int) - 1) = (p : Int) := by rw [u64_wrap]; omega
        have m2 : IntKind.u64.wrap ((r : Int) + (y1 : Int)) = ((r + y1 : Nat) : Int) := by rw [u64_wrap]; have := HYB.out; omega
        have hrel2 : p * y1 + (r + y1) = U := by rw [Nat.add_mul, Nat.one_mul] at hq2; omega
        have hstep : Hid (∃ q r' : Nat, Value.int .u64 (p : Int) = .int .u64 (q : Int) ∧ Value.int .u64 ((r + y1 : Nat) : Int) = .int .u64 (r' : Int) ∧ kq Y U u1 ≤ q ∧ q * y1 + r' = U ∧ (r + y1 < 4294967296 → r' < 4294967296) ∧ q ≤ 4294967297) := ⟨p, r + y1, rfl, rfl, by omega, hrel2, id, by omega⟩
        have hb := broke (y := Y) (U := U) (u := u1) (q := p) (r := r + y1) HY1.out (by rw [HYD.out]; exact hrel2) (by omega)
        have hb2 : 4294967296 ≤ r + y1 → Hid (kq Y U u1 = p) := fun h => hb h hbig
        clear hb
        obtain ⟨ry, hry⟩ : ∃ ry, r + y1 = ry := ⟨_, rfl⟩
        rw [hry] at m2 hrel2 hb2 hstep
        obtain ⟨q, hqq⟩ : ∃ q, p + 1 = q := ⟨_, rfl⟩
        rw [hqq] at m1 TG hq4 hbig ⊢
        have hT2 := TG.1 hbig
        have w1 : q < 4294967296 → IntKind.u64.wrap ((q : Int) * (y0 : Int)) = ((q * y0 : Nat) : Int) := fun hlt => by
          rw [u64_wrap]
          have h1 : q * y0 ≤ 4294967296 * 4294967295 := Nat.mul_le_mul (by omega) (by have := HYB.out; omega)
          rw [← Int.natCast_mul]
          omega
        have w2 : IntKind.u64.wrap (4294967296 * (r : Int)) = ((4294967296 * r : Nat) : Int) := by rw [u64_wrap]; omega
        have w3 : IntKind.u64.wrap (((4294967296 * r : Nat) : Int) + (u1 : Int)) = ((4294967296 * r + u1 : Nat) : Int) := by rw [u64_wrap]; have := HUB1.out; omega
        obtain ⟨r2, hr2⟩ : ∃ r2, 4294967296 * r = r2 := ⟨_, rfl⟩
        rw [hr2] at w2 w3 hT2
        obtain ⟨r3, hr3⟩ : ∃ r3, r2 + u1 = r3 := ⟨_, rfl⟩
        rw [hr3] at w3 hT2
        have HPQ : Hid (p + 1 = q) := hqq
        have HR : Hid (r + y1 = ry) := hry
        clear hr2 hr3 TG hqq hry hq1 hq2 hrel2 hbig
        obtain ⟨x, hx⟩ : ∃ x : Int, (q : Int) = x := ⟨_, rfl⟩
        obtain ⟨z, hz⟩ : ∃ z : Int, (ry : Int) = z := ⟨_, rfl⟩
        rw [hx] at m1 w1
        rw [hz] at m2 hstep
        rw [hx]
        have hz2 : z < 4294967296 ↔ ry < 4294967296 := by omega
        by_cases hc : (4294967296 : Int) ≤ x
        · clear w1 hT2
          have hcD : decide ((4294967296 : Int) ≤ x) = true := decide_eq_true hc
          clear hc hq4
          by_cases hd : (4294967296 : Int) ≤ z
          · have hE := hb2 (by omega)
            have hdD : decide ((4294967296 : Int) ≤ z) = true := decide_eq_true hd
            have HZ : Hid ((ry : Int) = z) := hz
            clear hb2 hstep hd hq3 hz2 hz hx hq0
            go_wp2
            go_meet
            exact ⟨by rw [hE.out], ⟨ry, by rw [HZ.out]⟩, rfl⟩
          · have hd2 : ry < 4294967296 := by omega
            have hdD : decide ((4294967296 : Int) ≤ z) = false := decide_eq_false hd
            have HX : Hid ((q : Int) = x) := hx
            clear hb2 hd hq3 hz2 hz hx hq0
            go_wp2
            obtain ⟨q2, r', e1, e2, e3, e4, e5, e6⟩ := hstep.out
            refine ⟨⟨q2, r', e1, e2, e3, e4, e5 hd2, e6, trivial⟩, ?_⟩
            have := HPQ.out
            have := HX.out
            simp only [natOf]
            omega
        · have hw1 := w1 (by omega)
          obtain ⟨q5, hq5⟩ : ∃ q5, q * y0 = q5 := ⟨_, rfl⟩
          rw [hq5] at hw1 hT2
          have hg : (r3 : Int) < (q5 : Int) := by omega
          have hcD : decide ((4294967296 : Int) ≤ x) = false := decide_eq_false hc
          clear w1 hq5 hT2 hc hq4
          by_cases hd : (4294967296 : Int) ≤ z
          · have hE := hb2 (by omega)
            have hdD : decide ((4294967296 : Int) ≤ z) = true := decide_eq_true hd
            have HZ : Hid ((ry : Int) = z) := hz
            clear hb2 hstep hd hq3 hz2 hz hx hq0
            go_wp2
            go_meet
            exact ⟨by rw [hE.out], ⟨ry, by rw [HZ.out]⟩, rfl⟩
          · have hd2 : ry < 4294967296 := by omega
            have hdD : decide ((4294967296 : Int) ≤ z) = false := decide_eq_false hd
            have HX : Hid ((q : Int) = x) := hx
            clear hb2 hd hq3 hz2 hz hx hq0
            go_wp2
            obtain ⟨q2, r', e1, e2, e3, e4, e5, e6⟩ := hstep.out
            refine ⟨⟨q2, r', e1, e2, e3, e4, e5 hd2, e6, trivial⟩, ?_⟩
            have := HPQ.out
            have := HX.out
            simp only [natOf]
            omega
      · have hE : Hid (kq Y U u1 = q) := by show _ = _; omega
        have hql : q < 4294967296 := by rw [← hE.out]; exact kq_lt HU.out.1 HUB1.out
        have hnot : ¬ 4294967296 * r + u1 < q * y0 := fun h => hbig (TG.2 h)
        have w1 : IntKind.u64.wrap ((q : Int) * (y0 : Int)) = ((q * y0 : Nat) : Int) := by
          rw [u64_wrap]
          have h1 : q * y0 ≤ 4294967296 * 4294967295 := Nat.mul_le_mul (by omega) (by have := HYB.out; omega)
          rw [← Int.natCast_mul]
          omega
        have w2 : IntKind.u64.wrap (4294967296 * (r : Int)) = ((4294967296 * r : Nat) : Int) := by rw [u64_wrap]; omega
        have w3 : IntKind.u64.wrap (((4294967296 * r : Nat) : Int) + (u1 : Int)) = ((4294967296 * r + u1 : Nat) : Int) := by rw [u64_wrap]; have := HUB1.out; omega
        obtain ⟨r2, hr2⟩ : ∃ r2, 4294967296 * r = r2 := ⟨_, rfl⟩
        rw [hr2] at w2 w3 hnot
        obtain ⟨r3, hr3⟩ : ∃ r3, r2 + u1 = r3 := ⟨_, rfl⟩
        rw [hr3] at w3 hnot
        obtain ⟨q5, hq5⟩ : ∃ q5, q * y0 = q5 := ⟨_, rfl⟩
        rw [hq5] at w1 hnot
        have hc : ¬ (4294967296 : Int) ≤ (q : Int) := by omega
        have hg : ¬ (r3 : Int) < (q5 : Int) := by omega
        clear TG hq1 hq2 hq3 hq4 hbig hql hnot hr2 hr3 hq5
        go_wp2
        go_meet
        exact ⟨by rw [hE.out], ⟨_, rfl⟩, rfl⟩
  case rest =>
    obtain ⟨rfl, ⟨rr, rfl⟩, rfl⟩ := hcut
    go_upto_region 22 with fail
    rw [RF1.out]
    go_upto_region 23 with fail
    rw [GQ0.out]
    go_upto_block 2 with fail
    rw [GR0.out]
    go_cut [18, 16] from 102 to 120 (fun v15 v16 wx => v15 = .int .u64 ((kq Y V u0 : Nat) : Int) ∧ (∃ r : Nat, v16 = .int .u64 (r : Int)) ∧ w = wx)
    case first =>
      go_wp2_with fail
      go_loopw [18, 16] (fun v15 v16 wr => ∃ q r : Nat, v15 = .int .u64 (q : Int) ∧ v16 = .int .u64 (r : Int) ∧ kq Y V u0 ≤ q ∧ q * y1 + r = V ∧ r < 4294967296 ∧ q ≤ 4294967297 ∧ w = wr) (fun v15 _ _ => natOf v15)
      case atStart => exact ⟨_, _, rfl, rfl, HD0.out.2.2.1, HD0.out.1, HD0.out.2.1, HD0.out.2.2.2, rfl⟩
      case round =>
        obtain ⟨q, r, rfl, rfl, hq1, hq2, hq3, hq4, rfl⟩ := hrel
        have TG := too_great (y := Y) (U := V) (u := u0) (q := q) (r := r) HY1.out (by rw [HYD.out]; exact hq2)
        rw [HYM.out] at TG
        by_cases hbig : kq Y V u0 < q
        · have hq0 : 1 ≤ q := by omega
          obtain ⟨p, rfl⟩ : ∃ p, q = p + 1 := ⟨q - 1, by omega⟩
          have m1 : IntKind.u64.wrap (((p + 1 : Nat) : Int) - 1) = (p : Int) := by rw [u64_wrap]; omega
          have m2 : IntKind.u64.wrap ((r : Int) + (y1 : Int)) = ((r + y1 : Nat) : Int) := by rw [u64_wrap]; have := HYB.out; omega
          have hrel2 : p * y1 + (r + y1) = V := by rw [Nat.add_mul, Nat.one_mul] at hq2; omega
          have hstep : Hid (∃ q r' : Nat, Value.int .u64 (p : Int) = .int .u64 (q : Int) ∧ Value.int .u64 ((r + y1 : Nat) : Int) = .int .u64 (r' : Int) ∧ kq Y V u0 ≤ q ∧ q * y1 + r' = V ∧ (r + y1 < 4294967296 → r' < 4294967296) ∧ q ≤ 4294967297) := ⟨p, r + y1, rfl, rfl, by omega, hrel2, id, by omega⟩
          have hb := broke (y := Y) (U := V) (u := u0) (q := p) (r := r + y1) HY1.out (by rw [HYD.out]; exact hrel2) (by omega)
          have hb2 : 4294967296 ≤ r + y1 → Hid (kq Y V u0 = p) := fun h => hb h hbig
          clear hb
          obtain ⟨ry, hry⟩ : ∃ ry, r + y1 = ry := ⟨_, rfl⟩
          rw [hry] at m2 hrel2 hb2 hstep
          obtain ⟨q, hqq⟩ : ∃ q, p + 1 = q := ⟨_, rfl⟩
          rw [hqq] at m1 TG hq4 hbig ⊢
          have hT2 := TG.1 hbig
          have w1 : q < 4294967296 → IntKind.u64.wrap ((q : Int) * (y0 : Int)) = ((q * y0 : Nat) : Int) := fun hlt => by
            rw [u64_wrap]
            have h1 : q * y0 ≤ 4294967296 * 4294967295 := Nat.mul_le_mul (by omega) (by have := HYB.out; omega)
            rw [← Int.natCast_mul]
            omega
          have w2 : IntKind.u64.wrap (4294967296 * (r : Int)) = ((4294967296 * r : Nat) : Int) := by rw [u64_wrap]; omega
          have w3 : IntKind.u64.wrap (((4294967296 * r : Nat) : Int) + (u0 : Int)) = ((4294967296 * r + u0 : Nat) : Int) := by rw [u64_wrap]; have := HUB0.out; omega
          obtain ⟨r2, hr2⟩ : ∃ r2, 4294967296 * r = r2 := ⟨_, rfl⟩
          rw [hr2] at w2 w3 hT2
          obtain ⟨r3, hr3⟩ : ∃ r3, r2 + u0 = r3 := ⟨_, rfl⟩
          rw [hr3] at w3 hT2
          have HPQ : Hid (p + 1 = q) := hqq
          have HR : Hid (r + y1 = ry) := hry
          clear hr2 hr3 TG hqq hry hq1 hq2 hrel2 hbig
          obtain ⟨x, hx⟩ : ∃ x : Int, (q : Int) = x := ⟨_, rfl⟩
          obtain ⟨z, hz⟩ : ∃ z : Int, (ry : Int) = z := ⟨_, rfl⟩
          rw [hx] at m1 w1
          rw [hz] at m2 hstep
          rw [hx]
          have hz2 : z < 4294967296 ↔ ry < 4294967296 := by omega
          by_cases hc : (4294967296 : Int) ≤ x
          · clear w1 hT2
            have hcD : decide ((4294967296 : Int) ≤ x) = true := decide_eq_true hc
            clear hc hq4
            by_cases hd : (4294967296 : Int) ≤ z
            · have hE := hb2 (by omega)
              have hdD : decide ((4294967296 : Int) ≤ z) = true := decide_eq_true hd
              have HZ : Hid ((ry : Int) = z) := hz
              clear hb2 hstep hd hq3 hz2 hz hx hq0
              go_wp2
              go_meet
              exact ⟨by rw [hE.out], ⟨ry, by rw [HZ.out]⟩, rfl⟩
            · have hd2 : ry < 4294967296 := by omega
              have hdD : decide ((4294967296 : Int) ≤ z) = false := decide_eq_false hd
              have HX : Hid ((q : Int) = x) := hx
              clear hb2 hd hq3 hz2 hz hx hq0
              go_wp2
              obtain ⟨q2, r', e1, e2, e3, e4, e5, e6⟩ := hstep.out
              refine ⟨⟨q2, r', e1, e2, e3, e4, e5 hd2, e6, trivial⟩, ?_⟩
              have := HPQ.out
              have := HX.out
              simp only [natOf]
              omega
          · have hw1 := w1 (by omega)
            obtain ⟨q5, hq5⟩ : ∃ q5, q * y0 = q5 := ⟨_, rfl⟩
            rw [hq5] at hw1 hT2
            have hg : (r3 : Int) < (q5 : Int) := by omega
            have hcD : decide ((4294967296 : Int) ≤ x) = false := decide_eq_false hc
            clear w1 hq5 hT2 hc hq4
            by_cases hd : (4294967296 : Int) ≤ z
            · have hE := hb2 (by omega)
              have hdD : decide ((4294967296 : Int) ≤ z) = true := decide_eq_true hd
              have HZ : Hid ((ry : Int) = z) := hz
              clear hb2 hstep hd hq3 hz2 hz hx hq0
              go_wp2
              go_meet
              exact ⟨by rw [hE.out], ⟨ry, by rw [HZ.out]⟩, rfl⟩
            · have hd2 : ry < 4294967296 := by omega
              have hdD : decide ((4294967296 : Int) ≤ z) = false := decide_eq_false hd
              have HX : Hid ((q : Int) = x) := hx
              clear hb2 hd hq3 hz2 hz hx hq0
              go_wp2
              obtain ⟨q2, r', e1, e2, e3, e4, e5, e6⟩ := hstep.out
              refine ⟨⟨q2, r', e1, e2, e3, e4, e5 hd2, e6, trivial⟩, ?_⟩
              have := HPQ.out
              have := HX.out
              simp only [natOf]
              omega
        · have hE : Hid (kq Y V u0 = q) := by show _ = _; omega
          have hql : q < 4294967296 := by rw [← hE.out]; exact kq_lt HV.out HUB0.out
          have hnot : ¬ 4294967296 * r + u0 < q * y0 := fun h => hbig (TG.2 h)
          have w1 : IntKind.u64.wrap ((q : Int) * (y0 : Int)) = ((q * y0 : Nat) : Int) := by
            rw [u64_wrap]
            have h1 : q * y0 ≤ 4294967296 * 4294967295 := Nat.mul_le_mul (by omega) (by have := HYB.out; omega)
            rw [← Int.natCast_mul]
            omega
          have w2 : IntKind.u64.wrap (4294967296 * (r : Int)) = ((4294967296 * r : Nat) : Int) := by rw [u64_wrap]; omega
          have w3 : IntKind.u64.wrap (((4294967296 * r : Nat) : Int) + (u0 : Int)) = ((4294967296 * r + u0 : Nat) : Int) := by rw [u64_wrap]; have := HUB0.out; omega
          obtain ⟨r2, hr2⟩ : ∃ r2, 4294967296 * r = r2 := ⟨_, rfl⟩
          rw [hr2] at w2 w3 hnot
          obtain ⟨r3, hr3⟩ : ∃ r3, r2 + u0 = r3 := ⟨_, rfl⟩
          rw [hr3] at w3 hnot
          obtain ⟨q5, hq5⟩ : ∃ q5, q * y0 = q5 := ⟨_, rfl⟩
          rw [hq5] at w1 hnot
          have hc : ¬ (4294967296 : Int) ≤ (q : Int) := by omega
          have hg : ¬ (r3 : Int) < (q5 : Int) := by omega
          clear TG hq1 hq2 hq3 hq4 hbig hql hnot hr2 hr3 hq5
          go_wp2
          go_meet
          exact ⟨by rw [hE.out], ⟨_, rfl⟩, rfl⟩
    case rest =>
      obtain ⟨rfl, ⟨rr2, rfl⟩, rfl⟩ := hcut
      go_wp2
      rw [RQ.out, RF0.out, RR.out]
      exact bodyPost_ret (results_tmp2 rfl _ _ _) rfl ⟨rfl, rfl⟩
end Go.Proofs.YtfbhonjndepjbaaDoor
