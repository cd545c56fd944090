/- BitsBack is proved: whatever was put is taken again, and reversing twice gives the bits back, for every script; no condition. -/
import Derived.Test.YtmebbmofegjgnaaAlive
import Derived.Test.YtmebbmofegjgnaaPk
import Derived.Test.YtmebbmofegjgnaaOps
import Derived.Test.YtmebbmofegjgnaaRd
import Derived.Deep.RegionWith
namespace Go.Proofs.Ytmebbmofegjgnaa.bitsBack
open Go.ChangeShapes Go.WideShapes Go.ChangeAt Go.RowKit

/-- The bits that a step writes. -/
def opBits (r : OpR) : List Bool := if 0 ≤ r.n ∧ r.n ≤ 32 then lowBits r.v.toNat r.n.toNat else []
def bitsTo (ops : List OpR) (k : Nat) : List Bool := (ops.take k).flatMap opBits
theorem opBits_le (r : OpR) : (opBits r).length ≤ 32 := by
  unfold opBits
  split
  · rw [lowBits_length]; omega
  · simp
theorem bitsTo_succ {ops : List OpR} {k : Nat} {r : OpR} (h : ops[k]? = some r) : bitsTo ops (k + 1) = bitsTo ops k ++ opBits r := by
  unfold bitsTo
  obtain ⟨hlt, he⟩ := List.getElem?_eq_some_iff.1 h
  rw [List.take_succ_eq_append_getElem hlt, List.flatMap_append, he]
  simp
theorem bitsTo_le (ops : List OpR) (k : Nat) : (bitsTo ops k).length ≤ 32 * k := by
  induction k with
  | zero => simp [bitsTo]
  | succ k ih =>
    by_cases hk : k < ops.length
    · rw [bitsTo_succ (List.getElem?_eq_getElem hk), List.length_append]
      have := opBits_le ops[k]
      omega
    · have e : bitsTo ops (k + 1) = bitsTo ops k := by unfold bitsTo; rw [List.take_of_length_le (by omega), List.take_of_length_le (by omega)]
      rw [e]; omega

/-- The bits of step k stand behind those of the steps ahead of it. -/
theorem bits_at {ops : List OpR} {k : Nat} {r : OpR} (h : ops[k]? = some r) (j : Nat) (hj : j < (opBits r).length) : (bitsTo ops ops.length)[(bitsTo ops k).length + j]? = (opBits r)[j]? := by
  obtain ⟨hlt, he⟩ := List.getElem?_eq_some_iff.1 h
  have e : bitsTo ops ops.length = bitsTo ops k ++ (opBits r ++ (ops.drop (k + 1)).flatMap opBits) := by
    have e1 : ops = ops.take k ++ (r :: ops.drop (k + 1)) := by
      rw [← he, List.getElem_cons_drop, List.take_append_drop]
    unfold bitsTo
    rw [List.take_length]
    conv => lhs; rw [e1]
    rw [List.flatMap_append, List.flatMap_cons]
  rw [e, List.getElem?_append_right (by omega), show (bitsTo ops k).length + j - (bitsTo ops k).length = j by omega, List.getElem?_append_left hj]
theorem bitsTo_mono {ops : List OpR} {k : Nat} {r : OpR} (h : ops[k]? = some r) : (bitsTo ops k).length + (opBits r).length ≤ (bitsTo ops ops.length).length := by
  obtain ⟨hlt, he⟩ := List.getElem?_eq_some_iff.1 h
  have e1 : ops = ops.take k ++ (r :: ops.drop (k + 1)) := by
    rw [← he, List.getElem_cons_drop, List.take_append_drop]
  have e : bitsTo ops ops.length = bitsTo ops k ++ (opBits r ++ (ops.drop (k + 1)).flatMap opBits) := by
    unfold bitsTo
    rw [List.take_length]
    conv => lhs; rw [e1]
    rw [List.flatMap_append, List.flatMap_cons]
  rw [e]
  simp only [List.length_append]
  omega

/-- One Put of the script, whatever its numbers. -/
theorem put_op (T : Nat → Prop) (R : Nat) (ys : List Int) (bs : List Bool) (r : OpR) (w : World) (hW : IsWr T w R ys bs.length) (hp : Packed ys bs) (hT : ∀ k, T k → k < w.heap.size) (hTR : ¬ T R) (hsz : bs.length + 32 < 1125899906842624)
    (v0 : 0 ≤ r.v) (v1 : r.v < 4294967296) :
    Calls Try.prog 20 #[.pointer (some ⟨R, 0, none⟩), .int .u32 r.v, .int .i64 r.n] w fun e w' => ∃ x ys', e = .returned (.int .i64 x) ∧ IsWr T w' R ys' (bs ++ opBits r).length ∧ Packed ys' (bs ++ opBits r) ∧ Kept T w w' := by
  by_cases hn : 0 ≤ r.n ∧ r.n ≤ 32
  · have eb : opBits r = lowBits r.v.toNat r.n.toNat := by unfold opBits; rw [if_pos hn]
    have h := put_any T R ys bs.length r.v.toNat r.n.toNat w hW hT hTR hp.len hsz (by omega) (by omega)
    rw [Int.toNat_of_nonneg v0, Int.toNat_of_nonneg hn.1] at h
    refine h.mono ?_
    rintro e w' ⟨rfl, hI, hK⟩
    refine ⟨0, _, rfl, ?_, eb ▸ pushN_packed hp _ _, hK⟩
    rw [eb, List.length_append, lowBits_length]
    exact hI
  · have eb : opBits r = [] := by unfold opBits; rw [if_neg hn]
    refine (put_arg R r.v r.n w (by omega)).mono ?_
    rintro e w' ⟨rfl, rfl⟩
    rw [eb, List.append_nil]
    exact ⟨1, ys, rfl, hW, hp, Kept.refl _ _⟩

theorem mask_low (V N : Nat) (hV : V < 4294967296) (hN : N < 32) : bits .and .u32 (V : Int) ((2 ^ N - 1) % 4294967296) = ((V % 2 ^ N : Nat) : Int) := by
  have h2 : (2 : Nat) ^ N ≤ 2 ^ 31 := Nat.pow_le_pow_right (by omega) (by omega)
  have h1 : 1 ≤ (2 : Nat) ^ N := Nat.one_le_two_pow
  have e : ((2 : Int) ^ N - 1) % 4294967296 = ((2 ^ N - 1 : Nat) : Int) := by
    have : ((2 ^ N : Nat) : Int) = (2 : Int) ^ N := by simp
    omega
  rw [e]
  have hand : V &&& (2 ^ N - 1) = V % 2 ^ N := Nat.and_two_pow_sub_one_eq_mod V N
  have hm : 2 ^ N - 1 < 4294967296 := by omega
  rw [u32_and _ _ (by omega) (by omega) (by omega) (by omega), Int.toNat_natCast, Int.toNat_natCast, hand]
theorem rev_two (X N : Nat) (w : World) (hX : X < 2 ^ N) (hN : N ≤ 32) :
    (Calls Try.prog 29 #[.int .u32 X, .int .i64 N] w fun e w' => e = .returned (.int .u32 (revN X N)) ∧ w' = w) ∧
    (Calls Try.prog 29 #[.int .u32 (revN X N), .int .i64 N] w fun e w' => e = .returned (.int .u32 X) ∧ w' = w) := by
  have h2 : (2 : Nat) ^ N ≤ 2 ^ 32 := Nat.pow_le_pow_right (by omega) hN
  have em : min ((N : Int)).toNat 32 = N := by omega
  have a1 := rev_any X N (by omega) (by omega) (by omega) w
  have a2 := rev_any (revN X N) N (revN_lt32 X N hN) (by omega) (by omega) w
  rw [em] at a1 a2
  rw [rev_twice, Nat.mod_eq_of_lt hX] at a2
  exact ⟨a1, a2⟩

set_option maxRecDepth 100000 in
set_option maxHeartbeats 2000000 in
theorem walk (a : Option Addr) (cap : Nat) (ops : List OpR) (w : World) (hl : ops.length ≤ 2932031007402) (hO : OpsIn (· < w.heap.size) w a ops) :
    Calls Try.prog 6 #[.slice a ops.length cap] w fun e w' => e = .returned (.bool true) ∧ Below w.heap.size w w' := by
  go_enter Try.func6, Try.ntmps6
  go_wp2_with fail
  refine (newWriter_any w).mono ?_
  rintro e w1 ⟨rfl, hw1⟩
  have hT1 : Two w1 w.heap.size 63 (.slice none 0 0) (.int .i64 0) := hw1 ▸ Two.new w _ _ _
  have hs1 : w1.heap.size = w.heap.size + 1 := by rw [hw1]; simp
  have hB1 : Below w.heap.size w w1 := hw1 ▸ (Below.refl _ w).alloc (Nat.le_refl _) _
  have HS1 : Hid (w1.heap.size = w.heap.size + 1) := hs1
  clear hs1 hw1
  go_wp2_with fail
  refine (alive_any w1).mono ?_
  rintro e w2 ⟨rfl, hB2⟩
  have hT2 : Two w2 w.heap.size 63 (.slice none 0 0) (.int .i64 0) := (hB2.block _ (by have := HS1.out; omega)).trans hT1
  have hs2 : w.heap.size < w2.heap.size := by have := HS1.out; have := hB2.size; omega
  have hK2 : Kept (· < w.heap.size) w w2 := (Kept.of_below hB1 (fun _ h => h)).trans (Kept.of_below hB2 (fun k hk => by have := HS1.out; omega))
  have hI2 : IsWr (· < w.heap.size) w2 w.heap.size [] 0 := ⟨none, 0, hT2, World.ownsRow_nil _ _ _ _, fun k hk => by simp [Value.ownBlock] at hk⟩
  clear hT1 hB1 hT2 hB2 HS1
  go_wp2_with fail
  go_loopw [4] (fun i wr => ∃ k : Nat, k ≤ ops.length ∧ i = .int .i64 k ∧ (∃ ys, IsWr (· < w.heap.size) wr w.heap.size ys (bitsTo ops k).length ∧ Packed ys (bitsTo ops k)) ∧ Kept (· < w.heap.size) w wr) (fun i _ => ops.length - (intOf i).toNat)
  case atStart => exact ⟨0, by omega, rfl, ⟨[], hI2, packed_nil⟩, hK2⟩
  case round =>
    obtain ⟨k, hk, rfl, ⟨ys, hI, hp⟩, hK⟩ := hrel
    by_cases hlt : k < ops.length
    · rcases hO with rfl | ⟨b, off, rfl, hb, hc⟩
      · simp at hlt
      have hr := (hc k ops[k] (List.getElem?_eq_getElem hlt)).kept hK hb
      have HB : Hid (bitsTo ops (k + 1) = bitsTo ops k ++ opBits ops[k]) := bitsTo_succ (List.getElem?_eq_getElem hlt)
      have c1 := hr.n
      have c2 := hr.v
      have hput := put_op (· < w.heap.size) w.heap.size ys (bitsTo ops k) ops[k] wr.drew hI hp (fun j hj => Nat.lt_of_lt_of_le hj hK.size) (by simp) (by have := bitsTo_le ops k; omega) hr.vlo hr.vhi
      generalize ops[k] = r at hr HB c1 c2 hput
      clear hc
      have HP := hput
      clear hput
      go_wp2_with fail
      go_region_with (go_at_call 20; refine HP.mono ?_; rintro e w3 ⟨x3, ys3, rfl, hI3, hp3, hK3⟩)
      all_goals go_wp2
      all_goals exact ⟨⟨k + 1, by omega, by go_num, ⟨ys3, by rw [HB.out]; exact hI3, by rw [HB.out]; exact hp3⟩, hK.drew.trans hK3⟩, by simp [intOf]; omega⟩
    · obtain rfl : k = ops.length := by omega
      obtain ⟨g, c, hT3, hO3, hg3⟩ := hI
      have hbI : BytesIn (fun _ => True) wr (.slice g ys.length c) ys := bytesIn_of_owns _ hO3 (fun _ _ => trivial)
      have hyl : ys.length ≤ 140737488351232 := by rw [hp.len]; have := bitsTo_le ops ops.length; omega
      have hlim := bitsTo_le ops ops.length
      go_wp2_with fail
      refine (done_any w.heap.size g c _ ys _ wr (by omega) hT3 hbI).mono ?_
      rintro e w4 ⟨g4, c4, rfl, hO4, hB4⟩
      have hK4 : Kept (· < w.heap.size) w w4 := hK.trans (Kept.of_below hB4 (fun j hj => Nat.lt_of_lt_of_le hj hK.size))
      have hb4 : BytesIn (fun _ => True) w4 (.slice g4 ys.length c4) ys := bytesIn_of_owns _ hO4 (fun _ _ => trivial)
      clear hT3 hbI hO3 hg3 hO4 hB4 hI2
      go_wp2_with fail
      refine (newReader_any _ g4 c4 ys w4 (by omega) hb4).mono ?_
      rintro e w5 ⟨R5, g5, c5, rfl, hR5, hT5, hO5, hB5⟩
      have hK5 : Kept (· < w.heap.size) w w5 := hK4.trans (Kept.of_below hB5 (fun j hj => Nat.lt_of_lt_of_le hj hK4.size))
      have hws := hK4.size
      have hb5 : BytesIn (fun j => j < w5.heap.size ∧ j ≠ R5) w5 (.slice g5 ys.length c5) ys := bytesIn_of_owns _ hO5 (fun j hj => ⟨(hO5.lt j hj).2, fun e => hT5.not_row (by decide) hO5 (e ▸ hj.symm)⟩)
      clear hb4 hO5 hB5 hK4 hK
      go_wp2_with fail
      go_loopw [6] (fun i wq => ∃ k : Nat, k ≤ ops.length ∧ i = .int .i64 k ∧ Two wq R5 57 (.slice g5 ys.length c5) (.int .i64 (bitsTo ops k).length) ∧ Kept (fun j => j < w5.heap.size ∧ j ≠ R5) w5 wq) (fun i _ => ops.length - (intOf i).toNat)
      case atStart => exact ⟨0, by omega, rfl, by simpa [bitsTo] using hT5, Kept.refl _ _⟩
      case round =>
        obtain ⟨k, hk, rfl, hTq, hKq⟩ := hrel
        have hws5 := hK5.size
        by_cases hlt : k < ops.length
        · rcases hO with rfl | ⟨b, off, rfl, hb, hc⟩
          · simp at hlt
          have hr := ((hc k ops[k] (List.getElem?_eq_getElem hlt)).kept hK5 hb).kept (hKq.mono (T := (· < w.heap.size)) (fun j hj => ⟨by omega, by omega⟩)) hb
          have hopk : ops[k]? = some ops[k] := List.getElem?_eq_getElem hlt
          have HB : Hid (bitsTo ops (k + 1) = bitsTo ops k ++ opBits ops[k]) := bitsTo_succ hopk
          have HM := bitsTo_mono hopk
          have HA := bits_at hopk
          have c1 := hr.n
          have c2 := hr.v
          generalize ops[k] = r at hr HB HM HA c1 c2
          clear hc hopk
          by_cases hn : 0 ≤ r.n ∧ r.n ≤ 32
          · obtain ⟨N, hN⟩ := Int.eq_ofNat_of_zero_le hn.1
            obtain ⟨V, hV⟩ := Int.eq_ofNat_of_zero_le hr.vlo
            have hVlt := hr.vhi
            have eb : opBits r = lowBits V N := by unfold opBits; rw [if_pos hn, hN, hV]; rfl
            rw [hN] at c1
            rw [hV] at c2 hVlt
            rw [eb] at HM HA HB
            rw [lowBits_length] at HM
            have hN32 : N ≤ 32 := by omega
            have hval := orFold_packed hp (bitsTo ops k).length N V hN32 (fun j hj => by rw [HA j (by rw [lowBits_length]; exact hj)]; simp [lowBits, hj])
            have htake := take_any (fun j => j < w5.heap.size ∧ j ≠ R5) R5 g5 c5 (bitsTo ops k).length N ys hp.are hyl wr (fun j hj => Nat.lt_of_lt_of_le hj.1 hKq.size) (by simp) hTq (hb5.kept hKq) hN32 (by have := hp.len; omega)
            rw [hval] at htake
            have HT := htake
            clear htake hval HA eb hn hN hV hr
            have t2 : ¬ 32 < (N : Int) := by omega
            have hX : V % 2 ^ N < 2 ^ N := Nat.mod_lt _ (Nat.two_pow_pos N)
            by_cases h32 : N < 32
            · have hand := mask_low V N (by omega) h32
              generalize V % 2 ^ N = X at HT hand hX
              have HX : Hid (X < 2 ^ N) := hX
              clear hVlt hyl hlim hb5 hT5 hX
              go_wp2_with fail
              refine HT.mono ?_
              rintro e w6 ⟨rfl, hT6, hK6⟩
              have c26 := (hK6.cell (p := ⟨b, off + k * 4 + 2, none⟩) ⟨by simp; omega, by simp; omega⟩).trans c2
              go_wp2_with fail
              refine (rev_two X N _ HX.out hN32).1.mono ?_
              rintro e w7 ⟨rfl, rfl⟩
              go_wp2_with fail
              refine (rev_two X N _ HX.out hN32).2.mono ?_
              rintro e w8 ⟨rfl, rfl⟩
              go_wp2
              exact ⟨⟨k + 1, by omega, by go_num, by rw [HB.out, List.length_append, lowBits_length]; exact hT6, hKq.trans hK6⟩, by simp [intOf]; omega⟩
            · obtain rfl : N = 32 := by omega
              have hV32 : V % 2 ^ 32 = V := by omega
              rw [hV32] at HT
              have HX : Hid (V < 2 ^ 32) := by show V < 2 ^ 32; omega
              clear hVlt hyl hlim hb5 hT5 hX hV32
              go_wp2_with fail
              refine HT.mono ?_
              rintro e w6 ⟨rfl, hT6, hK6⟩
              have c26 := (hK6.cell (p := ⟨b, off + k * 4 + 2, none⟩) ⟨by simp; omega, by simp; omega⟩).trans c2
              go_wp2_with fail
              refine (rev_two V 32 _ HX.out hN32).1.mono ?_
              rintro e w7 ⟨rfl, rfl⟩
              go_wp2_with fail
              refine (rev_two V 32 _ HX.out hN32).2.mono ?_
              rintro e w8 ⟨rfl, rfl⟩
              go_wp2
              exact ⟨⟨k + 1, by omega, by go_num, by rw [HB.out, List.length_append, lowBits_length]; exact hT6, hKq.trans hK6⟩, by simp [intOf]; omega⟩
          · have hn' : r.n < 0 ∨ 32 < r.n := by omega
            have eb : opBits r = [] := by unfold opBits; rw [if_neg hn]
            have HT := take_arg R5 r.n wr hn'
            rw [eb, List.append_nil] at HB
            clear eb hyl hlim hb5 hT5 HA HM hr
            rcases hn' with h | h
            · go_wp2_with fail
              refine HT.mono ?_
              rintro e w6 ⟨rfl, hw6⟩
              have HW : Hid (w6 = wr) := hw6
              clear hw6
              go_wp2
              exact ⟨⟨k + 1, by omega, by go_num, by rw [HB.out, HW.out]; exact hTq, by rw [HW.out]; exact hKq⟩, by simp [intOf]; omega⟩
            · have h' : ¬ r.n < 0 := by omega
              go_wp2_with fail
              refine HT.mono ?_
              rintro e w6 ⟨rfl, hw6⟩
              have HW : Hid (w6 = wr) := hw6
              clear hw6
              go_wp2
              exact ⟨⟨k + 1, by omega, by go_num, by rw [HB.out, HW.out]; exact hTq, by rw [HW.out]; exact hKq⟩, by simp [intOf]; omega⟩
        · obtain rfl : k = ops.length := by omega
          have hyl2 := hp.len
          go_wp2_with fail
          refine (left_any R5 g5 ys.length c5 (bitsTo ops ops.length).length wr (by omega) (by omega) hTq).mono ?_
          rintro e w6 ⟨rfl, q, hw6⟩
          have hlt8 : (8 * (ys.length : Int) - ((bitsTo ops ops.length).length : Int)) < 8 := by omega
          have HW : Hid (w6 = wr.drewN q) := hw6
          clear hw6 hyl2
          have hd : decide ((8 * (ys.length : Int) - ((bitsTo ops ops.length).length : Int)) < 8) = true := decide_eq_true hlt8
          go_wp2
          go_ret
          refine ⟨rfl, ?_⟩
          have hB5 : Below w.heap.size w w5 := hK5.below (fun _ h => h)
          have hBr : Below w.heap.size w5 wr := hKq.below (fun j hj => ⟨by omega, by omega⟩)
          rw [HW.out]
          exact (hB5.trans hBr).trans ⟨rfl, rfl, rfl, Nat.le_refl _, fun _ _ => rfl⟩

set_option maxRecDepth 100000 in
theorem lifted (os : Os) (started : os.Started) (H : Type) (enc : TypeId × Value → H) :
    ReturnsInHanded {} Try.checked os 6 .any (Rows.bitsBackSpec.pre6 enc Try.prog Try.f6 Rows.bitsBackRow.domain false) (Rows.bitsBackSpec.post enc Try.prog Try.f6 false true false false) := by
  refine returnsInHanded_of_change_sized (C := Try.checked) own started (by kernel_rfl) Try.func6
    (ChangeSpec.witness6 (enc := enc) (C := Try.checked) false ⟨#[], #[.slice none 0 0], []⟩ 8 (by kernel_rfl) (by kernel_rfl) (by kernel_rfl) (by kernel_rfl)) ?_
  intro W base args ds gs before hval0 hW _ hsz0 _
  have hsz : (DataW.weightsEach Try.prog (Try.f6.params.toList ++ Rows.bitsBackSpec.plain.varTypes Try.prog) (ds ++ gs)).all (· ≤ reachBytes) = true := hsz0
  clear hsz0
  have hval : ∀ (j : Nat) t v, Try.f6.params[j]? = some t → args[j]? = some v → Value.okWide Try.prog W .any base t v := hval0
  have hW' := hW
  obtain ⟨p, q, hA0, hV, rfl, _, _⟩ := hW
  have hA : DataW.TrodAll enc Try.prog W 0 (fun _ => true) true Try.f6.params.toList args.toList ds p := hA0
  rw [Try.params6] at hA hval hsz
  obtain ⟨v2, vs2, d2, ds2, p2, q2, hargs, rfl, rfl, h2, r2⟩ := trodAll_cons hA
  obtain ⟨rfl, rfl, rfl⟩ := trodAll_nil r2
  obtain rfl : args = #[v2] := by cases args; simp_all
  obtain ⟨rfl, rfl⟩ := trodVars_none hV
  obtain ⟨a2, len2, cap2, rfl⟩ := okWide_slice Try.underlying23 (hval 0 23 v2 rfl rfl)
  have k2 := h2
  have lt2 : ∀ x ∈ p2, x.block < W.heap.size := by obtain ⟨m, hm⟩ := k2; exact DataW.trod_lt m _ _ _ hm
  obtain ⟨ops, hlen, hO, hd⟩ := open_ops h2
  have hl : ops.length ≤ 2932031007402 := by
    rcases hd with ⟨_, h⟩ | ⟨D, s, rfl, _⟩
    · omega
    · have := sized_slice hsz (j := 0) (t := 23) (e := 32) rfl rfl Try.underlying23
      rw [bytes32] at this
      simp only [reachBytes, List.length_map, List.length_range] at this
      omega
  clear hA0 hval0
  subst hlen
  refine (walk a2 cap2 ops W hl hO).mono fun e W' ⟨he, bel⟩ => ?_
  subst he
  exact ⟨_, rfl, _, _, _, [], _, [], hW', trodAll_mk1 (shut_bool Try.underlying4 _), (trodAll_cons_mk (Below.trod laidOut (by kernel_rfl) (of_decide_eq_true (by kernel_rfl)) k2 bel lt2) trodAll_mk0), rfl, bel.frame _, fun h => by cases h⟩

theorem over : Rows.bitsBackRow.holds Try.pinned (OpenSpec.ofChange Rows.bitsBackSpec) :=
  OpenClaim.holds_of_wide 6 Try.f6 rfl rfl rfl rfl rfl rfl rfl ⟨rfl, rfl, rfl, rfl, rfl⟩ rfl rfl rfl rfl rfl (by kernel_rfl) Try.func6 (by kernel_rfl)
    (of_decide_eq_true (by kernel_rfl)) (by unfold Func.isWrapper; first | (rw [if_pos (by decide +kernel)]; kernel_rfl) | (rw [if_neg (by decide +kernel)]; exact ⟨rfl, rfl⟩))
    (fun os started H enc _ => lifted os started H enc)
end Go.Proofs.Ytmebbmofegjgnaa.bitsBack
namespace Go.Proofs.Ytmebbmofegjgnaa
theorem bitsBack_holds : Rows.BitsBackSaid := bitsBack.over
#print axioms bitsBack_holds
end Go.Proofs.Ytmebbmofegjgnaa
