/- utf: the program's Cut and Text. -/
import Derived.Test.YtckopbcpjecjhaaPvx
import Derived.Test.YtckopbcpjecjhaaUru
namespace Go.Proofs.Ytckopbcpjecjhaa
open Go.RowKit

theorem enc_wr (n : Int) : Lib.encodeRuneZ n = (wrN (chrZ n)).map Int.ofNat := by
  by_cases hc : charZ n
  · obtain ⟨m, rfl⟩ : ∃ m : Nat, n = m := ⟨n.toNat, by have := hc.1; omega⟩
    rw [chrZ_id hc]
    obtain ⟨_, h2, h3⟩ := hc
    by_cases c1 : m < 128
    · rw [wrN_1 c1, Lib.encodeRuneZ_one (by omega) (by omega)]
      rfl
    by_cases c2 : m < 2048
    · rw [wrN_2 (by omega) c2, Lib.encodeRuneZ_two (by omega) (by omega)]
      simp
    by_cases c3 : m < 65536
    · rw [wrN_3 (by omega) c3, Lib.encodeRuneZ_three (by omega)]
      simp
    · rw [wrN_4 (by omega), Lib.encodeRuneZ_four (by omega) (by omega)]
      simp
  · have e : chrZ n = 65533 := if_neg hc
    rw [e, Lib.encodeRuneZ_bad (by unfold charZ at hc; omega)]
    decide
theorem runeCells_wr (n : Int) : Lib.runeCells n = ((wrN (chrZ n)).map Int.ofNat).map (Value.int .u8) := by
  unfold Lib.runeCells
  rw [enc_wr]
theorem octs_wr (n : Int) : Octs ((wrN (chrZ n)).map Int.ofNat) := by
  intro x hx
  obtain ⟨y, hy, rfl⟩ := List.mem_map.1 hx
  have := wrN_byte (n := chrZ n) (by have := (chrZ_char n).2.1; omega) y hy
  constructor
  · exact Int.natCast_nonneg _
  · show (y : Int) < 256
    omega
theorem Octs.append {a b : List Int} (ha : Octs a) (hb : Octs b) : Octs (a ++ b) := fun x hx => (List.mem_append.1 hx).elim (ha x) (hb x)
theorem textZ_cons (m : Int) (ns : List Int) : textZ (m :: ns) = (wrN (chrZ m)).map Int.ofNat ++ textZ ns := by simp [textZ, textL]

/-- A rune is written. -/
theorem writeRune_z (B b : Nat) (zs : List Int) (hz : Octs zs) (r : Int) (hr0 : -2147483648 ≤ r) (hr1 : r ≤ 2147483647) (w : World) (h : Lib.IsBuilderF 43 5 B b (zs.map (Value.int .u8)) w) (hlen : zs.length + 4 ≤ 140737488355328) (hBw : B ≤ w.heap.size) :
    Calls Try.prog 31 #[.pointer (some ⟨b, 0, none⟩), .int .i32 r] w fun e w' => ∃ x, e = .returned (.tuple #[.int .i64 x, .nilIface]) ∧ Lib.IsBuilderF 43 5 B b ((zs ++ (wrN (chrZ r)).map Int.ofNat).map (Value.int .u8)) w' ∧ Octs (zs ++ (wrN (chrZ r)).map Int.ofNat) ∧ Below B w w' ∧ Lib.OthersKept 5 (some b) w w' := by
  refine (writeRune_any B b _ r hr0 hr1 w h (by rw [List.length_map]; omega) hBw).mono ?_
  rintro e w' ⟨x, rfl, h1, h2, h3⟩
  refine ⟨x, rfl, .inr ?_, hz.append (octs_wr r), h2, h3⟩
  rw [List.map_append, ← runeCells_wr]
  exact h1

def cutZ (ns : List Int) (f m : Int) : List Int := (ns.drop f.toNat).take m.toNat
def restZ (s : ByteArray) (pos : Nat) : List Int := (runesL ((natsOf s).drop pos)).map Int.ofNat
theorem rest_at {s : ByteArray} {i : Nat} (h : i < s.size) : restZ s i = ((decL ((natsOf s).drop i)).1 : Int) :: restZ s (i + (decL ((natsOf s).drop i)).2) := by
  unfold restZ
  rw [runes_at h]
  rfl
theorem cut_skip (c : Int) (ns : List Int) (f m : Int) (h : 0 < f) : cutZ (c :: ns) f m = cutZ ns (f - 1) m := by
  unfold cutZ
  obtain ⟨k, hk⟩ : ∃ k : Nat, f.toNat = k + 1 := ⟨f.toNat - 1, by omega⟩
  rw [hk, show (f - 1).toNat = k by omega, List.drop_succ_cons]
theorem cut_none (ns : List Int) (f m : Int) (h : m ≤ 0) : cutZ ns f m = [] := by
  unfold cutZ
  rw [show m.toNat = 0 by omega, List.take_zero]
theorem cut_take (c : Int) (ns : List Int) (f m : Int) (h : ¬ 0 < f) (hm : 0 < m) : cutZ (c :: ns) f m = c :: cutZ ns f (m - 1) := by
  unfold cutZ
  obtain ⟨k, hk⟩ : ∃ k : Nat, m.toNat = k + 1 := ⟨m.toNat - 1, by omega⟩
  rw [show f.toNat = 0 by omega, hk, show (m - 1).toNat = k by omega, List.drop_zero, List.drop_zero, List.take_succ_cons]

set_option maxRecDepth 100000 in
set_option maxHeartbeats 4000000 in
theorem pcut_any (s : ByteArray) (f m : Int) (hf0 : -9223372036854775808 ≤ f) (hf1 : f ≤ 9223372036854775807) (hm0 : -9223372036854775808 ≤ m) (hm1 : m ≤ 9223372036854775807) (hl : s.size ≤ 35184372087808) (w : World) :
    Calls Try.prog 17 #[.string s, .int .i64 f, .int .i64 m] w fun e w' => e = .returned (.string (strOfNums (textZ (cutZ (restZ s 0) f m)))) ∧ Below w.heap.size w w' := by
  obtain ⟨R, HR⟩ : ∃ R, Hid (textZ (cutZ (restZ s 0) f m) = R) := ⟨_, rfl⟩
  rw [HR.out]
  go_enter Try.func17, Try.ntmps17
  go_wp2_with fail
  go_loopw [1, 2] (fun v1 v2 wr => ∃ (pos : Nat) (f m : Int) (zs : List Int), pos ≤ s.size ∧ v1 = .int .i64 f ∧ v2 = .int .i64 m ∧ (-9223372036854775808 ≤ f ∧ f ≤ 9223372036854775807) ∧ (-9223372036854775808 ≤ m ∧ m ≤ 9223372036854775807) ∧ wr.heap[w.heap.size + 1]? = some (.stringIter s pos) ∧ Hid (zs ++ textZ (cutZ (restZ s pos) f m) = R) ∧ Hid (Octs zs) ∧ zs.length ≤ 4 * pos ∧ Hid (Lib.IsBuilderF 43 5 w.heap.size w.heap.size (zs.map (Value.int .u8)) wr) ∧ Below w.heap.size w wr) (fun _ _ wr => s.size - wr.iterPos (w.heap.size + 1))
  case atStart =>
    refine ⟨0, f, m, [], by omega, rfl, rfl, ⟨hf0, hf1⟩, ⟨hm0, hm1⟩, ?_, HR, (by intro x hx; simp at hx), by simp, (Lib.IsBuilderF.of (Lib.fresh_isBuilder 43 5 w)).alloc _, ((Below.refl _ w).alloc (Nat.le_refl _) _).alloc (by simp) _⟩
    have := World.iter_heap (w.alloc (.cells #[.pointer none, .slice none 0 0] 43)) s 0
    simpa using this
  case round =>
    clear HR hf0 hf1 hm0 hm1
    obtain ⟨pos, f, m, zs, hp, rfl, rfl, hf, hm, hit, HK, HO, hzl, HI, hB⟩ := hrel
    have hsz : w.heap.size + 1 < wr.heap.size := (Array.getElem?_eq_some_iff.1 hit).1
    by_cases h : pos < s.size
    · have hnx : ∀ ty, (Instr.next (.pointer (some ⟨w.heap.size + 1, 0, none⟩)) true ty).run Try.prog wr = _ := fun ty => Lib.run_next_any_at wr (w.heap.size + 1) s pos ty hit h
      rw [decode_nats] at hnx
      have hst := step_in h
      have hra := rest_at h
      have hle := decL_le ((natsOf s).drop pos)
      have hit2 := Lib.iterAt_heap wr (w.heap.size + 1) s pos (pos + (decL ((natsOf s).drop pos)).2) hit
      have hB2 := Lib.below_iterAt hB (k := w.heap.size + 1) (by omega) s (pos + (decL ((natsOf s).drop pos)).2)
      have hI2 := HI.out.iterAt hit (pos + (decL ((natsOf s).drop pos)).2)
      have hs2 := Lib.iterAt_size wr (w.heap.size + 1) s (pos + (decL ((natsOf s).drop pos)).2)
      obtain ⟨c, hc⟩ : ∃ c, (decL ((natsOf s).drop pos)).1 = c := ⟨_, rfl⟩
      obtain ⟨n, hn⟩ : ∃ n, (decL ((natsOf s).drop pos)).2 = n := ⟨_, rfl⟩
      rw [hc, hn] at hnx hra
      rw [hn] at hst hit2 hB2 hI2 hs2
      rw [hc] at hle
      obtain ⟨W, hW⟩ : ∃ W, wr.iterAt (w.heap.size + 1) s (pos + n) = W := ⟨_, rfl⟩
      rw [hW] at hnx hit2 hB2 hI2 hs2
      have HI2 : Hid _ := hI2
      have HT2 : Hid _ := hit2
      have HB2 : Hid _ := hB2
      have HP := iterPos_of hit
      clear hI2 hit2 hB2 hB hW hc hn hit HI
      by_cases hf1 : 0 < f
      · have HN : Hid (zs ++ textZ (cutZ (restZ s (pos + n)) (f - 1) m) = R) := by
          show _ = _
          rw [← HK.out, hra, cut_skip _ _ _ _ hf1]
        clear HK hra
        go_wp2
        refine ⟨⟨pos + n, f - 1, m, zs, hst.1, rfl, rfl, by omega, hm, HT2.out, HN, HO, by omega, HI2, HB2.out⟩, ?_⟩
        rw [iterPos_of HT2.out, HP]
        omega
      · by_cases hm1 : m ≤ 0
        · have hR : R = zs := by
            rw [← HK.out, cut_none _ _ _ hm1]
            simp [textZ, textL]
          subst hR
          have HC : Hid _ := string_any w.heap.size w.heap.size R HO.out W HI2.out (by omega)
          clear HK hra
          go_wp2_with fail
          refine Calls.mono HC.out ?_
          rintro e w1 ⟨rfl, hb1⟩
          clear HC
          have HB1 : Hid _ := HB2.out.trans hb1
          clear hb1
          go_wp2
          go_ret
          exact ⟨rfl, HB1.out⟩
        · have HN : Hid (zs ++ (wrN (chrZ (c : Int))).map Int.ofNat ++ textZ (cutZ (restZ s (pos + n)) f (m - 1)) = R) := by
            show _ = _
            rw [← HK.out, hra, cut_take _ _ _ _ hf1 (by omega), textZ_cons, List.append_assoc]
          have HC : Hid _ := writeRune_z w.heap.size w.heap.size zs HO.out (c : Int) (by omega) (by omega) W HI2.out (by omega) (by omega)
          have hw4 := wr_le4 (chrZ (c : Int))
          clear HK hra
          go_wp2_with fail
          refine Calls.mono HC.out ?_
          rintro e w1 ⟨x, rfl, hI1, hO1, hb1, hk1⟩
          clear HC
          have HI1 : Hid _ := hI1
          have HB1 : Hid _ := HB2.out.trans hb1
          have HT1 : Hid _ := hk1.iter HT2.out (by omega)
          clear hI1 hb1 hk1
          go_wp2
          refine ⟨⟨pos + n, f, m - 1, zs ++ (wrN (chrZ (c : Int))).map Int.ofNat, hst.1, rfl, rfl, hf, by omega, HT1.out, HN, hO1, by rw [List.length_append, List.length_map]; omega, HI1, HB1.out⟩, ?_⟩
          rw [iterPos_of HT1.out, HP]
          omega
    · have hnx : ∀ ty, (Instr.next (.pointer (some ⟨w.heap.size + 1, 0, none⟩)) true ty).run Try.prog wr = _ := fun ty => Lib.run_next_end_at wr (w.heap.size + 1) s pos ty hit h
      have hR : R = zs := by
        rw [← HK.out]
        unfold restZ
        rw [drop_end h]
        simp [runesL, runesF, cutZ, textZ, textL]
      subst hR
      have HC : Hid _ := string_any w.heap.size w.heap.size R HO.out wr HI.out (by omega)
      have HB : Hid _ := hB
      clear hB hit HK
      go_wp2_with fail
      refine Calls.mono HC.out ?_
      rintro e w1 ⟨rfl, hb1⟩
      clear HC
      have HB1 : Hid _ := HB.out.trans hb1
      clear hb1
      go_wp2
      go_ret
      exact ⟨rfl, HB1.out⟩
end Go.Proofs.Ytckopbcpjecjhaa
