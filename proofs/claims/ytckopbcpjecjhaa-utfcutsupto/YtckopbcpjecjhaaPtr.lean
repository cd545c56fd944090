/- utf: the program's Trim, and what the builder's String answers. -/
import Derived.Test.YtckopbcpjecjhaaBld
import Derived.Test.YtckopbcpjecjhaaUtr
namespace Go.Proofs.Ytckopbcpjecjhaa
open Go.RowKit

def Octs (zs : List Int) : Prop := ∀ x ∈ zs, 0 ≤ x ∧ x < 256
theorem cells_octs {zs : List Int} (h : Octs zs) : Lib.byteCells (zs.map fun x => x.toNat.toUInt8) = zs.map (Value.int .u8) := by
  unfold Lib.byteCells
  rw [List.map_map]
  refine List.map_congr_left (fun x hx => ?_)
  have := h x hx
  simp only [Function.comp]
  congr 1
  rw [Nat.toUInt8, UInt8.toNat_ofNat']
  omega
theorem str_octs (zs : List Int) : (⟨(zs.map fun x => x.toNat.toUInt8).toArray⟩ : ByteArray) = strOfNums zs := by
  rfl
theorem string_any (B b : Nat) (zs : List Int) (hz : Octs zs) (w : World) (h : Lib.IsBuilderF 43 5 B b (zs.map (Value.int .u8)) w) (hBw : B ≤ w.heap.size) :
    Calls Try.prog 32 #[.pointer (some ⟨b, 0, none⟩)] w fun e w' => e = .returned (.string (strOfNums zs)) ∧ Below B w w' := by
  rw [← cells_octs hz] at h
  refine (Try.Builder_String_any_k B b _ w h hBw).mono ?_
  rintro e w' ⟨rfl, _, hb, _⟩
  exact ⟨by rw [str_octs], hb⟩
theorem Octs.snoc {zs : List Int} (h : Octs zs) {x : Int} (h0 : 0 ≤ x) (h1 : x < 256) : Octs (zs ++ [x]) := by
  intro y hy
  rcases List.mem_append.1 hy with hy | hy
  · exact h y hy
  · simp at hy; omega

/-- What the program holds when the document holds b. -/
def TrSt (gap : Bool) (zs b : List Int) : Prop := (b = if gap = true ∧ zs ≠ [] then zs ++ [32] else zs) ∧ zs.getLast? ≠ some 32
theorem TrSt.blank {gap : Bool} {zs b : List Int} (h : TrSt gap zs b) : TrSt true zs (trimStep b 32) := by
  obtain ⟨rfl, h2⟩ := h
  refine ⟨?_, h2⟩
  by_cases hz : zs = []
  · subst hz; simp [trimStep]
  · cases gap
    · simp [trimStep, hz, h2]
    · simp [trimStep, hz]
theorem TrSt.sign1 {gap : Bool} {zs b : List Int} {c : Int} (h : TrSt gap zs b) (hc : c ≠ 32) (hg : gap = true ∧ zs ≠ []) : TrSt false (zs ++ [32] ++ [c]) (trimStep b c) := by
  obtain ⟨rfl, h2⟩ := h
  refine ⟨?_, by simp [hc]⟩
  rw [if_pos hg]
  simp [trimStep, hc]
theorem TrSt.sign2 {gap : Bool} {zs b : List Int} {c : Int} (h : TrSt gap zs b) (hc : c ≠ 32) (hg : ¬ (gap = true ∧ zs ≠ [])) : TrSt false (zs ++ [c]) (trimStep b c) := by
  obtain ⟨rfl, h2⟩ := h
  refine ⟨?_, by simp [hc]⟩
  rw [if_neg hg]
  simp [trimStep, hc]
theorem TrSt.done {gap : Bool} {zs b : List Int} (h : TrSt gap zs b) : trimEnd b = zs := by
  obtain ⟨rfl, h2⟩ := h
  unfold trimEnd
  by_cases hg : gap = true ∧ zs ≠ []
  · rw [if_pos hg]
    simp
  · rw [if_neg hg, if_neg h2]

set_option maxRecDepth 100000 in
set_option maxHeartbeats 4000000 in
theorem ptrim_any (s : ByteArray) (hl : s.size ≤ 140737488351232) (w : World) :
    Calls Try.prog 25 #[.string s] w fun e w' => e = .returned (.string (strOfNums (trimEnd (trimTo s s.size)))) ∧ Below w.heap.size w w' := by
  obtain ⟨R, HR⟩ : ∃ R, Hid (trimEnd (trimTo s s.size) = R) := ⟨_, rfl⟩
  rw [HR.out]
  go_enter Try.func25, Try.ntmps25
  go_wp2_with fail
  go_loopw [4, 8] (fun v4 v8 wr => ∃ (k : Nat) (zs : List Int) (gap : Bool), k ≤ s.size ∧ v4 = .bool gap ∧ v8 = .int .i64 (k : Int) ∧ Hid (TrSt gap zs (trimTo s k)) ∧ Hid (Octs zs) ∧ zs.length + (if gap = true then 1 else 0) ≤ k ∧ Hid (Lib.IsBuilderF 43 5 w.heap.size w.heap.size (zs.map (Value.int .u8)) wr) ∧ Below w.heap.size w wr) (fun _ v8 _ => s.size - (intOf v8).toNat)
  case atStart =>
    exact ⟨0, [], false, by omega, rfl, rfl, ⟨rfl, by simp⟩, by intro x hx; simp at hx, by simp, Lib.IsBuilderF.of (Lib.fresh_isBuilder 43 5 w), (Below.refl _ w).alloc (Nat.le_refl _) _⟩
  case round =>
    obtain ⟨k, zs, gap, hk, rfl, rfl, HT, HO, hzl, HI, hB⟩ := hrel
    have hsz := hB.size
    by_cases hlt : k < s.size
    · have ht : byteAt s k = ((s[k]'hlt).toNat : Int) := dif_pos hlt
      have hc256 : (s[k]'hlt).toNat < 256 := (s[k]'hlt).toNat_lt
      obtain ⟨c, hc⟩ : ∃ c, (s[k]'hlt).toNat = c := ⟨_, rfl⟩
      have HS : Hid (trimTo s (k + 1) = trimStep (trimTo s k) c) := by show _ = _; rw [trimTo, ht, hc]
      clear ht
      by_cases a1 : c = 32
      · subst a1
        have HN : Hid (TrSt true zs (trimTo s (k + 1))) := by show TrSt _ _ _; rw [HS.out]; exact HT.out.blank
        have HB : Hid _ := hB
        clear HS hB
        go_wp2
        exact ⟨⟨k + 1, zs, true, by omega, rfl, by simp, HN, HO, by simp; split at hzl <;> omega, HI, HB.out⟩, by simp [intOf]; omega⟩
      · have a1z : ¬ (c : Int) = 32 := by omega
        have HB : Hid _ := hB
        have HW : Hid (∀ (ys : List Int) (x : Int) (W : World), Octs ys → 0 ≤ x → x < 256 → ys.length ≤ s.size → w.heap.size ≤ W.heap.size → Lib.IsBuilderF 43 5 w.heap.size w.heap.size (ys.map (Value.int .u8)) W →
            Calls Try.prog 38 #[.pointer (some ⟨w.heap.size, 0, none⟩), .int .u8 x] W fun e w' => e = .returned .nilIface ∧ Lib.IsBuilderF 43 5 w.heap.size w.heap.size ((ys ++ [x]).map (Value.int .u8)) w' ∧ Octs (ys ++ [x]) ∧ Below w.heap.size W w') := by
          intro ys x W hy h0 h1 hyl hWs hI
          refine (writeByte_any w.heap.size w.heap.size (ys.map (Value.int .u8)) x W hI (by rw [List.length_map]; omega) hWs).mono ?_
          rintro e w' ⟨rfl, h2, h3, _⟩
          refine ⟨rfl, .inr ?_, hy.snoc h0 h1, h3⟩
          rw [List.map_append]
          exact h2
        have HL : Hid (Calls Try.prog 37 #[.pointer (some ⟨w.heap.size, 0, none⟩)] wr fun e w' => e = .returned (.int .i64 (zs.length : Int)) ∧ w' = wr) := by
          have := Try.Builder_Len_f w.heap.size w.heap.size _ wr HI.out
          rwa [List.length_map] at this
        clear hB
        cases gap with
        | false =>
          have HN : Hid (TrSt false (zs ++ [(c : Int)]) (trimTo s (k + 1))) := by show TrSt _ _ _; rw [HS.out]; exact HT.out.sign2 a1z (by simp)
          have HC : Hid _ := HW.out zs (c : Int) wr HO.out (by omega) (by omega) (by simp at hzl; omega) hsz HI.out
          clear HW HL HS HT
          go_wp2_with fail
          refine Calls.mono HC.out ?_
          rintro e w1 ⟨rfl, hI1, hO1, hb1⟩
          clear HC
          have H1 : Hid _ := hI1
          have HB1 : Hid _ := HB.out.trans hb1
          clear hI1 hb1
          go_wp2
          exact ⟨⟨k + 1, zs ++ [(c : Int)], false, by omega, rfl, by simp, HN, hO1, by simp at hzl ⊢; omega, H1, HB1.out⟩, by simp [intOf]; omega⟩
        | true =>
          rcases Nat.eq_zero_or_pos zs.length with h0 | h0
          · obtain rfl : zs = [] := List.eq_nil_of_length_eq_zero h0
            have HN : Hid (TrSt false ([] ++ [(c : Int)]) (trimTo s (k + 1))) := by show TrSt _ _ _; rw [HS.out]; exact HT.out.sign2 a1z (by simp)
            have HC : Hid _ := HW.out [] (c : Int) wr HO.out (by omega) (by omega) (by simp) hsz HI.out
            clear HW HS HT
            go_wp2_with fail
            refine Calls.mono HL.out ?_
            rintro e w1 ⟨rfl, rfl⟩
            clear HL
            go_wp2_with fail
            refine Calls.mono HC.out ?_
            rintro e w1 ⟨rfl, hI1, hO1, hb1⟩
            clear HC
            have H1 : Hid _ := hI1
            have HB1 : Hid _ := HB.out.trans hb1
            clear hI1 hb1
            go_wp2
            exact ⟨⟨k + 1, [] ++ [(c : Int)], false, by omega, rfl, by simp, HN, hO1, by simp, H1, HB1.out⟩, by simp [intOf]; omega⟩
          · have hzne : zs ≠ [] := by intro h; rw [h] at h0; simp at h0
            have HN : Hid (TrSt false (zs ++ [32] ++ [(c : Int)]) (trimTo s (k + 1))) := by show TrSt _ _ _; rw [HS.out]; exact HT.out.sign1 a1z ⟨rfl, hzne⟩
            simp only [if_true] at hzl
            have HC : Hid _ := HW.out zs 32 wr HO.out (by omega) (by omega) (by omega) hsz HI.out
            have h0z : (0 : Int) < (zs.length : Int) := by omega
            clear HS HT
            go_wp2_with fail
            refine Calls.mono HL.out ?_
            rintro e w1 ⟨rfl, rfl⟩
            clear HL
            go_wp2_with fail
            refine Calls.mono HC.out ?_
            rintro e w1 ⟨rfl, hI1, hO1, hb1⟩
            clear HC
            have hs1 := hb1.size
            have HB1 : Hid _ := HB.out.trans hb1
            have HC : Hid _ := HW.out (zs ++ [32]) (c : Int) w1 hO1 (by omega) (by omega) (by simp; omega) (by omega) hI1
            clear hI1 hb1 HW
            go_wp2_with fail
            refine Calls.mono HC.out ?_
            rintro e w2 ⟨rfl, hI2, hO2, hb2⟩
            clear HC
            have H2 : Hid _ := hI2
            have HB2 : Hid _ := HB1.out.trans hb2
            clear hI2 hb2
            go_wp2
            exact ⟨⟨k + 1, zs ++ [32] ++ [(c : Int)], false, by omega, rfl, by simp, HN, hO2, by simp; omega, H2, HB2.out⟩, by simp [intOf]; omega⟩
    · obtain rfl : k = s.size := by omega
      have hR : R = zs := HR.out.symm.trans HT.out.done
      subst hR
      have HC : Hid _ := string_any w.heap.size w.heap.size R HO.out wr HI.out hsz
      have HB : Hid _ := hB
      clear hB HT HR
      go_wp2_with fail
      refine Calls.mono HC.out ?_
      rintro e w1 ⟨rfl, hb1⟩
      clear HC
      have HB1 : Hid _ := HB.out.trans hb1
      clear hb1
      go_wp2
      go_ret
      exact ⟨rfl, HB1.out⟩
end Go.Proofs.Ytckopbcpjecjhaa
