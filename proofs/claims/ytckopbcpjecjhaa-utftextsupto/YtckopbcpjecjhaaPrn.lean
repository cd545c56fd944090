/- utf: the program's Runes and Text. -/
import Derived.Test.YtckopbcpjecjhaaPct
import Derived.Test.YtckopbcpjecjhaaRwi
namespace Go.Proofs.Ytckopbcpjecjhaa
open Go.RowKit

theorem ints_of_owns {w : World} {base : Nat} {v : Value} (zs : List Int) (h : w.ownsRow base 3 1 v zs.length (zs.map (Value.int .i64))) : IntsIn (· < w.heap.size) w v zs := by
  rcases h.2 with ⟨rfl, h9⟩ | ⟨gb, cap, cur, rfl, hbg, hgg, _⟩
  · exact .inl ⟨List.eq_nil_of_length_eq_zero h9, none, 0, rfl⟩
  · refine .inr ⟨gb, 0, cap, rfl, (Array.getElem?_eq_some_iff.1 hgg).1, fun j hj => ?_⟩
    have := h.cells (g := gb) rfl j (.int .i64 zs[j]) (by simp [List.getElem?_eq_getElem hj])
    rw [Go.WideShapes.add_plain, Nat.zero_add] at this
    rw [Nat.zero_add, this, List.getElem?_eq_getElem hj]
    rfl
set_option maxRecDepth 100000 in
set_option maxHeartbeats 4000000 in
theorem prunes_any (s : ByteArray) (hl : s.size ≤ 17592186044415) (w : World) :
    Calls Try.prog 13 #[.string s] w fun e w' => ∃ g c, e = .returned (.slice g (runesZ s).length c) ∧ IntsIn (· < w'.heap.size) w' (.slice g (runesZ s).length c) (runesZ s) ∧ Below w.heap.size w w' := by
  obtain ⟨i0, hi0, hz0, hz1, hz2⟩ := info_parts Try.info3
  obtain ⟨R, HR⟩ : ∃ R, Hid (runesZ s = R) := ⟨_, rfl⟩
  rw [HR.out]
  go_enter Try.func13, Try.ntmps13
  go_wp2_with fail
  go_loopw [3] (fun v3 wr => ∃ (pos : Nat) (zs : List Int), pos ≤ s.size ∧ zs.length ≤ pos ∧ wr.heap[w.heap.size]? = some (.stringIter s pos) ∧ Hid (zs ++ restZ s pos = R) ∧ wr.ownsRow (w.heap.size + 1) 3 1 v3 zs.length (zs.map (Value.int .i64)) ∧ Below w.heap.size w wr) (fun _ wr => s.size - wr.iterPos w.heap.size)
  case atStart => exact ⟨0, [], by omega, by simp, World.iter_heap w s 0, HR, World.ownsRow_nil _ _ _ _, (Below.refl _ w).alloc (Nat.le_refl _) _⟩
  case round =>
    obtain ⟨pos, zs, hp, hzl, hit, HK, hO, hB⟩ := hrel
    obtain ⟨gu, cu, rfl⟩ := owns_form hO
    have hsz : w.heap.size < wr.heap.size := (Array.getElem?_eq_some_iff.1 hit).1
    by_cases h : pos < s.size
    · have hnx : ∀ ty, (Instr.next (.pointer (some ⟨w.heap.size, 0, none⟩)) true ty).run Try.prog wr = _ := fun ty => Lib.run_next_any_at wr w.heap.size s pos ty hit h
      rw [decode_nats] at hnx
      have hst := step_in h
      have hra := rest_at h
      have hle := decL_le ((natsOf s).drop pos)
      have hit2 := Lib.iterAt_heap wr w.heap.size s pos (pos + (decL ((natsOf s).drop pos)).2) hit
      have hB2 := Lib.below_iterAt hB (k := w.heap.size) (Nat.le_refl _) s (pos + (decL ((natsOf s).drop pos)).2)
      have hO2 := ownsRow_iterAt hO (k := w.heap.size) (by omega) s (pos + (decL ((natsOf s).drop pos)).2)
      have hs2 := Lib.iterAt_size wr w.heap.size s (pos + (decL ((natsOf s).drop pos)).2)
      obtain ⟨c, hc⟩ : ∃ c, (decL ((natsOf s).drop pos)).1 = c := ⟨_, rfl⟩
      obtain ⟨n, hn⟩ : ∃ n, (decL ((natsOf s).drop pos)).2 = n := ⟨_, rfl⟩
      rw [hc, hn] at hnx hra
      rw [hn] at hst hit2 hB2 hO2 hs2
      rw [hc] at hle
      obtain ⟨W, hW⟩ : ∃ W, wr.iterAt w.heap.size s (pos + n) = W := ⟨_, rfl⟩
      rw [hW] at hnx hit2 hB2 hO2 hs2
      have hs3 : w.heap.size < W.heap.size := by omega
      clear hs2
      have HN : Hid ((zs ++ [(c : Int)]) ++ restZ s (pos + n) = R) := by
        show _ = _
        rw [← HK.out, hra]
        simp
      have HF : Hid (∀ (o : Obj) (v' : Value) (w3 : World), w3.ownsRow (w.heap.size + 1) 3 1 v' (zs.length + 1) (zs.map (Value.int .i64) ++ [.int .i64 (c : Int)]) → (W.alloc o).grownBy w3 (Value.slice gu zs.length cu).ownBlock →
          w3.ownsRow (w.heap.size + 1) 3 1 v' (zs ++ [(c : Int)]).length ((zs ++ [(c : Int)]).map (Value.int .i64)) ∧ Below w.heap.size w w3 ∧ w3.heap[w.heap.size]? = some (.stringIter s (pos + n))) := by
        intro o v' w3 h1 h2
        refine ⟨by simpa using h1, (hB2.alloc (by omega) o).grown h2 (by rw [World.size_alloc]; omega) (fun r e => by have := (hO2.lt r e).1; omega), ?_⟩
        rw [h2.block w.heap.size (by rw [World.size_alloc]; omega) (fun e => by have := (hO2.lt w.heap.size e.symm).1; omega), Lib.alloc_old W o w.heap.size (by omega)]
        exact hit2
      have HP := iterPos_of hit
      clear hit2 hB2 hB hW hc hn hit HK hra hO
      go_wp2_with (at_builtin; refine wpList_append_own2 _ rfl (.tmp 11) (.tmp 14) 26 rfl (w.heap.size + 1) 3 i0 (.int .i64 0) 1 8 Try.underlying26 hi0 hz0 hz1 hz2 rfl (by decide) _ _ _ rfl (hO2.alloc _) ⟨W.heap.size, 0, none⟩ 1 1 [.int .i64 (c : Int)] rfl rfl (cell_one_new _ _ _) (by simp [Value.oneCell']) (by unfold maxLen; omega) (by omega) (by simp; omega) ?_)
      intro v' w3 hown' hgrow _
      have HG : Hid _ := HF.out _ v' w3 hown' hgrow
      clear HF hgrow hown'
      go_wp2
      refine ⟨⟨pos + n, _, hst.1, by rw [List.length_append, List.length_singleton]; omega, HG.out.2.2, HN, HG.out.1, HG.out.2.1⟩, ?_⟩
      rw [iterPos_of HG.out.2.2, HP]
      omega
    · have hnx : ∀ ty, (Instr.next (.pointer (some ⟨w.heap.size, 0, none⟩)) true ty).run Try.prog wr = _ := fun ty => Lib.run_next_end_at wr w.heap.size s pos ty hit h
      have hR : R = zs := by
        rw [← HK.out]
        unfold restZ
        rw [drop_end h]
        simp [runesL, runesF]
      subst hR
      have HB : Hid _ := hB
      have HO : Hid _ := ints_of_owns R hO
      clear hB hit HK hO HR
      go_wp2
      go_ret
      exact ⟨gu, cu, rfl, HO.out, HB.out⟩

set_option maxRecDepth 100000 in
set_option maxHeartbeats 2000000 in
theorem character_any (n : Int) (h0 : -9223372036854775808 ≤ n) (h1 : n ≤ 9223372036854775807) (w : World) : Calls Try.prog 33 #[.int .i64 n] w fun e w' => e = .returned (.int .i32 (chrZ n : Nat)) ∧ w' = w := by
  by_cases a : n < 0
  · have e : chrZ n = 65533 := if_neg (fun h => by have := h.1; omega)
    rw [e]
    clear e
    go_enter Try.func33, Try.ntmps33
    go_wp2
    go_ret
    exact ⟨rfl, rfl⟩
  by_cases b : 1114111 < n
  · have e : chrZ n = 65533 := if_neg (fun h => by have := h.2.1; omega)
    rw [e]
    clear e
    go_enter Try.func33, Try.ntmps33
    go_wp2
    go_ret
    exact ⟨rfl, rfl⟩
  by_cases c : 55296 ≤ n
  · by_cases d : n ≤ 57343
    · have e : chrZ n = 65533 := if_neg (fun h => h.2.2 ⟨c, d⟩)
      rw [e]
      clear e
      go_enter Try.func33, Try.ntmps33
      go_wp2
      go_ret
      exact ⟨rfl, rfl⟩
    · have e : ((chrZ n : Nat) : Int) = n := by
        have : chrZ n = n.toNat := if_pos ⟨by omega, by omega, by omega⟩
        omega
      rw [e]
      clear e
      go_enter Try.func33, Try.ntmps33
      go_wp2
      go_ret
      exact ⟨rfl, rfl⟩
  · have e : ((chrZ n : Nat) : Int) = n := by
      have : chrZ n = n.toNat := if_pos ⟨by omega, by omega, by omega⟩
      omega
    rw [e]
    clear e
    go_enter Try.func33, Try.ntmps33
    go_wp2
    go_ret
    exact ⟨rfl, rfl⟩

set_option maxRecDepth 100000 in
set_option maxHeartbeats 4000000 in
theorem ptext_any (a : Option Addr) (cap : Nat) (ns : List Int) (hz : AreInts ns) (hl : ns.length ≤ 35184372087808) (w : World) (hI : IntsIn (fun k => k < w.heap.size) w (.slice a ns.length cap) ns) :
    Calls Try.prog 19 #[.slice a ns.length cap] w fun e w' => e = .returned (.string (strOfNums (textZ ns))) ∧ Below w.heap.size w w' := by
  go_enter Try.func19, Try.ntmps19
  go_wp2_with fail
  go_loopw [8] (fun v8 wr => ∃ (k : Nat) (zs : List Int), k ≤ ns.length ∧ v8 = .int .i64 (k : Int) ∧ Hid (textZ (ns.take k) = zs) ∧ zs.length ≤ 4 * k ∧ Hid (Octs zs) ∧ Hid (Lib.IsBuilderF 43 5 w.heap.size w.heap.size (zs.map (Value.int .u8)) wr) ∧ Below w.heap.size w wr) (fun v8 _ => ns.length - (intOf v8).toNat)
  case atStart => exact ⟨0, [], by omega, rfl, rfl, by simp, (by intro x hx; simp at hx), Lib.IsBuilderF.of (Lib.fresh_isBuilder 43 5 w), (Below.refl _ w).alloc (Nat.le_refl _) _⟩
  case round =>
    obtain ⟨k, zs, hk, rfl, HZ, hzl, HO, HI, hB⟩ := hrel
    have hsz := hB.size
    by_cases hlt : k < ns.length
    · obtain ⟨b, off, rfl, hbS, hcell⟩ := (hI.below hB).at k hlt
      have hzk := hz k
      obtain ⟨m, hm⟩ : ∃ m, ns[k]?.getD 0 = m := ⟨_, rfl⟩
      rw [hm] at hcell hzk
      have HN : Hid (textZ (ns.take (k + 1)) = zs ++ (wrN (chrZ m)).map Int.ofNat) := by
        show _ = _
        rw [List.take_add_one, ← HZ.out, ← hm, List.getElem?_eq_getElem hlt]
        simp only [Option.toList_some, Option.getD_some]
        exact textZ_snoc _ _
      have hch := chrZ_char m
      have HC : Hid _ := character_any m hzk.1 hzk.2 wr
      have HW : Hid _ := writeRune_z w.heap.size w.heap.size zs HO.out ((chrZ m : Nat) : Int) (by have := hch.1; omega) (by have := hch.2.1; omega) wr HI.out (by omega) hsz
      rw [chrZ_id hch] at HW
      have h4 := wr_le4 (chrZ m)
      have HB : Hid _ := hB
      clear HZ hm hch hB hI hz
      generalize chrZ m = q at HC HW HN h4
      go_wp2_with fail
      refine Calls.mono HC.out ?_
      rintro e w1 ⟨rfl, rfl⟩
      clear HC
      go_wp2_with fail
      refine Calls.mono HW.out ?_
      rintro e w1 ⟨x, rfl, hI1, hO1, hb1, _⟩
      clear HW
      have HI1 : Hid _ := hI1
      have HB1 : Hid _ := HB.out.trans hb1
      clear hI1 hb1
      go_wp2
      exact ⟨⟨k + 1, _, by omega, by simp, HN, by rw [List.length_append, List.length_map]; omega, hO1, HI1, HB1.out⟩, by simp [intOf]; omega⟩
    · obtain rfl : k = ns.length := by omega
      have HE : Hid (textZ ns = zs) := by show _ = _; rw [← HZ.out, List.take_length]
      have HC : Hid _ := string_any w.heap.size w.heap.size zs HO.out wr HI.out hsz
      have HB : Hid _ := hB
      clear hB HZ hI hz
      go_wp2_with fail
      refine Calls.mono HC.out ?_
      rintro e w1 ⟨rfl, hb1⟩
      clear HC
      have HB1 : Hid _ := HB.out.trans hb1
      clear hb1
      go_wp2
      go_ret
      exact ⟨by rw [HE.out]; rfl, HB1.out⟩
end Go.Proofs.Ytckopbcpjecjhaa
