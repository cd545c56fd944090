/- utf: the document's Trim. -/
import Derived.Test.YtckopbcpjecjhaaUtn
namespace Go.Proofs.Ytckopbcpjecjhaa
open Go.RowKit

def trimStep (b : List Int) (c : Int) : List Int := if c = 32 ∧ (b = [] ∨ b.getLast? = some 32) then b else b ++ [c]
def byteAt (s : ByteArray) (j : Nat) : Int := if h : j < s.size then ((s[j]'h).toNat : Int) else 0
def trimTo (s : ByteArray) : Nat → List Int
  | 0 => []
  | k + 1 => trimStep (trimTo s k) (byteAt s k)
def trimEnd (b : List Int) : List Int := if b.getLast? = some 32 then b.dropLast else b
theorem trimStep_len (b : List Int) (c : Int) : (trimStep b c).length ≤ b.length + 1 := by
  unfold trimStep
  split <;> simp
theorem trimTo_len (s : ByteArray) (k : Nat) : (trimTo s k).length ≤ k := by
  induction k with
  | zero => simp [trimTo]
  | succ k ih => have := trimStep_len (trimTo s k) (byteAt s k); rw [trimTo]; omega
theorem owns_last {w : World} {base : Nat} {g : Option Addr} {n c : Nat} {zs : List Int} (h : w.ownsRow base 5 1 (.slice g (n + 1) c) (n + 1) (zs.map (Value.int .u8))) (hn : zs.length = n + 1) : ∃ gb x, g = some ⟨gb, 0, none⟩ ∧ zs.getLast? = some x ∧ w.cell? ⟨gb, n, none⟩ = some (.int .u8 x) := by
  rcases h.2 with ⟨_, h9⟩ | ⟨gb, cap, cur, hve, hbg, hgg, _⟩
  · omega
  · simp only [Value.slice.injEq, true_and] at hve
    obtain ⟨rfl, rfl⟩ := hve
    have hj : n < zs.length := by omega
    refine ⟨gb, zs[n], rfl, ?_, ?_⟩
    · rw [List.getLast?_eq_getElem?, hn]
      simp [List.getElem?_eq_getElem hj]
    · have := h.cells (g := gb) rfl n (.int .u8 zs[n]) (by simp [List.getElem?_eq_getElem hj])
      rwa [Go.WideShapes.add_plain, Nat.zero_add] at this

set_option maxRecDepth 100000 in
set_option maxHeartbeats 4000000 in
theorem trim_any (s : ByteArray) (hl : s.size ≤ 140737488351232) (w : World) :
    Calls Try.prog 26 #[.string s] w fun e w' => e = .returned (.string (strOfNums (trimEnd (trimTo s s.size)))) ∧ Below w.heap.size w w' := by
  obtain ⟨i0, hi0, hz0, hz1, hz2⟩ := info_parts Try.info5
  obtain ⟨R, HR⟩ : ∃ R, Hid (trimEnd (trimTo s s.size) = R) := ⟨_, rfl⟩
  rw [HR.out]
  go_enter Try.func26, Try.ntmps26
  go_wp2_with fail
  go_loopw [3, 4] (fun v3 v4 wr => ∃ (k : Nat) (zs : List Int), k ≤ s.size ∧ v4 = .int .i64 (k : Int) ∧ Hid (trimTo s k = zs) ∧ zs.length ≤ k ∧ wr.ownsRow w.heap.size 5 1 v3 zs.length (zs.map (Value.int .u8)) ∧ Below w.heap.size w wr) (fun _ v4 _ => s.size - (intOf v4).toNat)
  case atStart => exact ⟨0, [], by omega, rfl, rfl, by simp, World.ownsRow_nil _ _ _ _, Below.refl _ _⟩
  case round =>
    obtain ⟨k, zs, hk, rfl, HZ, hzl, hO, hB⟩ := hrel
    by_cases hlt : k < s.size
    · obtain ⟨gu, cu, rfl⟩ := owns_form hO
      have hsz := hB.size
      have HF : Hid (∀ (x : Int) (o : Obj) (v' : Value) (w3 : World), w3.ownsRow w.heap.size 5 1 v' (zs.length + 1) (zs.map (Value.int .u8) ++ [.int .u8 x]) → (wr.alloc o).grownBy w3 (Value.slice gu zs.length cu).ownBlock →
          w3.ownsRow w.heap.size 5 1 v' (zs ++ [x]).length ((zs ++ [x]).map (Value.int .u8)) ∧ Below w.heap.size w w3) := by
        intro x o v' w3 h1 h2
        refine ⟨by simpa using h1, (hB.alloc hsz o).grown h2 (by rw [World.size_alloc]; omega) (fun r e => (hO.lt r e).1)⟩
      have ht : byteAt s k = ((s[k]'hlt).toNat : Int) := dif_pos hlt
      have hc256 : (s[k]'hlt).toNat < 256 := (s[k]'hlt).toNat_lt
      obtain ⟨c, hc⟩ : ∃ c, (s[k]'hlt).toNat = c := ⟨_, rfl⟩
      have HS : Hid (trimTo s (k + 1) = trimStep zs c) := by show _ = _; rw [trimTo, HZ.out, ht, hc]
      clear ht HZ
      by_cases a1 : c = 32
      · subst a1
        rcases Nat.eq_zero_or_pos zs.length with h0 | h0
        · obtain rfl : zs = [] := List.eq_nil_of_length_eq_zero h0
          have HN : Hid (trimTo s (k + 1) = []) := by show _ = _; rw [HS.out]; rfl
          have HO : Hid _ := hO
          have HB : Hid _ := hB
          clear HS HF hO hB
          go_wp2
          exact ⟨⟨k + 1, [], by omega, by simp, HN, by simp, HO.out, HB.out⟩, by simp [intOf]; omega⟩
        · obtain ⟨n, hn⟩ : ∃ n, zs.length = n + 1 := ⟨zs.length - 1, by omega⟩
          rw [hn] at hO HF hzl ⊢
          obtain ⟨gb, x, rfl, hx, hcell⟩ := owns_last hO hn
          by_cases a2 : x = 32
          · subst a2
            have HN : Hid (trimTo s (k + 1) = zs) := by show _ = _; rw [HS.out, trimStep, if_pos ⟨rfl, .inr hx⟩]
            have HO : Hid _ := hO
            have HB : Hid _ := hB
            clear HS HF hO hB hx
            go_wp2
            exact ⟨⟨k + 1, zs, by omega, by simp, HN, by omega, by rw [hn]; exact HO.out, HB.out⟩, by simp [intOf]; omega⟩
          · have HN : Hid (trimTo s (k + 1) = zs ++ [32]) := by show _ = _; rw [HS.out, trimStep, if_neg]; rfl; rintro ⟨_, (h | h)⟩; subst h; simp at hn; rw [hx] at h; exact a2 (Option.some.inj h)
            have t1 : (x == 32) = false := by simpa using a2
            clear HS hx
            go_wp2_with (at_builtin; refine wpList_append_own2 _ rfl (.tmp 29) (.tmp 33) 41 rfl w.heap.size 5 i0 (.int .u8 0) 1 1 Try.underlying41 hi0 hz0 hz1 hz2 rfl (by decide) _ _ _ rfl (hO.alloc _) ⟨wr.heap.size, 0, none⟩ 1 1 [.int .u8 32] rfl rfl (cell_one_new _ _ _) (by simp [Value.oneCell']) (by unfold maxLen; omega) (by omega) (by simp; omega) ?_)
            intro v' w3 hown' hgrow _
            have HG : Hid _ := HF.out _ _ v' w3 hown' hgrow
            go_wp2
            exact ⟨⟨k + 1, zs ++ [32], by omega, by simp, HN, by simp; omega, HG.out.1, HG.out.2⟩, by simp [intOf]; omega⟩
      · have HN : Hid (trimTo s (k + 1) = zs ++ [(c : Int)]) := by show _ = _; rw [HS.out, trimStep, if_neg (fun h => a1 (by omega))]
        have t1 : ((c : Int) == 32) = false := beq_eq_false_iff_ne.2 (by omega)
        clear HS
        go_wp2_with (at_builtin; refine wpList_append_own2 _ rfl (.tmp 29) (.tmp 33) 41 rfl w.heap.size 5 i0 (.int .u8 0) 1 1 Try.underlying41 hi0 hz0 hz1 hz2 rfl (by decide) _ _ _ rfl (hO.alloc _) ⟨wr.heap.size, 0, none⟩ 1 1 [.int .u8 (c : Int)] rfl rfl (cell_one_new _ _ _) (by simp [Value.oneCell']) (by unfold maxLen; omega) (by omega) (by simp; omega) ?_)
        intro v' w3 hown' hgrow _
        have HG : Hid _ := HF.out _ _ v' w3 hown' hgrow
        go_wp2
        exact ⟨⟨k + 1, zs ++ [(c : Int)], by omega, by simp, HN, by simp; omega, HG.out.1, HG.out.2⟩, by simp [intOf]; omega⟩
    · obtain rfl : k = s.size := by omega
      have HE : Hid (R = trimEnd zs) := by show _ = _; rw [← HR.out, HZ.out]
      clear HZ
      have HB : Hid (Below w.heap.size w wr) := hB
      clear hB
      obtain ⟨gu, cu, rfl⟩ := owns_form hO
      have hb : BytesIn (fun k => k < wr.heap.size) wr (.slice gu zs.length cu) zs := bytesIn_of_owns (base := w.heap.size) _ hO (fun k h => (hO.lt k h).2)
      rcases Nat.eq_zero_or_pos zs.length with h0 | h0
      · rw [h0] at hb ⊢
        obtain rfl : zs = [] := List.eq_nil_of_length_eq_zero h0
        have hcv := conv_bytes33 _ _ _ _ hb
        have HE2 : Hid (R = []) := HE.out
        clear hb hO HE
        go_wp2
        go_ret
        exact ⟨by rw [HE2.out]; rfl, HB.out⟩
      · obtain ⟨n, hn⟩ : ∃ n, zs.length = n + 1 := ⟨zs.length - 1, by omega⟩
        rw [hn] at hO hb ⊢
        have hcap : n + 1 ≤ cu := by
          rcases hO.2 with ⟨_, h9⟩ | ⟨gb, cap, cur, hve, _, _, h3, _⟩
          · omega
          · simp only [Value.slice.injEq] at hve
            omega
        obtain ⟨gb, x, rfl, hx, hcell⟩ := owns_last hO hn
        by_cases a2 : x = 32
        · subst a2
          have HE2 : Hid (R = zs.dropLast) := HE.out.trans (by unfold trimEnd; rw [if_pos hx])
          have hb2 : BytesIn (fun k => k < wr.heap.size) wr (.slice (some ⟨gb, 0, none⟩) n cu) zs.dropLast := by
            rcases hb with ⟨rfl, _⟩ | ⟨b, off, cap, e, hS, hc⟩
            · simp at hn
            · simp only [Value.slice.injEq, Option.some.injEq, Addr.mk.injEq] at e
              obtain ⟨⟨rfl, rfl, _⟩, _, rfl⟩ := e
              refine .inr ⟨gb, 0, cu, by simp [hn], hS, fun j hj => ?_⟩
              rw [List.length_dropLast] at hj
              rw [hc j (by omega), List.getElem?_dropLast, if_pos (by omega)]
          have hcv := conv_bytes33 _ _ _ _ hb2
          clear hb hb2 hO hx HE
          go_wp2
          go_ret
          exact ⟨by rw [HE2.out]; rfl, HB.out⟩
        · have HE2 : Hid (R = zs) := HE.out.trans (by unfold trimEnd; rw [if_neg]; rw [hx]; intro h; exact a2 (Option.some.inj h))
          have hcv := conv_bytes33 _ _ _ _ hb
          have t1 : (x == 32) = false := by simpa using a2
          clear hb hO hx HE
          go_wp2
          go_ret
          exact ⟨by rw [HE2.out]; rfl, HB.out⟩
end Go.Proofs.Ytckopbcpjecjhaa
