/- utf: the document's Runes, from what 'first' finds. -/
import Derived.Test.YtckopbcpjecjhaaUva
namespace Go.Proofs.Ytckopbcpjecjhaa
open Go.RowKit

theorem Try.info3 : (Try.prog.info? 3).map (fun i => (i.zero, i.size, i.bytes)) = some (some (.int .i64 0), 1, 8) := by kernel_rfl
def runesZ (s : ByteArray) : List Int := (runesL (natsOf s)).map Int.ofNat

set_option maxRecDepth 100000 in
set_option maxHeartbeats 4000000 in
theorem runes_any (H12 : FirstSays) (s : ByteArray) (hl : s.size ≤ 17592186044415) (w : World) :
    Calls Try.prog 14 #[.string s] w fun e w' => ∃ g c, e = .returned (.slice g (runesZ s).length c) ∧ w'.ownsRow w.heap.size 3 1 (.slice g (runesZ s).length c) (runesZ s).length ((runesZ s).map (Value.int .i64)) ∧ Below w.heap.size w w' := by
  obtain ⟨i0, hi0, hz0, hz1, hz2⟩ := info_parts Try.info3
  obtain ⟨R, HR⟩ : ∃ R, Hid (runesZ s = R) := ⟨_, rfl⟩
  rw [HR.out]
  go_enter Try.func14, Try.ntmps14
  go_wp2_with fail
  go_loopw [0, 3] (fun v0 v3 wr => ∃ (t : ByteArray) (zs : List Int), v0 = .string t ∧ zs.length + t.size ≤ s.size ∧ Hid (zs ++ runesZ t = R) ∧ wr.ownsRow w.heap.size 3 1 v3 zs.length (zs.map (Value.int .i64)) ∧ Below w.heap.size w wr) (fun v0 _ _ => (strV v0).size)
  case atStart => exact ⟨s, [], rfl, by simp, HR, World.ownsRow_nil _ _ _ _, Below.refl _ _⟩
  case round =>
    obtain ⟨t, zs, rfl, ht, HT, hO, hB⟩ := hrel
    obtain ⟨gu, cu, rfl⟩ := owns_form hO
    by_cases h0 : 0 < t.size
    · have HC : Hid _ := H12 t wr h0 (by omega)
      have hO1 : ∀ w1, Below wr.heap.size wr w1 → w1.ownsRow w.heap.size 3 1 (.slice gu zs.length cu) zs.length (zs.map (Value.int .i64)) := fun w1 h => owns_kept hO (Kept.of_below h (fun _ h => h)) (fun k hk => (hO.lt k hk).2)
      go_wp2_with fail
      refine Calls.mono HC.out ?_
      rintro e w1 ⟨rfl, hb1⟩
      clear HC
      have hne : natsOf t ≠ [] := by
        intro h
        have := natsOf_len t
        rw [h] at this
        simp at this
        omega
      have hB1 := hB.trans (hb1.mono hB.size)
      have hO2 := hO1 w1 hb1
      have h1 := (dec_size (natsOf t)).1
      have h2 := dec_le hne
      rw [natsOf_len] at h2
      obtain ⟨c, hc⟩ : ∃ c, (decL (natsOf t)).1 = c := ⟨_, rfl⟩
      obtain ⟨n, hn⟩ : ∃ n, (decL (natsOf t)).2 = n := ⟨_, rfl⟩
      obtain ⟨ok, hok⟩ : ∃ ok, decide (decL (natsOf t) ≠ (65533, 1)) = ok := ⟨_, rfl⟩
      have HN : Hid ((zs ++ [(c : Int)]) ++ runesZ (t.extract n t.size) = R) := by
        show _ = _
        rw [← HT.out]
        unfold runesZ
        rw [natsOf_drop, runesL_step hne, hc, hn]
        simp
      rw [hok, hc, hn]
      rw [hn] at h1 h2
      have hsz := hB1.size
      have HF : Hid (∀ (o : Obj) (v' : Value) (w3 : World), w3.ownsRow w.heap.size 3 1 v' (zs.length + 1) (zs.map (Value.int .i64) ++ [.int .i64 (c : Int)]) → (w1.alloc o).grownBy w3 (Value.slice gu zs.length cu).ownBlock →
          w3.ownsRow w.heap.size 3 1 v' (zs ++ [(c : Int)]).length ((zs ++ [(c : Int)]).map (Value.int .i64)) ∧ Below w.heap.size w w3) := by
        intro o v' w3 h1 h2
        refine ⟨by simpa using h1, (hB1.alloc hsz o).grown h2 (by rw [World.size_alloc]; omega) (fun r e => (hO2.lt r e).1)⟩
      have hsx : (t.extract n t.size).size = t.size - n := by rw [ByteArray.size_extract]; omega
      clear hB hb1 HT hne hc hn hok hO hO1
      go_wp2_with (at_builtin; refine wpList_append_own2 _ rfl (.tmp 16) (.tmp 18) 26 rfl w.heap.size 3 i0 (.int .i64 0) 1 8 Try.underlying26 hi0 hz0 hz1 hz2 rfl (by decide) _ _ _ rfl (hO2.alloc _) ⟨w1.heap.size, 0, none⟩ 1 1 [.int .i64 (c : Int)] rfl rfl (cell_one_new _ _ _) (by simp [Value.oneCell']) (by unfold maxLen; omega) (by omega) (by simp; omega) ?_)
      intro v' w3 hown' hgrow _
      have HG : Hid _ := HF.out _ v' w3 hown' hgrow
      go_wp2
      exact ⟨⟨_, _, rfl, by simp; omega, HN, HG.out.1, HG.out.2⟩, by simp only [strV]; omega⟩
    · have HRt : Hid (R = zs) := by
        show _ = _
        rw [← HT.out]
        have : natsOf t = [] := List.eq_nil_of_length_eq_zero (by rw [natsOf_len]; omega)
        unfold runesZ
        rw [this]
        simp [runesL, runesF]
      have HB : Hid (Below w.heap.size w wr) := hB
      have HO : Hid _ := hO
      have e0 : (t.size : Int) = 0 := by omega
      clear hB HT hO
      go_wp2
      go_ret
      exact ⟨gu, cu, by rw [HRt.out]; rfl, by rw [HRt.out]; exact HO.out, HB.out⟩
end Go.Proofs.Ytckopbcpjecjhaa
