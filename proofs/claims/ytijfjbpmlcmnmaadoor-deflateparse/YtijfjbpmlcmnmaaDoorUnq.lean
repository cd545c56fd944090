/- Unparse of the program, walked. -/
import Derived.Test.YtijfjbpmlcmnmaaDoorUnp
namespace Go.Proofs.YtijfjbpmlcmnmaaDoor
open Go.RowKit

/-- What Unparse answers. -/
def UnpPost (B : Nat) (W0 : World) (R : Option (List Int)) (e : Ending) (W : World) : Prop :=
  Below B W0 W ∧ ((R = none ∧ e = .returned (.tuple #[.slice none 0 0, .bool false])) ∨ ∃ os v, R = some os ∧ e = .returned (.tuple #[v, .bool true]) ∧ OutAt B W v os ∧ AreBytes os ∧ os.length ≤ 1048576)

set_option maxRecDepth 100000 in
set_option maxHeartbeats 4000000 in
theorem unparse_any (S : Nat → Prop) (a : Option Addr) (cap : Nat) (its : List It) (w : World) (hS : ∀ k, S k → k < w.heap.size) (hI : ItsIn S w a its) (hlen : its.length ≤ 5864062014806) (hwf : ∀ r ∈ its, r.wf) (R : Option (List Int)) (HR : Hid (unpS its [] = R)) :
    Calls Tryd.prog 12 #[.slice a its.length cap] w (UnpPost w.heap.size w R) := by
  obtain ⟨i0, hi, hz0, hz1, hz2⟩ := info_parts Tryd.info5
  go_enter Tryd.func12, Tryd.ntmps12
  go_wp2
  go_loopw [4, 9] (fun v4 v9 wr => ∃ (i : Nat) (os : List Int), v9 = .int .i64 (i : Int) ∧ i ≤ its.length ∧ Hid (unpS (its.drop i) os = R) ∧ OutAt w.heap.size wr v4 os ∧ Below w.heap.size w wr ∧ AreBytes os ∧ os.length ≤ 1048576) (fun _ v9 _ => its.length - (intOf v9).toNat)
  case atStart => exact ⟨0, [], rfl, by omega, HR, OutAt.nil _ _, Below.refl _ _, fun j => by simp, by simp⟩
  case round =>
    obtain ⟨i, os, rfl, hile, HRi, hO, hB, hby, hol⟩ := hrel
    obtain ⟨⟨g, c, rfl⟩, hown⟩ := hO
    by_cases hlt : i < its.length
    rotate_left
    · obtain rfl : i = its.length := by omega
      have HF : Hid (UnpPost w.heap.size w R (.returned (.tuple #[.slice g os.length c, .bool true])) wr) := ⟨hB, .inr ⟨os, _, by rw [← HRi.out, List.drop_length]; rfl, rfl, ⟨⟨g, c, rfl⟩, hown⟩, hby, hol⟩⟩
      clear HRi hown hB hI
      go_wp2
      exact bodyPost_ret (v := .tuple #[.slice g os.length c, .bool true]) (by simp [results, Tryd.f12, go_sem]) rfl HF.out
    rcases hI with h0 | ⟨b, off, rfl, hSb, hcs⟩
    · rw [h0] at hlt; simp at hlt
    have hIt := (hcs i its[i] (List.getElem?_eq_getElem hlt)).kept (Kept.of_below hB (fun k hk => hS k hk)) hSb
    have HS : Hid (unpS (its.drop i) os = _) := unpS_step (List.getElem?_eq_getElem hlt) os
    have hw := hwf its[i] (List.getElem_mem hlt)
    generalize its[i] = r at hIt HS hw
    obtain ⟨rb, rl, rd⟩ := r
    have q0 := hIt.cb
    have q1 := hIt.cl
    have q2 := hIt.cd
    simp only at q0 q1 q2
    clear hcs hIt
    go_wp2_with fail
    generalize hk : (wr.alloc (.cells #[.int .i64 rb, .int .i64 rl, .int .i64 rd] 32)) = w1
    have hb1 : Below wr.heap.size wr w1 := by subst hk; exact (Below.refl _ wr).alloc (Nat.le_refl _) _
    have hK1 : Row w1 wr.heap.size 32 #[.int .i64 rb, .int .i64 rl, .int .i64 rd] := by subst hk; exact Row.new wr 32 _
    clear hk q0 q1 q2
    have H1 : Hid (Calls Tryd.prog 24 #[.agg #[.int .i64 rb, .int .i64 rl, .int .i64 rd], .int .i64 (os.length : Int)] w1 _) := fits_any ⟨rb, rl, rd⟩ os.length w1 (by omega)
    refine H1.out.mono ?_
    clear H1
    rintro e w2 ⟨rfl, hb2⟩
    have hwl : w.heap.size ≤ wr.heap.size := hB.size
    have hK2 := hK1.below hb2 hK1.lt
    have hb02 : Below wr.heap.size wr w2 := hb1.trans (hb2.mono hb1.size)
    have hB2 : Below w.heap.size w w2 := hB.trans (hb02.mono hwl)
    have hO2 : OutAt w.heap.size w2 (.slice g os.length c) os := OutAt.below (W := wr) ⟨⟨g, c, rfl⟩, hown⟩ hb02
    clear hb1 hb2 hK1 hown hB hb02
    have q0 := hK2.cell (i := 0) rfl
    have q1 := hK2.cell (i := 1) rfl
    have q2 := hK2.cell (i := 2) rfl
    cases hf : It.fits ⟨rb, rl, rd⟩ os.length
    · have HF : Hid (UnpPost w.heap.size w R (.returned (.tuple #[.slice none 0 0, .bool false])) w2) := ⟨hB2, .inl ⟨by rw [← HRi.out, HS.out]; simp [unpStep, hf], rfl⟩⟩
      clear HRi HS hO2 hB2 hK2 hf
      go_wp2
      exact bodyPost_ret (v := .tuple #[.slice none 0 0, .bool false]) (by simp [results, Tryd.f12, go_sem]) rfl HF.out
    have H2 : Hid (Calls Tryd.prog 25 #[.agg #[.int .i64 rb, .int .i64 rl, .int .i64 rd]] w2 _) := size_any ⟨rb, rl, rd⟩ w2
    go_wp2_with fail
    refine H2.out.mono ?_
    clear H2
    rintro e w3 ⟨rfl, hb3⟩
    simp only
    have hK3 := hK2.below hb3 hK2.lt
    have hB3 : Below w.heap.size w w3 := hB2.trans (hb3.mono hB2.size)
    have hO3 := hO2.below hb3
    clear hb3 hK2 hB2 hO2 q0 q1 q2
    have q0 := hK3.cell (i := 0) rfl
    have q1 := hK3.cell (i := 1) rfl
    have q2 := hK3.cell (i := 2) rfl
    have hsub : IntKind.i64.wrap (1048576 - (os.length : Int)) = 1048576 - (os.length : Int) := by simp [IntKind.wrap, IntKind.bits, IntKind.signed]; omega
    by_cases hroom : max 1 rl ≤ 1048576 - (os.length : Int)
    rotate_left
    · have HF : Hid (UnpPost w.heap.size w R (.returned (.tuple #[.slice none 0 0, .bool false])) w3) := ⟨hB3, .inl ⟨by rw [← HRi.out, HS.out]; simp only [unpStep]; rw [if_neg (fun h => hroom h.2)], rfl⟩⟩
      have t1 : 1048576 - (os.length : Int) < max 1 rl := by omega
      generalize max 1 rl = mx at t1
      clear HRi HS hO3 hB3 hK3 hf hroom
      go_wp2
      exact bodyPost_ret (v := .tuple #[.slice none 0 0, .bool false]) (by simp [results, Tryd.f12, go_sem]) rfl HF.out
    have t1 : ¬ (1048576 - (os.length : Int) < max 1 rl) := by omega
    have HST : Hid (unpStep os ⟨rb, rl, rd⟩ = some (if rl = 0 then os ++ [rb] else copyS os rd.toNat rl.toNat)) := by show _ = _; simp only [unpStep]; rw [if_pos ⟨hf, hroom⟩]
    have HL : Hid (i < its.length) := hlt
    by_cases hl0 : rl = 0
    · subst hl0
      have hfb : rd = 0 ∧ 0 ≤ rb ∧ rb ≤ 255 := by simpa [It.fits, and_assoc] using hf
      have hcv : IntKind.u8.wrap rb = rb := by simp [IntKind.wrap, IntKind.bits, IntKind.signed]; omega
      have HN : Hid (Hid (unpS (its.drop (i + 1)) (os ++ [rb]) = R) ∧ AreBytes (os ++ [rb]) ∧ (os ++ [rb]).length ≤ 1048576) := by
        refine ⟨?_, push_bytes os rb hby hfb.2.1 hfb.2.2, ?_⟩
        · show _ = _
          rw [← HRi.out, HS.out, HST.out]; rfl
        · rw [List.length_append]; have : max 1 (0 : Int) = 1 := rfl
          show os.length + 1 ≤ 1048576
          omega
      generalize max 1 (0 : Int) = mx at t1
      clear HRi HS HST hf hroom hby
      obtain ⟨_, hown⟩ := hO3
      go_wp2_with (at_builtin; refine wpList_append_own2 _ rfl (.tmp 29) (.tmp 33) 22 rfl w.heap.size 5 i0 (.int .u8 0) 1 1 Tryd.underlying22 hi hz0 hz1 hz2 rfl (by decide) _ _ _ rfl (OutAt.alloc (os := os) (B := w.heap.size) ⟨⟨g, c, rfl⟩, hown⟩ _).2 ⟨w3.heap.size, 0, none⟩ 1 1 [.int .u8 rb] rfl rfl (cell_one_new _ _ _) (by simp [Value.oneCell']) (by unfold maxLen; omega) (by omega) (by have := hB3.size; simp; omega) ?_)
      intro v' w4 hown' hgrow hblk
      have HP := out_push (W0 := w) (OutAt.alloc (os := os) (B := w.heap.size) ⟨⟨g, c, rfl⟩, hown⟩ (.cells #[.int .u8 rb] 5)) (hB3.alloc (by have := hB3.size; omega) _) hown' hgrow (by have := hB3.size; simp; omega)
      obtain ⟨⟨⟨g', c', rfl⟩, ho4⟩, hB4, -⟩ := HP
      clear hown hown' hgrow hblk hB3 hK3 q0 q1 q2
      go_wp2
      exact ⟨⟨i + 1, os ++ [rb], by go_num, by have := HL.out; omega, HN.out.1, ⟨⟨g', c', rfl⟩, ho4⟩, hB4, HN.out.2.1, HN.out.2.2⟩, by have := HL.out; simp [intOf]; omega⟩
    · have hfb : rb = 0 ∧ 3 ≤ rl ∧ rl ≤ 258 ∧ 1 ≤ rd ∧ rd ≤ 32768 ∧ rd ≤ (os.length : Int) := by simpa [It.fits, hl0, and_assoc] using hf
      obtain ⟨rfl, l3, l258, d1, d2, d3⟩ := hfb
      obtain ⟨n, rfl⟩ : ∃ n : Nat, rl = (n : Int) := ⟨rl.toNat, by omega⟩
      obtain ⟨far, rfl⟩ : ∃ far : Nat, rd = (far : Int) := ⟨rd.toNat, by omega⟩
      have e1 : ((n : Int) == 0) = false := by simpa using hl0
      have HN : Hid (Hid (unpS (its.drop (i + 1)) (copyS os far n) = R) ∧ AreBytes (copyS os far n) ∧ (copyS os far n).length ≤ 1048576) := by
        refine ⟨?_, copyS_bytes os far n hby, ?_⟩
        · show _ = _
          rw [← HRi.out, HS.out, HST.out, if_neg hl0]; rfl
        · rw [copyS_length]
          omega
      generalize max 1 (n : Int) = mx at t1
      clear HRi HS HST hf
      generalize wr.heap.size = K at hK3 hwl q0 q1 q2 ⊢
      go_wp2
      go_loopw [4, 37] (fun v4 v37 wq => ∃ k : Nat, v37 = .int .i64 (k : Int) ∧ k ≤ n ∧ OutAt w.heap.size wq v4 (copyS os far k) ∧ Below w.heap.size w wq ∧ Row wq K 32 #[.int .i64 0, .int .i64 (n : Int), .int .i64 (far : Int)]) (fun _ v37 _ => n - (intOf v37).toNat)
      case atStart => exact ⟨0, rfl, by omega, hO3, hB3, hK3⟩
      case round =>
        obtain ⟨k, rfl, hkn, ⟨⟨gq, cq, rfl⟩, hoq⟩, hBq, hKq⟩ := hrel
        have HLQ : Hid ((copyS os far k).length = os.length + k) := copyS_length os far k
        have HNX : Hid (copyS os far (k + 1) = copyS os far k ++ [(copyS os far k)[(copyS os far k).length - far]?.getD 0]) := rfl
        have hbq : AreBytes (copyS os far k) := copyS_bytes os far k hby
        by_cases hkl : k < n
        rotate_left
        · obtain rfl : k = n := by omega
          go_wp2
          exact ⟨⟨i + 1, _, by go_num, by have := HL.out; omega, HN.out.1, ⟨⟨gq, cq, rfl⟩, hoq⟩, hBq, HN.out.2.1, HN.out.2.2⟩, by have := HL.out; simp [intOf]; omega⟩
        generalize copyS os far k = oq at *
        obtain ⟨m, hm⟩ : ∃ m, oq.length = m + 1 := ⟨oq.length - 1, by have := HLQ.out; omega⟩
        obtain ⟨gb, rfl⟩ : ∃ gb, gq = some ⟨gb, 0, none⟩ := by
          rw [hm] at hoq
          obtain ⟨g', cap', hv⟩ := ownsRow_succ hoq
          simp at hv
          exact ⟨g', hv.1⟩
        have hbb := hbq (oq.length - far)
        have hcb : wr.cell? ⟨gb, oq.length - far, none⟩ = some (.int .u8 (oq[oq.length - far]?.getD 0)) := by
          have hjl : oq.length - far < oq.length := by omega
          have h := hoq.cells (g := gb) rfl (oq.length - far) (.int .u8 (oq[oq.length - far]?.getD 0)) (by simp [hjl])
          have hadd : (⟨gb, 0, none⟩ : Addr).add (oq.length - far) = ⟨gb, oq.length - far, none⟩ := by unfold Addr.add; split <;> simp_all
          rwa [hadd] at h
        have hfl : far ≤ oq.length := by have := HLQ.out; omega
        generalize oq[oq.length - far]?.getD 0 = bb at hbb hcb HNX
        have q2 := hKq.cell (i := 2) rfl
        have HLQ' : Hid (oq.length + 1 ≤ 1048576) := by show _ ≤ _; have := HLQ.out; have := HN.out.2.2; rw [copyS_length] at this; omega
        have hb9 : oq.length ≤ 1048576 := by have := HLQ'.out; omega
        have hw64 : wrap64 ((oq.length - far : Nat) : Int) = ((oq.length - far : Nat) : Int) := by unfold wrap64; omega
        have hcc : (oq.length : Int) - (far : Int) = ((oq.length - far : Nat) : Int) := by omega
        have HKL : Hid (k < n) := hkl
        clear hm HLQ
        go_wp2_with (at_builtin; refine wpList_append_own2 _ rfl (.tmp 39) (.tmp 48) 22 rfl w.heap.size 5 i0 (.int .u8 0) 1 1 Tryd.underlying22 hi hz0 hz1 hz2 rfl (by decide) _ _ _ rfl (OutAt.alloc (os := oq) (B := w.heap.size) ⟨⟨_, _, rfl⟩, hoq⟩ _).2 ⟨wr.heap.size, 0, none⟩ 1 1 [.int .u8 bb] rfl rfl (cell_one_new _ _ _) (by simp [Value.oneCell']) (by have := HLQ'.out; unfold maxLen; omega) (by have := HLQ'.out; omega) (by have := hBq.size; simp; omega) ?_)
        intro v' w4 hown' hgrow hblk
        have HP := out_push (W0 := w) (OutAt.alloc (os := oq) (B := w.heap.size) ⟨⟨_, _, rfl⟩, hoq⟩ (.cells #[.int .u8 bb] 5)) (hBq.alloc (by have := hBq.size; omega) _) hown' hgrow (by have := hBq.size; simp; omega)
        obtain ⟨⟨⟨g', c', rfl⟩, ho4⟩, hB4, hrow⟩ := HP
        have hK4 := hrow K 32 _ (hKq.alloc _) (by decide)
        clear hoq hown' hgrow hblk hBq hKq q0 q1 q2 hrow hcb
        go_wp2
        exact ⟨⟨k + 1, by go_num, by have := HKL.out; omega, by rw [HNX.out]; exact ⟨⟨g', c', rfl⟩, ho4⟩, hB4, hK4⟩, by have := HKL.out; simp [intOf]; omega⟩
end Go.Proofs.YtijfjbpmlcmnmaaDoor
