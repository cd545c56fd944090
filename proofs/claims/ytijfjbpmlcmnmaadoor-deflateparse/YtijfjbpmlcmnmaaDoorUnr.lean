/- Unparse of the document, walked. -/
import Derived.Test.YtijfjbpmlcmnmaaDoorUnq
namespace Go.Proofs.YtijfjbpmlcmnmaaDoor
open Go.RowKit

/-- An item that may stand there, in the document's words. -/
def okP (r : It) (n : Nat) : Prop := (r.l = 0 ∧ r.d = 0 ∧ 0 ≤ r.b ∧ r.b ≤ 255 ∧ n < 1048576) ∨ (r.l ≠ 0 ∧ r.b = 0 ∧ 3 ≤ r.l ∧ r.l ≤ 258 ∧ 1 ≤ r.d ∧ r.d ≤ 32768 ∧ r.d ≤ (n : Int) ∧ r.l ≤ 1048576 - (n : Int))
theorem fits_iff (r : It) (n : Nat) : (r.fits n = true ∧ max 1 r.l ≤ 1048576 - (n : Int)) ↔ okP r n := by
  unfold okP It.fits
  by_cases h : r.l = 0
  · rw [if_pos h]
    simp only [Bool.and_eq_true, decide_eq_true_eq]
    omega
  · rw [if_neg h]
    simp only [Bool.and_eq_true, decide_eq_true_eq]
    omega
theorem unp_none {os : List Int} {r : It} (h : ¬ okP r os.length) : unpStep os r = none := if_neg (fun h' => h ((fits_iff r _).1 h'))
theorem unp_some {os : List Int} {r : It} (h : okP r os.length) : unpStep os r = some (if r.l = 0 then os ++ [r.b] else copyS os r.d.toNat r.l.toNat) := if_pos ((fits_iff r _).2 h)

set_option maxRecDepth 100000 in
set_option maxHeartbeats 4000000 in
theorem refUnparse_any (S : Nat → Prop) (a : Option Addr) (cap : Nat) (its : List It) (w : World) (hS : ∀ k, S k → k < w.heap.size) (hI : ItsIn S w a its) (hlen : its.length ≤ 5864062014806) (R : Option (List Int)) (HR : Hid (unpS its [] = R)) :
    Calls Tryd.prog 11 #[.slice a its.length cap] w (UnpPost w.heap.size w R) := by
  obtain ⟨i0, hi, hz0, hz1, hz2⟩ := info_parts Tryd.info5
  go_enter Tryd.func11, Tryd.ntmps11
  go_wp2
  go_loopw [4, 5] (fun v4 v9 wr => ∃ (i : Nat) (os : List Int), v9 = .int .i64 (i : Int) ∧ i ≤ its.length ∧ Hid (unpS (its.drop i) os = R) ∧ OutAt w.heap.size wr v4 os ∧ Below w.heap.size w wr ∧ AreBytes os ∧ os.length ≤ 1048576) (fun _ v9 _ => its.length - (intOf v9).toNat)
  case atStart => exact ⟨0, [], rfl, by omega, HR, OutAt.nil _ _, Below.refl _ _, fun j => by simp, by simp⟩
  case round =>
    obtain ⟨i, os, rfl, hile, HRi, hO, hB, hby, hol⟩ := hrel
    obtain ⟨⟨g, c, rfl⟩, hown⟩ := hO
    by_cases hlt : i < its.length
    rotate_left
    · obtain rfl : i = its.length := by omega
      have HF : Hid (UnpPost w.heap.size w R (.returned (.tuple #[.slice g os.length c, .bool true])) wr) := ⟨hB, .inr ⟨os, _, by rw [← HRi.out, List.drop_length]; rfl, rfl, ⟨⟨g, c, rfl⟩, hown⟩, hby, hol⟩⟩
      clear HRi hown hB hI
      go_wp2
      exact bodyPost_ret (v := .tuple #[.slice g os.length c, .bool true]) (by simp [results, Tryd.f11, go_sem]) rfl HF.out
    rcases hI with h0 | ⟨b, off, rfl, hSb, hcs⟩
    · rw [h0] at hlt; simp at hlt
    have hIt := (hcs i its[i] (List.getElem?_eq_getElem hlt)).kept (Kept.of_below hB (fun k hk => hS k hk)) hSb
    have HS : Hid (unpS (its.drop i) os = _) := unpS_step (List.getElem?_eq_getElem hlt) os
    generalize its[i] = r at hIt HS
    obtain ⟨rb, rl, rd⟩ := r
    have q0 := hIt.cb
    have q1 := hIt.cl
    have q2 := hIt.cd
    simp only at q0 q1 q2
    have HL : Hid (i < its.length) := hlt
    have hsub : IntKind.i64.wrap (1048576 - (os.length : Int)) = 1048576 - (os.length : Int) := by simp [IntKind.wrap, IntKind.bits, IntKind.signed]; omega
    have HW : Hid (Below wr.heap.size wr (wr.alloc (.cells #[.int .i64 rb, .int .i64 rl, .int .i64 rd] 33)) ∧ Row (wr.alloc (.cells #[.int .i64 rb, .int .i64 rl, .int .i64 rd] 33)) wr.heap.size 33 #[.int .i64 rb, .int .i64 rl, .int .i64 rd]) := ⟨(Below.refl _ wr).alloc (Nat.le_refl _) _, Row.new wr 33 _⟩
    clear hcs hIt
    by_cases hl0 : rl = 0
    · subst hl0
      by_cases h1 : rb < 0
      · skip
        have HF : Hid (UnpPost w.heap.size w R (.returned (.tuple #[.slice none 0 0, .bool false])) (wr.alloc (.cells #[.int .i64 rb, .int .i64 0, .int .i64 rd] 33))) := ⟨hB.trans (HW.out.1.mono hB.size), .inl ⟨by rw [← HRi.out, HS.out, unp_none (by simp only [okP]; omega)], rfl⟩⟩
        clear HRi HS hown hB HW
        go_wp2
        exact bodyPost_ret (v := .tuple #[.slice none 0 0, .bool false]) (by simp [results, Tryd.f11, go_sem]) rfl HF.out
      by_cases h2 : 255 < rb
      · skip
        have HF : Hid (UnpPost w.heap.size w R (.returned (.tuple #[.slice none 0 0, .bool false])) (wr.alloc (.cells #[.int .i64 rb, .int .i64 0, .int .i64 rd] 33))) := ⟨hB.trans (HW.out.1.mono hB.size), .inl ⟨by rw [← HRi.out, HS.out, unp_none (by simp only [okP]; omega)], rfl⟩⟩
        clear HRi HS hown hB HW
        go_wp2
        exact bodyPost_ret (v := .tuple #[.slice none 0 0, .bool false]) (by simp [results, Tryd.f11, go_sem]) rfl HF.out
      by_cases h3 : rd = 0
      rotate_left
      · have e3 : (rd == 0) = false := by simpa using h3
        have HF : Hid (UnpPost w.heap.size w R (.returned (.tuple #[.slice none 0 0, .bool false])) (wr.alloc (.cells #[.int .i64 rb, .int .i64 0, .int .i64 rd] 33))) := ⟨hB.trans (HW.out.1.mono hB.size), .inl ⟨by rw [← HRi.out, HS.out, unp_none (by simp only [okP]; omega)], rfl⟩⟩
        clear HRi HS hown hB HW
        go_wp2
        exact bodyPost_ret (v := .tuple #[.slice none 0 0, .bool false]) (by simp [results, Tryd.f11, go_sem]) rfl HF.out
      subst h3
      by_cases h4 : (1048576 : Int) ≤ (os.length : Int)
      · skip
        have HF : Hid (UnpPost w.heap.size w R (.returned (.tuple #[.slice none 0 0, .bool false])) (wr.alloc (.cells #[.int .i64 rb, .int .i64 0, .int .i64 0] 33))) := ⟨hB.trans (HW.out.1.mono hB.size), .inl ⟨by rw [← HRi.out, HS.out, unp_none (by simp only [okP]; omega)], rfl⟩⟩
        clear HRi HS hown hB HW
        go_wp2
        exact bodyPost_ret (v := .tuple #[.slice none 0 0, .bool false]) (by simp [results, Tryd.f11, go_sem]) rfl HF.out
      have hcv : IntKind.u8.wrap rb = rb := by simp [IntKind.wrap, IntKind.bits, IntKind.signed]; omega
      have HN : Hid (Hid (unpS (its.drop (i + 1)) (os ++ [rb]) = R) ∧ AreBytes (os ++ [rb]) ∧ (os ++ [rb]).length ≤ 1048576) := by
        refine ⟨?_, push_bytes os rb hby (by omega) (by omega), ?_⟩
        · show _ = _
          rw [← HRi.out, HS.out, unp_some (show okP ⟨rb, 0, 0⟩ os.length from .inl ⟨rfl, rfl, by show (0 : Int) ≤ rb; omega, by show rb ≤ 255; omega, by omega⟩)]; rfl
        · rw [List.length_append]
          show os.length + 1 ≤ 1048576
          omega
      have hO1 : OutAt w.heap.size (wr.alloc (.cells #[.int .i64 rb, .int .i64 0, .int .i64 0] 33)) (.slice g os.length c) os := OutAt.alloc ⟨⟨g, c, rfl⟩, hown⟩ _
      have hB1 : Below w.heap.size w (wr.alloc (.cells #[.int .i64 rb, .int .i64 0, .int .i64 0] 33)) := hB.trans (HW.out.1.mono hB.size)
      have hsz : wr.heap.size + 1 = (wr.alloc (.cells #[.int .i64 rb, .int .i64 0, .int .i64 0] 33)).heap.size := by simp
      have HSZ : Hid (wr.heap.size + 1 = (wr.alloc (.cells #[.int .i64 rb, .int .i64 0, .int .i64 0] 33)).heap.size) := hsz
      clear HRi HS hby hown hsz
      go_wp2_with (at_builtin; refine wpList_append_own2 _ rfl (.tmp 39) (.tmp 43) 22 rfl w.heap.size 5 i0 (.int .u8 0) 1 1 Tryd.underlying22 hi hz0 hz1 hz2 rfl (by decide) _ _ _ rfl (OutAt.alloc (os := os) (B := w.heap.size) hO1 _).2 ⟨wr.heap.size + 1, 0, none⟩ 1 1 [.int .u8 rb] rfl rfl (by rw [HSZ.out]; exact cell_one_new _ _ _) (by simp [Value.oneCell']) (by unfold maxLen; omega) (by omega) (by have := hB1.size; simp; simp at this; omega) ?_)
      intro v' w4 hown' hgrow hblk
      have HP := out_push (W0 := w) (OutAt.alloc (os := os) (B := w.heap.size) hO1 (.cells #[.int .u8 rb] 5)) (hB1.alloc hB1.size _) hown' hgrow (by have := hB1.size; simp; simp at this; omega)
      obtain ⟨⟨⟨g', c', rfl⟩, ho4⟩, hB4, -⟩ := HP
      clear hown' hgrow hblk hB1 hO1 hB HW
      go_wp2
      exact ⟨⟨i + 1, os ++ [rb], by go_num, by have := HL.out; omega, HN.out.1, ⟨⟨g', c', rfl⟩, ho4⟩, hB4, HN.out.2.1, HN.out.2.2⟩, by have := HL.out; simp [intOf]; omega⟩
    · have e0 : (rl == 0) = false := by simpa using hl0
      by_cases h1 : rb = 0
      rotate_left
      · have e1 : (rb == 0) = false := by simpa using h1
        have HF : Hid (UnpPost w.heap.size w R (.returned (.tuple #[.slice none 0 0, .bool false])) (wr.alloc (.cells #[.int .i64 rb, .int .i64 rl, .int .i64 rd] 33))) := ⟨hB.trans (HW.out.1.mono hB.size), .inl ⟨by rw [← HRi.out, HS.out, unp_none (by simp only [okP]; omega)], rfl⟩⟩
        clear HRi HS hown hB HW
        go_wp2
        exact bodyPost_ret (v := .tuple #[.slice none 0 0, .bool false]) (by simp [results, Tryd.f11, go_sem]) rfl HF.out
      subst h1
      by_cases h2 : rl < 3
      · skip
        have HF : Hid (UnpPost w.heap.size w R (.returned (.tuple #[.slice none 0 0, .bool false])) (wr.alloc (.cells #[.int .i64 0, .int .i64 rl, .int .i64 rd] 33))) := ⟨hB.trans (HW.out.1.mono hB.size), .inl ⟨by rw [← HRi.out, HS.out, unp_none (by simp only [okP]; omega)], rfl⟩⟩
        clear HRi HS hown hB HW
        go_wp2
        exact bodyPost_ret (v := .tuple #[.slice none 0 0, .bool false]) (by simp [results, Tryd.f11, go_sem]) rfl HF.out
      by_cases h3 : 258 < rl
      · skip
        have HF : Hid (UnpPost w.heap.size w R (.returned (.tuple #[.slice none 0 0, .bool false])) (wr.alloc (.cells #[.int .i64 0, .int .i64 rl, .int .i64 rd] 33))) := ⟨hB.trans (HW.out.1.mono hB.size), .inl ⟨by rw [← HRi.out, HS.out, unp_none (by simp only [okP]; omega)], rfl⟩⟩
        clear HRi HS hown hB HW
        go_wp2
        exact bodyPost_ret (v := .tuple #[.slice none 0 0, .bool false]) (by simp [results, Tryd.f11, go_sem]) rfl HF.out
      by_cases h4 : rd < 1
      · skip
        have HF : Hid (UnpPost w.heap.size w R (.returned (.tuple #[.slice none 0 0, .bool false])) (wr.alloc (.cells #[.int .i64 0, .int .i64 rl, .int .i64 rd] 33))) := ⟨hB.trans (HW.out.1.mono hB.size), .inl ⟨by rw [← HRi.out, HS.out, unp_none (by simp only [okP]; omega)], rfl⟩⟩
        clear HRi HS hown hB HW
        go_wp2
        exact bodyPost_ret (v := .tuple #[.slice none 0 0, .bool false]) (by simp [results, Tryd.f11, go_sem]) rfl HF.out
      by_cases h5 : 32768 < rd
      · skip
        have HF : Hid (UnpPost w.heap.size w R (.returned (.tuple #[.slice none 0 0, .bool false])) (wr.alloc (.cells #[.int .i64 0, .int .i64 rl, .int .i64 rd] 33))) := ⟨hB.trans (HW.out.1.mono hB.size), .inl ⟨by rw [← HRi.out, HS.out, unp_none (by simp only [okP]; omega)], rfl⟩⟩
        clear HRi HS hown hB HW
        go_wp2
        exact bodyPost_ret (v := .tuple #[.slice none 0 0, .bool false]) (by simp [results, Tryd.f11, go_sem]) rfl HF.out
      by_cases h6 : (os.length : Int) < rd
      · skip
        have HF : Hid (UnpPost w.heap.size w R (.returned (.tuple #[.slice none 0 0, .bool false])) (wr.alloc (.cells #[.int .i64 0, .int .i64 rl, .int .i64 rd] 33))) := ⟨hB.trans (HW.out.1.mono hB.size), .inl ⟨by rw [← HRi.out, HS.out, unp_none (by simp only [okP]; omega)], rfl⟩⟩
        clear HRi HS hown hB HW
        go_wp2
        exact bodyPost_ret (v := .tuple #[.slice none 0 0, .bool false]) (by simp [results, Tryd.f11, go_sem]) rfl HF.out
      by_cases h7 : 1048576 - (os.length : Int) < rl
      · skip
        have HF : Hid (UnpPost w.heap.size w R (.returned (.tuple #[.slice none 0 0, .bool false])) (wr.alloc (.cells #[.int .i64 0, .int .i64 rl, .int .i64 rd] 33))) := ⟨hB.trans (HW.out.1.mono hB.size), .inl ⟨by rw [← HRi.out, HS.out, unp_none (by simp only [okP]; omega)], rfl⟩⟩
        clear HRi HS hown hB HW
        go_wp2
        exact bodyPost_ret (v := .tuple #[.slice none 0 0, .bool false]) (by simp [results, Tryd.f11, go_sem]) rfl HF.out
      obtain ⟨n, rfl⟩ : ∃ n : Nat, rl = (n : Int) := ⟨rl.toNat, by omega⟩
      obtain ⟨far, rfl⟩ : ∃ far : Nat, rd = (far : Int) := ⟨rd.toNat, by omega⟩
      have HN : Hid (Hid (unpS (its.drop (i + 1)) (copyS os far n) = R) ∧ AreBytes (copyS os far n) ∧ (copyS os far n).length ≤ 1048576) := by
        refine ⟨?_, copyS_bytes os far n hby, ?_⟩
        · show _ = _
          rw [← HRi.out, HS.out, unp_some (show okP ⟨0, (n : Int), (far : Int)⟩ os.length from .inr ⟨hl0, rfl, by show (3 : Int) ≤ (n : Int); omega, by show (n : Int) ≤ 258; omega, by show (1 : Int) ≤ (far : Int); omega, by show (far : Int) ≤ 32768; omega, by show (far : Int) ≤ (os.length : Int); omega, by show (n : Int) ≤ 1048576 - (os.length : Int); omega⟩), if_neg hl0]; rfl
        · rw [copyS_length]
          omega
      obtain ⟨wo, rfl⟩ : ∃ wo, wo = wr := ⟨wr, rfl⟩
      have hO1 : OutAt w.heap.size (wo.alloc (.cells #[.int .i64 0, .int .i64 (n : Int), .int .i64 (far : Int)] 33)) (.slice g os.length c) os := OutAt.alloc ⟨⟨g, c, rfl⟩, hown⟩ _
      have HB1 : Hid (Below w.heap.size w (wo.alloc (.cells #[.int .i64 0, .int .i64 (n : Int), .int .i64 (far : Int)] 33))) := hB.trans (HW.out.1.mono hB.size)
      have hwl := hB.size
      clear HRi HS hown hB
      go_wp2
      go_loopw [4, 7] (fun v4 v37 wq => ∃ k : Nat, v37 = .int .i64 (k : Int) ∧ k ≤ n ∧ OutAt w.heap.size wq v4 (copyS os far k) ∧ Below w.heap.size w wq ∧ Row wq wo.heap.size 33 #[.int .i64 0, .int .i64 (n : Int), .int .i64 (far : Int)]) (fun _ v37 _ => n - (intOf v37).toNat)
      case atStart => exact ⟨0, rfl, by omega, hO1, HB1.out, HW.out.2⟩
      case round =>
        clear hO1 HB1 HW q0 q1 q2
        obtain ⟨k, rfl, hkn, ⟨⟨gq, cq, rfl⟩, hoq⟩, hBq, hKq⟩ := hrel
        have HLQ : Hid ((copyS os far k).length = os.length + k) := copyS_length os far k
        have HNX : Hid (copyS os far (k + 1) = copyS os far k ++ [(copyS os far k)[(copyS os far k).length - far]?.getD 0]) := rfl
        have hbq : AreBytes (copyS os far k) := copyS_bytes os far k hby
        have q1' := hKq.cell (i := 1) rfl
        by_cases hkl : k < n
        rotate_left
        · obtain rfl : k = n := by omega
          go_wp2
          exact ⟨⟨i + 1, _, by go_num, by have := HL.out; omega, HN.out.1, ⟨⟨gq, cq, rfl⟩, hoq⟩, hBq, HN.out.2.1, HN.out.2.2⟩, by have := HL.out; simp [intOf]; omega⟩
        generalize copyS os far k = oq at *
        obtain ⟨m, hm⟩ : ∃ m, oq.length = m + 1 := ⟨oq.length - 1, by have := HLQ.out; omega⟩
        obtain ⟨gb, rfl⟩ : ∃ gb, gq = some ⟨gb, 0, none⟩ := by
          rw [hm] at hoq
          obtain ⟨g', cap', hv⟩ := ownsRow_succ hoq
          simp at hv
          exact ⟨g', hv.1⟩
        have hbb := hbq (oq.length - far)
        have hcb : wr.cell? ⟨gb, oq.length - far, none⟩ = some (.int .u8 (oq[oq.length - far]?.getD 0)) := by
          have hjl : oq.length - far < oq.length := by omega
          have h := hoq.cells (g := gb) rfl (oq.length - far) (.int .u8 (oq[oq.length - far]?.getD 0)) (by simp [hjl])
          have hadd : (⟨gb, 0, none⟩ : Addr).add (oq.length - far) = ⟨gb, oq.length - far, none⟩ := by unfold Addr.add; split <;> simp_all
          rwa [hadd] at h
        have hfl : far ≤ oq.length := by have := HLQ.out; omega
        generalize oq[oq.length - far]?.getD 0 = bb at hbb hcb HNX
        have q2 := hKq.cell (i := 2) rfl
        have q1 := hKq.cell (i := 1) rfl
        have HLQ' : Hid (oq.length + 1 ≤ 1048576) := by show _ ≤ _; have := HLQ.out; have := HN.out.2.2; rw [copyS_length] at this; omega
        have hb9 : oq.length ≤ 1048576 := by have := HLQ'.out; omega
        have hw64 : wrap64 ((oq.length - far : Nat) : Int) = ((oq.length - far : Nat) : Int) := by unfold wrap64; omega
        have hcc : (oq.length : Int) - (far : Int) = ((oq.length - far : Nat) : Int) := by omega
        have HKL : Hid (k < n) := hkl
        clear hm HLQ
        go_wp2_with (at_builtin; refine wpList_append_own2 _ rfl (.tmp 89) (.tmp 98) 22 rfl w.heap.size 5 i0 (.int .u8 0) 1 1 Tryd.underlying22 hi hz0 hz1 hz2 rfl (by decide) _ _ _ rfl (OutAt.alloc (os := oq) (B := w.heap.size) ⟨⟨_, _, rfl⟩, hoq⟩ _).2 ⟨wr.heap.size, 0, none⟩ 1 1 [.int .u8 bb] rfl rfl (cell_one_new _ _ _) (by simp [Value.oneCell']) (by have := HLQ'.out; unfold maxLen; omega) (by have := HLQ'.out; omega) (by have := hBq.size; simp; omega) ?_)
        intro v' w4 hown' hgrow hblk
        have HP := out_push (W0 := w) (OutAt.alloc (os := oq) (B := w.heap.size) ⟨⟨_, _, rfl⟩, hoq⟩ (.cells #[.int .u8 bb] 5)) (hBq.alloc (by have := hBq.size; omega) _) hown' hgrow (by have := hBq.size; simp; omega)
        obtain ⟨⟨⟨g', c', rfl⟩, ho4⟩, hB4, hrow⟩ := HP
        have hK4 := hrow wo.heap.size 33 _ (hKq.alloc _) (by decide)
        clear hoq hown' hgrow hblk hBq hKq q1 q1' q2 hrow hcb
        go_wp2
        exact ⟨⟨k + 1, by go_num, by have := HKL.out; omega, by rw [HNX.out]; exact ⟨⟨g', c', rfl⟩, ho4⟩, hB4, hK4⟩, by have := HKL.out; simp [intOf]; omega⟩
end Go.Proofs.YtijfjbpmlcmnmaaDoor
