import Derived.Test.YtiheajlgaehfmaaDoorIdy
import Derived.Test.YtiheajlgaehfmaaDoorPfc
/- The document's stream: a block. -/
namespace Go.Proofs.YtiheajlgaehfmaaDoor
open Go.RowKit

theorem owns_ints {w : World} {base : Nat} {g : Option Addr} {n c : Nat} {zs : List Int} (h : w.ownsRow base 3 1 (.slice g n c) n (zs.map (Value.int .i64))) (hn : zs.length = n) (h0 : 0 < n) : ∃ gb cur, g = some ⟨gb, 0, none⟩ ∧ Row w gb 3 cur ∧ IntsIn (fun k => k = gb) w (.slice (some ⟨gb, 0, none⟩) n c) zs := by
  rcases h.2 with ⟨_, h9⟩ | ⟨gb, cap, cur, hve, hbg, hgg, _⟩
  · omega
  · have hg := hve
    simp only [Value.slice.injEq, true_and] at hve
    obtain ⟨rfl, rfl⟩ := hve
    refine ⟨gb, cur, rfl, hgg, .inr ⟨gb, 0, c, by rw [hn], rfl, fun j hj => ?_⟩⟩
    have := h.cells (g := gb) rfl j (.int .i64 (zs[j]?.getD 0)) (by simp [List.getElem?_eq_getElem hj])
    rwa [Go.WideShapes.add_plain] at this

set_option maxRecDepth 100000 in
set_option maxHeartbeats 4000000 in
theorem block_in {T : Nat → Prop} {S Q : Nat} {bs : List Int} {g : Option Addr} {c most pos : Nat} {out : List Int} (kind : Nat) (hkind : kind < 4) (R : Except Int (Nat × List Int)) (HR : Hid (blockS bs most kind pos out = R)) (w : World) (hE : Env T S Q bs g c most w) (hs : StrAt T S Q bs g c most pos out w) :
    Calls Tryd.prog 24 #[.pointer (some ⟨S, 0, none⟩), .int .u32 (kind : Int)] w (OpPost T S Q bs g c most w R) := by
  rcases (by omega : kind = 0 ∨ kind = 1 ∨ kind = 2 ∨ kind = 3) with rfl | rfl | rfl | rfl
  · have H1 : Hid _ := stored_in R HR w hE hs
    go_enter Tryd.func24, Tryd.ntmps24
    go_wp2_with fail
    refine Calls.mono H1.out ?_
    clear H1
    intro e w1 h1
    have HF : Hid (OpPost T S Q bs g c most w R e w1) := h1
    rcases h1 with ⟨p14, o14, -, rfl, -, -⟩ | ⟨er14, -, -, rfl, -⟩
    · go_wp2
      go_ret
      exact HF.out
    · go_wp2
      go_ret
      exact HF.out
  · have HL : Hid _ := fixedLit_any w
    have el : fixLit.length = 288 := by rfl
    have ed : fixDist.length = 32 := by rfl
    go_enter Tryd.func24, Tryd.ntmps24
    go_wp2_with fail
    refine Calls.mono HL.out ?_
    clear HL
    rintro e w1 ⟨g1, c1, rfl, ho1, hb1⟩
    obtain ⟨gl, curl, rfl, hRl, hil⟩ := owns_ints ho1 el (by omega)
    have HC : Hid _ := coded_in (fun k => k = gl) (some ⟨gl, 0, none⟩) c1 fixLit w1 (fun k h => h ▸ hRl.lt) (el ▸ hil)
    rw [el] at HC
    clear ho1
    go_wp2_with fail
    refine Calls.mono HC.out ?_
    clear HC
    rintro e w2 ⟨hb2, vc, rfl, ⟨gx, cx, rfl⟩, hcodes⟩
    obtain ⟨GC, hg1, hg2, hvc, hRG⟩ := hcodes fixLit_ok
    simp only [Value.slice.injEq] at hvc
    obtain ⟨rfl, rfl, -⟩ := hvc
    rw [fixLit_ok]
    obtain ⟨w3, HW3⟩ : ∃ w3, Hid (w2.alloc (.cells #[.slice (some ⟨gl, 0, none⟩) 288 c1, .slice (some ⟨GC, 0, none⟩) 288 288] 70) = w3) := ⟨_, rfl⟩
    obtain ⟨B5, HB5⟩ : ∃ B5, Hid (w2.heap.size = B5) := ⟨_, rfl⟩
    have hk23 : Kept (fun k => k < w2.heap.size) w2 w3 := HW3.out ▸ (Kept.refl _ w2).alloc (fun k h => h) _
    have b5 : Two w3 B5 70 (.slice (some ⟨gl, 0, none⟩) 288 c1) (.slice (some ⟨GC, 0, none⟩) 288 288) := by rw [← HB5.out, ← HW3.out]; exact Two.new w2 70 _ _
    have hk13 : Kept (fun k => k < w1.heap.size) w1 w3 := (Kept.of_below hb2 (fun _ h => h)).trans (hk23.mono (fun k (h : k < w1.heap.size) => by have := hb2.size; show k < _; omega))
    have hk03 : Kept (fun k => k < w.heap.size) w w3 := (Kept.of_below hb1 (fun _ h => h)).trans (hk13.mono (fun k (h : k < w.heap.size) => by have := hb1.size; show k < _; omega))
    have hil3 := hil.kept (hk13.mono (fun k (h : k = gl) => h ▸ hRl.lt))
    have hRl3 := hRl.kept hk13 hRl.lt
    have hRG3 := hRG.kept hk23 hg2
    have HD : Hid _ := fixedDist_any w3
    clear hb1 hb2 hil hRl hRG hcodes hk13 hk23 hg1 hg2
    go_wp2_with fail
    rw [HW3.out, HB5.out]
    refine Calls.mono HD.out ?_
    clear HD HW3 HB5
    rintro e w4 ⟨g4, c4, rfl, ho4, hb4⟩
    obtain ⟨gd, curd, rfl, hRd, hid⟩ := owns_ints ho4 ed (by omega)
    have HC : Hid _ := coded_in (fun k => k = gd) (some ⟨gd, 0, none⟩) c4 fixDist w4 (fun k h => h ▸ hRd.lt) (ed ▸ hid)
    rw [ed] at HC
    clear ho4
    go_wp2_with fail
    refine Calls.mono HC.out ?_
    clear HC
    rintro e w5 ⟨hb5, vc, rfl, ⟨gx, cx, rfl⟩, hcodes⟩
    obtain ⟨GD, hg1, hg2, hvc, hRGD⟩ := hcodes fixDist_ok
    simp only [Value.slice.injEq] at hvc
    obtain ⟨rfl, rfl, -⟩ := hvc
    rw [fixDist_ok]
    obtain ⟨w6, HW6⟩ : ∃ w6, Hid (w5.alloc (.cells #[.slice (some ⟨gd, 0, none⟩) 32 c4, .slice (some ⟨GD, 0, none⟩) 32 32] 70) = w6) := ⟨_, rfl⟩
    have hk56 : Kept (fun k => k < w5.heap.size) w5 w6 := HW6.out ▸ (Kept.refl _ w5).alloc (fun k h => h) _
    have hk46 : Kept (fun k => k < w4.heap.size) w4 w6 := (Kept.of_below hb5 (fun _ h => h)).trans (hk56.mono (fun k (h : k < w4.heap.size) => by have := hb5.size; show k < _; omega))
    have hk36 : Kept (fun k => k < w3.heap.size) w3 w6 := (Kept.of_below hb4 (fun _ h => h)).trans (hk46.mono (fun k (h : k < w3.heap.size) => by have := hb4.size; show k < _; omega))
    have hk06 : Kept (fun k => k < w.heap.size) w w6 := hk03.trans (hk36.mono (fun k (h : k < w.heap.size) => by have := hk03.size; show k < _; omega))
    have hkT : Kept T w w6 := hk06.mono (fun k h => hE.lt k h)
    have b56 := b5.kept hk36 b5.lt
    have hil6 := hil3.kept (hk36.mono (fun k (h : k = gl) => h ▸ hRl3.lt))
    have hRl6 := hRl3.kept hk36 hRl3.lt
    have hRG6 := hRG3.kept hk36 hRG3.lt
    have hid6 := hid.kept (hk46.mono (fun k (h : k = gd) => h ▸ hRd.lt))
    have hRd6 := hRd.kept hk46 hRd.lt
    have hRGD6 := hRGD.kept hk56 hg2
    have hE6 := hE.kept hkT
    have hs6 := hs.low hk06
    obtain ⟨TB, hTBs, hEB, hsB, hAllB⟩ := all_T hE6 hs6
    have hcA1 : CodeIn TB w6 (.slice (some ⟨gl, 0, none⟩) 288 c1) (.slice (some ⟨GC, 0, none⟩) 288 288) fixLit :=
      ⟨fixLit_ok, ⟨some ⟨gl, 0, none⟩, c1, by rw [el], by rw [el]; exact hil6.mono (fun k (h : k = gl) => h ▸ hAllB gl 3 _ hRl6 (by decide) (by decide) (by decide))⟩, ⟨GC, by rw [el], hRG6, hAllB GC 51 _ hRG6 (by decide) (by decide) (by decide)⟩⟩
    have hcA2 : CodeIn TB w6 (.slice (some ⟨gd, 0, none⟩) 32 c4) (.slice (some ⟨GD, 0, none⟩) 32 32) fixDist :=
      ⟨fixDist_ok, ⟨some ⟨gd, 0, none⟩, c4, by rw [ed], by rw [ed]; exact hid6.mono (fun k (h : k = gd) => h ▸ hAllB gd 3 _ hRd6 (by decide) (by decide) (by decide))⟩, ⟨GD, by rw [ed], hRGD6, hAllB GD 51 _ hRGD6 (by decide) (by decide) (by decide)⟩⟩
    have HSy : Hid _ := symbols_in fixLit fixDist _ _ _ _ R (8 * bs.length + 1) HR (by omega) w6 hEB hsB hcA1 hcA2
    have HF : Hid (∀ e w', OpPost TB S Q bs g c most w6 R e w' → OpPost T S Q bs g c most w R e w') := fun e w' h => OpPost.mono h hTBs hkT
    have k0 := b56.cell0
    have k1 := b56.cell1
    rw [← HW6.out] at k0 k1
    clear hE hs HR hk03 hil3 hRl3 hRG3 b5 hb4 hRd hid hb5 hcodes hg1 hg2 hRGD hk56 hk46 hk36 hk06 hkT b56 hil6 hRl6 hRG6 hid6 hRd6 hRGD6 hE6 hs6 hEB hsB hcA1 hcA2 hAllB hTBs
    go_wp2_with fail
    rw [HW6.out]
    refine Calls.mono HSy.out ?_
    clear HSy k0 k1 HW6
    intro e w7 h7
    have HF2 : Hid (OpPost T S Q bs g c most w R e w7) := HF.out _ _ h7
    rcases h7 with ⟨p14, o14, -, rfl, -, -⟩ | ⟨er14, -, -, rfl, -⟩
    · clear HF
      go_wp2
      go_ret
      exact HF2.out
    · clear HF
      go_wp2
      go_ret
      exact HF2.out
  · have H1 : Hid _ := dynamic_in R HR w hE hs
    go_enter Tryd.func24, Tryd.ntmps24
    go_wp2_with fail
    refine Calls.mono H1.out ?_
    clear H1
    intro e w1 h1
    have HF : Hid (OpPost T S Q bs g c most w R e w1) := h1
    rcases h1 with ⟨p14, o14, -, rfl, -, -⟩ | ⟨er14, -, -, rfl, -⟩
    · go_wp2
      go_ret
      exact HF.out
    · go_wp2
      go_ret
      exact HF.out
  · have HF : Hid (OpPost T S Q bs g c most w R (.returned (.int .i64 12)) w) := OpPost.err 12 (by rw [← HR.out]; rfl) (by omega) (Kept.refl _ _)
    clear hE hs HR
    go_enter Tryd.func24, Tryd.ntmps24
    go_wp2
    go_ret
    exact HF.out
end Go.Proofs.YtiheajlgaehfmaaDoor
