import Derived.Test.YtinbilbgipfemaaDoorOflM
import Derived.Test.YtinbilbgipfemaaDoorInv
import Derived.Stop.RegionWithIn
/- Lengths of the program: a row of lengths as symbols and their extra numbers. -/
namespace Go.Proofs.YtinbilbgipfemaaDoor
open Go.RowKit Go.Shelf

attribute [local go_sem] Oper.semAt_some

/-- What has come when the runs pre are over: both boxes hold rows of the call's own, which tell the row's beginning. -/
def LgI (B : Nat) (w0 : World) (zs : List Int) (S : Nat → Prop) (wd : World) (pre : List (Int × Nat)) (W : World) : Prop :=
  ∃ (ps : List (Int × Int)) (v1 v2 : Value), TwoAt B B (B + 1) w0 S (ps.map (·.1)) (ps.map (·.2)) v1 v2 W ∧ Kept S wd W ∧ rowT ps [] = some ((zs.map cln).take (tot pre))

/-- Within a run: t times are left to be told. -/
def LgAt (B : Nat) (w0 : World) (S : Nat → Prop) (W : World) (D : List Int) (ln : Int) (tm t : Nat) (qs : List (Int × Int)) (u1 u2 : Value) (wr : World) : Prop :=
  TwoAt B B (B + 1) w0 S (qs.map (·.1)) (qs.map (·.2)) u1 u2 wr ∧ Kept S W wr ∧ KeepsOthers W wr ∧ rowT qs [] = some (D ++ List.replicate (tm - t) ln) ∧ t ≤ tm ∧ (0 < ln → t < tm)
theorem take_run (zs : List Int) (pre : List (Int × Nat)) (ln : Int) (tm : Nat) (h : RunOf zs pre (ln, tm)) : (zs.map cln).take (tot (pre ++ [(ln, tm)])) = (zs.map cln).take (tot pre) ++ List.replicate tm ln := by
  obtain ⟨h1, h2, h3, h4⟩ := h
  simp only at h1 h2 h4
  rw [tot_snoc, List.take_add]
  congr 1
  apply List.ext_getElem?
  intro j
  rw [List.getElem?_replicate, List.getElem?_take]
  split
  · next hj =>
    have h5 := h4 (tot pre + j) (by omega) (by omega)
    have hlt : tot pre + j < zs.length := by omega
    rw [List.getElem?_drop, List.getElem?_map, List.getElem?_eq_getElem hlt]
    rw [List.getElem?_eq_getElem hlt] at h5
    simpa using h5
  · rfl
theorem lg_last (D : List Int) (ln : Int) (n : Nat) (h : 1 ≤ n) : 1 ≤ (D ++ List.replicate n ln).length ∧ (D ++ List.replicate n ln)[(D ++ List.replicate n ln).length - 1]?.getD 0 = ln := by
  have e : (D ++ List.replicate n ln).length = D.length + n := by simp
  refine ⟨by rw [e]; omega, ?_⟩
  rw [e, List.getElem?_append_right (by omega), List.getElem?_replicate, if_pos (by omega)]
  rfl
theorem symOf_bd (ln : Int) (t : Nat) : 1 ≤ (symOf ln t).2 ∧ (symOf ln t).2 ≤ 11 := by
  unfold symOf
  split; exact ⟨Nat.le_refl _, by show 1 ≤ 11; omega⟩
  split; exact ⟨by show 1 ≤ 3; omega, by show 3 ≤ 11; omega⟩
  split; exact ⟨by show 1 ≤ 3; omega, by show 3 ≤ 11; omega⟩
  exact ⟨by show 1 ≤ 11; omega, by show 11 ≤ 11; omega⟩
theorem bitsN_le (s : Int) : bitsN s ≤ 7 := by unfold bitsN; split; omega; split; omega; split <;> omega
theorem top_wrap (le bt tp : Nat) (hb : bt ≤ 7) (h1 : 1 ≤ le) (h2 : le ≤ 11) (h : le + 2 ^ bt - 1 = tp) : wrap64 (wrap64 ((le : Int) + wrap64 (2 ^ bt)) - 1) = (tp : Int) ∧ le ≤ tp ∧ tp ≤ 150 := by
  rcases (by omega : bt = 0 ∨ bt = 1 ∨ bt = 2 ∨ bt = 3 ∨ bt = 4 ∨ bt = 5 ∨ bt = 6 ∨ bt = 7) with rfl | rfl | rfl | rfl | rfl | rfl | rfl | rfl <;>
    (simp only [Nat.reducePow] at h; subst h; refine ⟨?_, by omega, by omega⟩; simp [wrap64]; omega)
/-- One symbol more. -/
theorem lg_step {B : Nat} {w0 W : World} {S : Nat → Prop} {D : List Int} {ln : Int} {tm t many : Nat} {qs : List (Int × Int)} {u1 u2 a1 a2 : Value} {wr wn : World} (h : LgAt B w0 S W D ln tm t qs u1 u2 wr) (ht : 0 < t) (hl : 0 ≤ ln ∧ ln ≤ 15) (hm : many = min t (topOf ln t))
    (hT : TwoAt B B (B + 1) w0 S (qs.map (·.1) ++ [(symOf ln t).1]) (qs.map (·.2) ++ [(many : Int) - ((symOf ln t).2 : Int)]) a1 a2 wn) (hK : Kept S wr wn) (hO : KeepsOthers wr wn) :
    many ≤ t ∧ 1 ≤ many ∧ LgAt B w0 S W D ln tm (t - many) (qs ++ [((symOf ln t).1, (many : Int) - ((symOf ln t).2 : Int))]) a1 a2 wn := by
  obtain ⟨hT0, hK0, hO0, hR, hle, hlt⟩ := h
  obtain ⟨m1, m2, m3, hs⟩ := sym_step (D ++ List.replicate (tm - t) ln) ln t many ht hl (fun h0 => lg_last D ln (tm - t) (by have := hlt h0; omega)) hm
  refine ⟨m2, m1, ?_, hK0.trans hK, hO0.trans hO, ?_, by omega, fun h0 => by have := hlt h0; omega⟩
  · rw [List.map_append, List.map_append]
    exact hT
  · rw [rowT_snoc, hR]
    show stepT _ _ = _
    rw [hs, List.append_assoc, List.replicate_append_replicate]
    congr 4
    omega

set_option maxRecDepth 100000 in
set_option maxHeartbeats 4000000 in
theorem lengths_in (a : Option Addr) (cap : Nat) (zs : List Int) (S0 : Nat → Prop) (w : World) (hS0 : ∀ k, S0 k → k < w.heap.size) (hlen : zs.length ≤ 17592186043904) (hI : IntsIn S0 w (.slice a zs.length cap) zs) :
    CallsIn Fence.wide 6 Tryd.prog 14 #[.slice a zs.length cap] w fun e w' => Below w.heap.size w w' ∧ ∃ (ps : List (Int × Int)) (v1 v2 : Value), e = .returned (.tuple #[v1, v2]) ∧ OwnInts w.heap.size w' v1 (ps.map (·.1)) ∧ OwnInts w.heap.size w' v2 (ps.map (·.2)) ∧ rowT ps [] = some (zs.map cln) := by
  refine callsIn_of_wp_marks Tryd.func14 rfl trivial ?_ rfl
  simp only [Tryd.ntmps14, List.size_toArray, List.length_cons, List.length_nil, Nat.reduceAdd, Nat.reduceSub, Array.replicate_succ, Array.replicate_zero, List.push_toArray, List.append_toArray, List.nil_append, List.cons_append]
  gi_wp2_with (refine ⟨trivial, ?_⟩; gi_at_call 26; refine (callsIn_wide.2 (runs_any _ _ _ _)).mono ?_; rintro e w' ⟨rfl, rfl⟩)
  have b0 := ((Row.new w 40 #[.slice none 0 0]).alloc (.cells #[.slice none 0 0] 40)).alloc (.cells #[.slice a zs.length cap] 40)
  have b1 := (Row.new (w.alloc (.cells #[.slice none 0 0] 40)) 40 #[.slice none 0 0]).alloc (.cells #[.slice a zs.length cap] 40)
  have b2 := Row.new ((w.alloc (.cells #[.slice none 0 0] 40)).alloc (.cells #[.slice none 0 0] 40)) 40 #[.slice a zs.length cap]
  simp only [World.size_alloc] at b1 b2
  have hBw : Below w.heap.size w (((w.alloc (.cells #[.slice none 0 0] 40)).alloc (.cells #[.slice none 0 0] 40)).alloc (.cells #[.slice a zs.length cap] 40)) := (((Below.refl _ w).alloc (Nat.le_refl _) _).alloc (by simp) _).alloc (by simp; omega) _
  have hsz : (((w.alloc (.cells #[.slice none 0 0] 40)).alloc (.cells #[.slice none 0 0] 40)).alloc (.cells #[.slice a zs.length cap] 40)).heap.size = w.heap.size + 3 := by simp
  have hI2 : IntsIn (fun k => k = w.heap.size + 1 + 1 ∨ S0 k) (((w.alloc (.cells #[.slice none 0 0] 40)).alloc (.cells #[.slice none 0 0] 40)).alloc (.cells #[.slice a zs.length cap] 40)) (.slice a zs.length cap) zs := (hI.kept (Kept.of_below hBw hS0)).mono (fun k hk => .inr hk)
  generalize ((w.alloc (.cells #[.slice none 0 0] 40)).alloc (.cells #[.slice none 0 0] 40)).alloc (.cells #[.slice a zs.length cap] 40) = wd at b0 b1 b2 hBw hsz hI2 ⊢
  have hSw : ∀ k, (k = w.heap.size + 1 + 1 ∨ S0 k) → k < wd.heap.size := by
    rintro k (rfl | hk)
    · omega
    · have := hS0 k hk; omega
  have hT0 : TwoAt w.heap.size w.heap.size (w.heap.size + 1) w (fun k => k = w.heap.size + 1 + 1 ∨ S0 k) [] [] (.slice none 0 0) (.slice none 0 0) wd :=
    ⟨OwnInts.nil _ _, OwnInts.nil _ _, (fun k e => by simp [Value.ownBlock] at e), b0, b1, hBw, by omega, hSw, (fun k _ _ _ e => by simp [Value.ownBlock] at e), (by rintro (h | h); omega; have := hS0 _ h; omega), (by rintro (h | h); omega; have := hS0 _ h; omega), by omega, by omega, by omega⟩
  refine wpIn_range_rel rfl (by omega) (gf := 43) (lb := #[.pointer (some ⟨w.heap.size + 1 + 1, 0, none⟩)]) rfl trivial (enters_of Tryd.func43 (by kernel_rfl) rfl)
    (runs_seq 5 (w.heap.size + 1 + 1) a cap zs (fun k => k = w.heap.size + 1 + 1 ∨ S0 k) (.inl rfl) wd hSw hlen (b2.cell rfl) hI2)
    Kept.trans (keptK_b hSw) (fun _ => rfl)
    (LgI w.heap.size w zs (fun k => k = w.heap.size + 1 + 1 ∨ S0 k) wd)
    (fun s A B' row hs hg hr => by
      obtain ⟨ps, v1, v2, h1, h2, h3⟩ := hs
      exact ⟨ps, v1, v2, h1.grown hg (fun r e => ⟨by have := (hr r e).1; omega, (hr r e).2⟩), h2.grown hg (fun k hk => Nat.lt_of_lt_of_le (hSw k hk) h2.size) (fun k e hk => by have := (hr k e).1; have := hSw k hk; omega), h3⟩)
    ⟨[], _, _, hT0, Kept.refl _ _, by simp [rowT, tot]⟩
    (fun x => { tmps := #[.slice a zs.length cap, undef, .slice none 0 0, .slice none 0 0, .pointer (some ⟨w.heap.size, 0, none⟩), .pointer (some ⟨w.heap.size + 1, 0, none⟩), .int .i64 x.1, .int .i64 (x.2 : Int), undef, undef, undef, .slice a zs.length cap, .func (.func 43) #[] #[.pointer (some ⟨w.heap.size + 1 + 1, 0, none⟩)], .int .i64 x.1, .int .i64 (x.2 : Int), undef, undef, undef, undef, undef, undef, undef, undef, undef, undef, undef, undef, undef, undef, undef, undef, undef, undef, undef, undef, undef, undef, undef, undef, undef, undef, undef, undef, undef, undef, undef, undef, undef, undef, undef, undef, undef, undef, undef, undef, undef, undef], defers := [] }) ?assign ?body ?done
  case assign =>
    intro l x W K hK
    gi_wp2
    exact hK
  case body =>
    rintro l pre ⟨ln, tm⟩ W ⟨ps, v1, v2, hT, hKd, hR⟩ hRx
    have HL1 : Hid ((ps.map (·.1)).length + 1 ≤ 17592186043904) := by
      show _ ≤ _
      have h1 := rowT_more hR
      have h2 := hRx.2.1
      have h3 := hRx.1
      simp only [List.length_nil, List.length_take, List.length_map] at h1 h2 h3 ⊢
      omega
    have HL2 : Hid ((ps.map (·.2)).length + 1 ≤ 17592186043904) := by
      show _ ≤ _
      have := HL1.out
      simpa using this
    by_cases hln : 0 < ln
    · gi_wp2_with fail
      refine wpIn_region_any (by kernel_rfl) (wpAnyIn_inv (fun listed a' w' => ∃ (l0 l1 l2 l3 l4 l5 l6 l7 l8 : Bool) (s17 s18 s19 s20 s21 s22 s23 : Value) (app1 app2 : Option (Value × Int)) (g1 g2 : Option (Nat × Int)), listed = #[l0, l1, l2, l3, l4, l5, l6, l7, l8] ∧ a' = { tmps := #[.slice a zs.length cap, undef, .slice none 0 0, .slice none 0 0, .pointer (some ⟨w.heap.size, 0, none⟩), .pointer (some ⟨w.heap.size + 1, 0, none⟩), .int .i64 ln, .int .i64 (tm : Int), undef, undef, undef, .slice a zs.length cap, .func (.func 43) #[] #[.pointer (some ⟨w.heap.size + 1 + 1, 0, none⟩)], .int .i64 ln, .int .i64 (tm : Int), .int .i64 ln, .bool true, s17, s18, s19, s20, s21, s22, s23, undef, undef, undef, undef, undef, undef, undef, undef, undef, undef, undef, undef, undef, undef, undef, undef, undef, undef, undef, undef, undef, undef, undef, undef, undef, undef, undef, undef, undef, undef, undef, undef, undef], defers := [] } ∧ TwoSt w.heap.size w.heap.size (w.heap.size + 1) w (fun k => k = w.heap.size + 1 + 1 ∨ S0 k) W (ps.map (·.1)) (ps.map (·.2)) v1 v2 app1 app2 l7 l8 g1 g2 w' ∧ (l0 = true → s17 = v1) ∧ (l1 = true → s18 = (.int .i64 ln)) ∧ (l4 = true → s21 = v2) ∧ (l2 = true → l3 = false → ∃ G, g1 = some (G, ln) ∧ s19 = .slice (some ⟨G, 0, none⟩) 1 1) ∧ (l5 = true → l6 = false → ∃ G, g2 = some (G, 0) ∧ s22 = .slice (some ⟨G, 0, none⟩) 1 1) ∧ (l3 = false → app1 = none) ∧ (l6 = false → app2 = none) ∧ (l3 = true → app1 = some (s20, ln)) ∧ (l6 = true → app2 = some (s23, 0)) ∧ (l7 = true → l0 = true ∧ l3 = true) ∧ (l8 = true → l4 = true ∧ l6 = true)) ?_ ?_ _ _ _ _ ⟨false, false, false, false, false, false, false, false, false, undef, undef, undef, undef, undef, undef, undef, none, none, none, none, rfl, rfl, hT.start.drew, (fun h => by cases h), (fun h => by cases h), (fun h => by cases h), (fun h _ => by cases h), (fun h _ => by cases h), (fun _ => rfl), (fun _ => rfl), (fun h => by cases h), (fun h => by cases h), (fun h => by cases h), (fun h => by cases h)⟩ (by decide))
      · rintro listed a' w' ⟨l0, l1, l2, l3, l4, l5, l6, l7, l8, s17, s18, s19, s20, s21, s22, s23, app1, app2, g1, g2, rfl, rfl, TS, c0, c1, c4, cB1, cB2, cA1, cA2, cA1t, cA2t, cS1, cS2⟩ i hi
        have hlt : i < 9 := ready_lt hi
        have hop : ∀ {b : Bool}, _ = some false → b = false := fun {b} (h : some b = some false) => Option.some.inj h
        rcases (by omega : i = 0 ∨ i = 1 ∨ i = 2 ∨ i = 3 ∨ i = 4 ∨ i = 5 ∨ i = 6 ∨ i = 7 ∨ i = 8) with rfl | rfl | rfl | rfl | rfl | rfl | rfl | rfl | rfl
        · have u : l0 = false := Option.some.inj (ready_open hi)
          have e7 : l7 = false := by cases h7 : l7; rfl; exact absurd (cS1 h7).1 (by rw [u]; decide)
          have hc : w'.cell? ⟨w.heap.size, 0, none⟩ = some v1 := by have := TS.box1; rw [e7] at this; exact this.cell (i := 0) rfl
          clear u e7
          refine opIn_value rfl rfl (fun c h => by cases h) (fun _ => trivial) (v := v1) (w' := w') (by go_simp) ⟨true, l1, l2, l3, l4, l5, l6, l7, l8, v1, s18, s19, s20, s21, s22, s23, app1, app2, g1, g2, rfl, rfl, TS, (fun _ => rfl), c1, c4, cB1, cB2, cA1, cA2, cA1t, cA2t, (fun h => ⟨rfl, (cS1 h).2⟩), cS2⟩
        · skip
          refine opIn_value rfl rfl (fun c h => by cases h) (fun _ => trivial) (v := (.int .i64 ln)) (w' := w') (by go_simp) ⟨l0, true, l2, l3, l4, l5, l6, l7, l8, s17, (.int .i64 ln), s19, s20, s21, s22, s23, app1, app2, g1, g2, rfl, rfl, TS, c0, (fun _ => rfl), c4, cB1, cB2, cA1, cA2, cA1t, cA2t, cS1, cS2⟩
        · skip
          have eV0 := c1 (ready_dep hi rfl 1 (by kernel_rfl))
          refine opIn_value rfl rfl (fun c h => by cases h) (fun _ => trivial) (v := .slice (some ⟨w'.heap.size, 0, none⟩) 1 1) (w' := w'.alloc (.cells #[.int .i64 (ln)] 3)) (by subst eV0; go_simp) ⟨l0, l1, true, l3, l4, l5, l6, l7, l8, s17, s18, (.slice (some ⟨w'.heap.size, 0, none⟩) 1 1), s20, s21, s22, s23, app1, app2, (some (w'.heap.size, ln)), g2, rfl, rfl, (TS.build1 ln), c0, c1, c4, (fun _ _ => ⟨_, rfl, rfl⟩), cB2, cA1, cA2, cA1t, cA2t, cS1, cS2⟩
        · have u : l3 = false := Option.some.inj (ready_open hi)
          have eL : s17 = v1 := c0 (ready_dep hi rfl 0 (by kernel_rfl))
          obtain ⟨G, hG, hs⟩ := cB1 (ready_dep hi rfl 2 (by kernel_rfl)) u
          obtain rfl : l7 = false := by cases h7 : l7; rfl; exact absurd (cS1 h7).2 (by rw [u]; decide)
          obtain rfl : app1 = none := cA1 u
          obtain ⟨v', w'', hr, TS'⟩ := TS.append1 hG HL1.out 40
          refine opIn_value rfl rfl (fun c h => by cases h) (fun _ => trivial) (v := v') (w' := w'') (run_append_op rfl (show _ = _ from eL) (show _ = _ from hs) hr) ⟨l0, l1, l2, true, l4, l5, l6, false, l8, s17, s18, s19, v', s21, s22, s23, (some (v', ln)), app2, none, g2, rfl, rfl, TS', c0, c1, c4, (fun _ h => by cases h), cB2, (fun h => by cases h), cA2, (fun _ => rfl), cA2t, (fun h => by cases h), cS2⟩
        · have u : l4 = false := Option.some.inj (ready_open hi)
          have e7 : l8 = false := by cases h7 : l8; rfl; exact absurd (cS2 h7).1 (by rw [u]; decide)
          have hc : w'.cell? ⟨w.heap.size + 1, 0, none⟩ = some v2 := by have := TS.box2; rw [e7] at this; exact this.cell (i := 0) rfl
          clear u e7
          refine opIn_value rfl rfl (fun c h => by cases h) (fun _ => trivial) (v := v2) (w' := w') (by go_simp) ⟨l0, l1, l2, l3, true, l5, l6, l7, l8, s17, s18, s19, s20, v2, s22, s23, app1, app2, g1, g2, rfl, rfl, TS, c0, c1, (fun _ => rfl), cB1, cB2, cA1, cA2, cA1t, cA2t, cS1, (fun h => ⟨rfl, (cS2 h).2⟩)⟩
        · skip
          refine opIn_value rfl rfl (fun c h => by cases h) (fun _ => trivial) (v := .slice (some ⟨w'.heap.size, 0, none⟩) 1 1) (w' := w'.alloc (.cells #[.int .i64 (0)] 3)) (by go_simp) ⟨l0, l1, l2, l3, l4, true, l6, l7, l8, s17, s18, s19, s20, s21, (.slice (some ⟨w'.heap.size, 0, none⟩) 1 1), s23, app1, app2, g1, (some (w'.heap.size, 0)), rfl, rfl, (TS.swap.build1 0).swap, c0, c1, c4, cB1, (fun _ _ => ⟨_, rfl, rfl⟩), cA1, cA2, cA1t, cA2t, cS1, cS2⟩
        · have u : l6 = false := Option.some.inj (ready_open hi)
          have eL : s21 = v2 := c4 (ready_dep hi rfl 4 (by kernel_rfl))
          obtain ⟨G, hG, hs⟩ := cB2 (ready_dep hi rfl 5 (by kernel_rfl)) u
          obtain rfl : l8 = false := by cases h7 : l8; rfl; exact absurd (cS2 h7).2 (by rw [u]; decide)
          obtain rfl : app2 = none := cA2 u
          obtain ⟨v', w'', hr, TS'⟩ := TS.swap.append1 hG HL2.out 40
          have TS' := TS'.swap
          refine opIn_value rfl rfl (fun c h => by cases h) (fun _ => trivial) (v := v') (w' := w'') (run_append_op rfl (show _ = _ from eL) (show _ = _ from hs) hr) ⟨l0, l1, l2, l3, l4, l5, true, l7, false, s17, s18, s19, s20, s21, s22, v', app1, (some (v', 0)), g1, none, rfl, rfl, TS', c0, c1, c4, cB1, (fun _ h => by cases h), cA1, (fun h => by cases h), cA1t, (fun _ => rfl), cS1, (fun h => by cases h)⟩
        · have u : l7 = false := Option.some.inj (ready_open hi)
          have eA : l3 = true := ready_dep hi rfl 3 (by kernel_rfl)
          have eL : l0 = true := ready_dep hi rfl 0 (by kernel_rfl)
          obtain rfl : app1 = some (s20, ln) := cA1t eA
          subst u
          have hc := TS.box1.cell (i := 0) rfl
          have hf := TS.box1.frozen 0
          have TS' := TS.store1
          obtain ⟨gg, cc, hv⟩ := TS.own1.1
          simp only [curV] at hv
          refine opIn_skip rfl rfl (fun c h => by cases h) (fun _ => trivial) (w' := w'.setCell ⟨w.heap.size, 0, none⟩ s20) (run_store40 rfl (show _ = _ from rfl) (show _ = _ from rfl) hv hc hf) ⟨l0, l1, l2, l3, l4, l5, l6, true, l8, s17, s18, s19, s20, s21, s22, s23, (some (s20, ln)), app2, g1, g2, rfl, rfl, TS', c0, c1, c4, cB1, cB2, cA1, cA2, cA1t, cA2t, (fun _ => ⟨eL, eA⟩), cS2⟩
        · have u : l8 = false := Option.some.inj (ready_open hi)
          have eA : l6 = true := ready_dep hi rfl 6 (by kernel_rfl)
          have eL : l4 = true := ready_dep hi rfl 4 (by kernel_rfl)
          obtain rfl : app2 = some (s23, 0) := cA2t eA
          subst u
          have hc := TS.box2.cell (i := 0) rfl
          have hf := TS.box2.frozen 0
          have TS' := TS.swap.store1
          have TS' := TS'.swap
          obtain ⟨gg, cc, hv⟩ := TS.own2.1
          simp only [curV] at hv
          refine opIn_skip rfl rfl (fun c h => by cases h) (fun _ => trivial) (w' := w'.setCell ⟨w.heap.size + 1, 0, none⟩ s23) (run_store40 rfl (show _ = _ from rfl) (show _ = _ from rfl) hv hc hf) ⟨l0, l1, l2, l3, l4, l5, l6, l7, true, s17, s18, s19, s20, s21, s22, s23, app1, (some (s23, 0)), g1, g2, rfl, rfl, TS', c0, c1, c4, cB1, cB2, cA1, cA2, cA1t, cA2t, cS1, (fun _ => ⟨eL, eA⟩)⟩
      · rintro listed a' w' ⟨l0, l1, l2, l3, l4, l5, l6, l7, l8, s17, s18, s19, s20, s21, s22, s23, app1, app2, g1, g2, rfl, rfl, TS, c0, c1, c4, cB1, cB2, cA1, cA2, cA1t, cA2t, cS1, cS2⟩ hr
        obtain rfl : l0 = true := nil_done hr 0 rfl (by kernel_rfl)
        obtain rfl : l1 = true := nil_done hr 1 rfl (by kernel_rfl)
        obtain rfl : l2 = true := nil_done hr 2 rfl (by kernel_rfl)
        obtain rfl : l3 = true := nil_done hr 3 rfl (by kernel_rfl)
        obtain rfl : l4 = true := nil_done hr 4 rfl (by kernel_rfl)
        obtain rfl : l5 = true := nil_done hr 5 rfl (by kernel_rfl)
        obtain rfl : l6 = true := nil_done hr 6 rfl (by kernel_rfl)
        obtain rfl : l7 = true := nil_done hr 7 rfl (by kernel_rfl)
        obtain rfl : l8 = true := nil_done hr 8 rfl (by kernel_rfl)
        obtain rfl := cA1t rfl
        obtain rfl := cA2t rfl
        obtain ⟨hTn, hKn, hOn⟩ := TS.fin
        clear hr TS c0 c1 c4 cB1 cB2 cA1 cA2 cS1 cS2 cA1t cA2t
        have HW : Hid (1 ≤ tm ∧ tm ≤ zs.length) := ⟨hRx.1, by have := hRx.2.1; simp only at this; omega⟩
        have hwp : IntKind.i64.wrap ((tm : Int) - 1) = (tm : Int) - 1 := by have := HW.out; simp [IntKind.wrap, IntKind.bits, IntKind.signed]; omega
        have HL0 : Hid (LgAt w.heap.size w (fun k => k = w.heap.size + 1 + 1 ∨ S0 k) W ((zs.map cln).take (tot pre)) ln tm (tm - 1) (ps ++ [(ln, 0)]) s20 s23 w') := by
          have := HW.out
          refine ⟨by rw [List.map_append, List.map_append]; exact hTn, hKn, hOn, ?_, by omega, fun _ => by omega⟩
          rw [rowT_snoc, hR]
          show stepT _ _ = _
          unfold stepT
          rw [if_pos ⟨hRx.2.2.1.1, by have := hRx.2.2.1.2; simp only at this ⊢; omega, rfl⟩, show tm - (tm - 1) = 1 by omega]
          rfl
        clear hTn hKn hOn hT
        gi_wp2
        gi_loopw [7] (fun v7 wr => ∃ (t : Nat) (qs : List (Int × Int)) (u1 u2 : Value), v7 = .int .i64 (t : Int) ∧ t ≤ tm ∧ Hid (LgAt w.heap.size w (fun k => k = w.heap.size + 1 + 1 ∨ S0 k) W ((zs.map cln).take (tot pre)) ln tm t qs u1 u2 wr)) (fun v7 _ => (intOf v7).toNat)
        case atStart => exact ⟨tm - 1, _, _, _, by have := HW.out; go_num, by omega, HL0⟩
        case round =>
          obtain ⟨t, qs, u1, u2, rfl, htm, HA⟩ := hrel
          by_cases ht : 0 < t
          rotate_left
          · have t1 : ¬ (0 < (t : Int)) := by omega
            obtain rfl : t = 0 := by omega
            gi_wp2
            obtain ⟨a1, a2, a3, a4, _, _⟩ := HA.out
            exact ⟨a3.from _, a2, qs, u1, u2, a1, hKd.trans a2, by rw [a4, take_run zs pre ln tm hRx]; rfl⟩
          · have t1 : 0 < (t : Int) := by omega
            have HLT : Hid (t ≤ zs.length) := by have := HW.out; show _ ≤ _; omega
            have HS : Hid (Calls Tryd.prog 27 #[.int .i64 ln, .int .i64 (t : Int)] wr fun e w' => e = .returned (.tuple #[.int .i64 (symOf ln t).1, .int .i64 ((symOf ln t).2 : Int)]) ∧ w' = wr) := runSymbol_any ln t wr (by have := HLT.out; omega)
            gi_wp2_with fail
            refine ⟨trivial, (show CallsIn Fence.wide _ _ _ _ _ _ from callsIn_wide.2 HS.out).mono ?_⟩
            clear HS
            rintro e w1 ⟨rfl, rfl⟩
            have HLE1 : Hid (1 ≤ (symOf ln t).2 ∧ (symOf ln t).2 ≤ 11) := symOf_bd ln t
            have HTOP : Hid (topOf ln t = (symOf ln t).2 + 2 ^ bitsN (symOf ln t).1 - 1) := rfl
            have HSTEP := fun (many : Nat) (a1 a2 : Value) (wn : World) => lg_step (many := many) (a1 := a1) (a2 := a2) (wn := wn) HA.out ht hRx.2.2.1
            obtain ⟨sy, HSY⟩ : ∃ sy, Hid ((symOf ln t).1 = sy) := ⟨_, rfl⟩
            obtain ⟨le, HLE⟩ : ∃ le, Hid ((symOf ln t).2 = le) := ⟨_, rfl⟩
            rw [HSY.out, HLE.out] at HSTEP HTOP
            rw [HLE.out] at HLE1
            rw [HSY.out, HLE.out]
            obtain ⟨bt, HBT⟩ : ∃ bt, Hid (bitsN sy = bt) := ⟨_, rfl⟩
            have HB : Hid (Calls Tryd.prog 28 #[.int .i64 sy] w1 fun e w' => e = .returned (.int .i64 (bt : Int)) ∧ w' = w1) := by have := runBits_any sy w1; rw [HBT.out] at this; exact this
            have HSTEP : Hid _ := HSTEP
            gi_wp2_with fail
            refine ⟨trivial, (show CallsIn Fence.wide _ _ _ _ _ _ from callsIn_wide.2 HB.out).mono ?_⟩
            clear HB
            rintro e w2 ⟨rfl, rfl⟩
            have hb7 : bt ≤ 7 := by rw [← HBT.out]; exact bitsN_le sy
            obtain ⟨tp, HTP⟩ : ∃ tp : Nat, Hid (le + 2 ^ bt - 1 = tp) := ⟨_, rfl⟩
            have HM : Hid (topOf ln t = tp) := by show _ = _; rw [HTOP.out, HBT.out]; exact HTP.out
            have HE40 : Hid (wrap64 (wrap64 ((le : Int) + wrap64 (2 ^ bt)) - 1) = (tp : Int) ∧ le ≤ tp ∧ tp ≤ 150) := top_wrap le bt tp hb7 HLE1.out.1 HLE1.out.2 HTP.out
            have HQ : Hid ((qs.map (·.1)).length + 1 ≤ 17592186043904 ∧ (qs.map (·.2)).length + 1 ≤ 17592186043904) := by
              have h1 := rowT_more HA.out.2.2.2.1
              have h2 := hRx.2.1
              simp only [List.length_nil, List.length_append, List.length_replicate, List.length_take, List.length_map] at h1 h2
              exact ⟨by simp only [List.length_map]; omega, by simp only [List.length_map]; omega⟩
            have hTq := HA.out.1
            gi_wp2_with fail
            · rw [HE40.out.1] at h
              rw [HE40.out.1]
              generalize wrap64 ((le : Int) + wrap64 (2 ^ bt)) = x39
              generalize wrap64 ((2 : Int) ^ bt) = x38
              have HMN : Hid (tp = min t (topOf ln t)) := by show _ = _; rw [HM.out]; omega
              have hsb : IntKind.i64.wrap ((tp : Int) - (le : Int)) = (tp : Int) - (le : Int) := by have h1 := HLE1.out; have h2 := HLT.out; have h3 := HE40.out.2; simp [IntKind.wrap, IntKind.bits, IntKind.signed]; omega
              clear h t1 hb7 HE40 HTP HBT HSY HLE HTOP HLE1
              refine wpIn_region_any (by kernel_rfl) (wpAnyIn_inv (fun listed a' w' => ∃ (l0 l1 l2 l3 l4 l5 l6 l7 l8 l9 l10 l11 : Bool) (s42 s43 s44 s45 s46 s47 s48 s49 s50 s51 : Value) (app1 app2 : Option (Value × Int)) (g1 g2 : Option (Nat × Int)), listed = #[l0, l1, l2, l3, l4, l5, l6, l7, l8, l9, l10, l11] ∧ a' = { tmps := #[.slice a zs.length cap, undef, .slice none 0 0, .slice none 0 0, .pointer (some ⟨w.heap.size, 0, none⟩), .pointer (some ⟨w.heap.size + 1, 0, none⟩), .int .i64 ln, .int .i64 (t : Int), .int .i64 sy, .int .i64 (le : Int), .int .i64 (tp : Int), .slice a zs.length cap, .func (.func 43) #[] #[.pointer (some ⟨w.heap.size + 1 + 1, 0, none⟩)], .int .i64 ln, .int .i64 (tm : Int), .int .i64 ln, .bool true, s17, s18, s19, s20, s21, s22, s23, .int .i64 (tm : Int), .int .i64 ((tm : Int) - 1), .int .i64 (t : Int), .bool true, .tuple #[.int .i64 sy, .int .i64 (le : Int)], .int .i64 ln, .int .i64 (t : Int), .tuple #[.int .i64 sy, .int .i64 (le : Int)], .int .i64 sy, .int .i64 (le : Int), .int .i64 (t : Int), .int .i64 (le : Int), .int .i64 sy, .int .i64 (bt : Int), .int .i64 x38, .int .i64 x39, .int .i64 (tp : Int), .int .i64 (tp : Int), s42, s43, s44, s45, s46, s47, s48, s49, s50, s51, u52, u53, u54, undef, undef], defers := [] } ∧ TwoSt w.heap.size w.heap.size (w.heap.size + 1) w (fun k => k = w.heap.size + 1 + 1 ∨ S0 k) w2 (qs.map (·.1)) (qs.map (·.2)) u1 u2 app1 app2 l10 l11 g1 g2 w' ∧ (l0 = true → s42 = u1) ∧ (l1 = true → s43 = (.int .i64 sy)) ∧ (l4 = true → s46 = u2) ∧ (l5 = true → s47 = (.int .i64 (tp : Int))) ∧ (l6 = true → s48 = (.int .i64 (le : Int))) ∧ (l7 = true → s49 = (.int .i64 ((tp : Int) - (le : Int)))) ∧ (l2 = true → l3 = false → ∃ G, g1 = some (G, sy) ∧ s44 = .slice (some ⟨G, 0, none⟩) 1 1) ∧ (l8 = true → l9 = false → ∃ G, g2 = some (G, ((tp : Int) - (le : Int))) ∧ s50 = .slice (some ⟨G, 0, none⟩) 1 1) ∧ (l3 = false → app1 = none) ∧ (l9 = false → app2 = none) ∧ (l3 = true → app1 = some (s45, sy)) ∧ (l9 = true → app2 = some (s51, ((tp : Int) - (le : Int)))) ∧ (l10 = true → l0 = true ∧ l3 = true) ∧ (l11 = true → l4 = true ∧ l9 = true)) ?_ ?_ _ _ _ _ ⟨false, false, false, false, false, false, false, false, false, false, false, false, _, _, _, _, _, _, _, _, _, _, none, none, none, none, rfl, rfl, hTq.start.drew, (fun h => by cases h), (fun h => by cases h), (fun h => by cases h), (fun h => by cases h), (fun h => by cases h), (fun h => by cases h), (fun h _ => by cases h), (fun h _ => by cases h), (fun _ => rfl), (fun _ => rfl), (fun h => by cases h), (fun h => by cases h), (fun h => by cases h), (fun h => by cases h)⟩ (by decide))
              · rintro listed a' w' ⟨l0, l1, l2, l3, l4, l5, l6, l7, l8, l9, l10, l11, s42, s43, s44, s45, s46, s47, s48, s49, s50, s51, app1, app2, g1, g2, rfl, rfl, TS, c0, c1, c4, c5, c6, c7, cB1, cB2, cA1, cA2, cA1t, cA2t, cS1, cS2⟩ i hi
                have hlt : i < 12 := ready_lt hi
                have hop : ∀ {b : Bool}, _ = some false → b = false := fun {b} (h : some b = some false) => Option.some.inj h
                rcases (by omega : i = 0 ∨ i = 1 ∨ i = 2 ∨ i = 3 ∨ i = 4 ∨ i = 5 ∨ i = 6 ∨ i = 7 ∨ i = 8 ∨ i = 9 ∨ i = 10 ∨ i = 11) with rfl | rfl | rfl | rfl | rfl | rfl | rfl | rfl | rfl | rfl | rfl | rfl
                · have u : l0 = false := Option.some.inj (ready_open hi)
                  have e7 : l10 = false := by cases h7 : l10; rfl; exact absurd (cS1 h7).1 (by rw [u]; decide)
                  have hc : w'.cell? ⟨w.heap.size, 0, none⟩ = some u1 := by have := TS.box1; rw [e7] at this; exact this.cell (i := 0) rfl
                  clear u e7
                  refine opIn_value rfl rfl (fun c h => by cases h) (fun _ => trivial) (v := u1) (w' := w') (by go_simp) ⟨true, l1, l2, l3, l4, l5, l6, l7, l8, l9, l10, l11, u1, s43, s44, s45, s46, s47, s48, s49, s50, s51, app1, app2, g1, g2, rfl, rfl, TS, (fun _ => rfl), c1, c4, c5, c6, c7, cB1, cB2, cA1, cA2, cA1t, cA2t, (fun h => ⟨rfl, (cS1 h).2⟩), cS2⟩
                · skip
                  refine opIn_value rfl rfl (fun c h => by cases h) (fun _ => trivial) (v := (.int .i64 sy)) (w' := w') (by go_simp) ⟨l0, true, l2, l3, l4, l5, l6, l7, l8, l9, l10, l11, s42, (.int .i64 sy), s44, s45, s46, s47, s48, s49, s50, s51, app1, app2, g1, g2, rfl, rfl, TS, c0, (fun _ => rfl), c4, c5, c6, c7, cB1, cB2, cA1, cA2, cA1t, cA2t, cS1, cS2⟩
                · skip
                  have eV0 := c1 (ready_dep hi rfl 1 (by kernel_rfl))
                  refine opIn_value rfl rfl (fun c h => by cases h) (fun _ => trivial) (v := .slice (some ⟨w'.heap.size, 0, none⟩) 1 1) (w' := w'.alloc (.cells #[.int .i64 (sy)] 3)) (by subst eV0; go_simp) ⟨l0, l1, true, l3, l4, l5, l6, l7, l8, l9, l10, l11, s42, s43, (.slice (some ⟨w'.heap.size, 0, none⟩) 1 1), s45, s46, s47, s48, s49, s50, s51, app1, app2, (some (w'.heap.size, sy)), g2, rfl, rfl, (TS.build1 sy), c0, c1, c4, c5, c6, c7, (fun _ _ => ⟨_, rfl, rfl⟩), cB2, cA1, cA2, cA1t, cA2t, cS1, cS2⟩
                · have u : l3 = false := Option.some.inj (ready_open hi)
                  have eL : s42 = u1 := c0 (ready_dep hi rfl 0 (by kernel_rfl))
                  obtain ⟨G, hG, hs⟩ := cB1 (ready_dep hi rfl 2 (by kernel_rfl)) u
                  obtain rfl : l10 = false := by cases h7 : l10; rfl; exact absurd (cS1 h7).2 (by rw [u]; decide)
                  obtain rfl : app1 = none := cA1 u
                  obtain ⟨v', w'', hr, TS'⟩ := TS.append1 hG HQ.out.1 40
                  refine opIn_value rfl rfl (fun c h => by cases h) (fun _ => trivial) (v := v') (w' := w'') (run_append_op rfl (show _ = _ from eL) (show _ = _ from hs) hr) ⟨l0, l1, l2, true, l4, l5, l6, l7, l8, l9, false, l11, s42, s43, s44, v', s46, s47, s48, s49, s50, s51, (some (v', sy)), app2, none, g2, rfl, rfl, TS', c0, c1, c4, c5, c6, c7, (fun _ h => by cases h), cB2, (fun h => by cases h), cA2, (fun _ => rfl), cA2t, (fun h => by cases h), cS2⟩
                · have u : l4 = false := Option.some.inj (ready_open hi)
                  have e7 : l11 = false := by cases h7 : l11; rfl; exact absurd (cS2 h7).1 (by rw [u]; decide)
                  have hc : w'.cell? ⟨w.heap.size + 1, 0, none⟩ = some u2 := by have := TS.box2; rw [e7] at this; exact this.cell (i := 0) rfl
                  clear u e7
                  refine opIn_value rfl rfl (fun c h => by cases h) (fun _ => trivial) (v := u2) (w' := w') (by go_simp) ⟨l0, l1, l2, l3, true, l5, l6, l7, l8, l9, l10, l11, s42, s43, s44, s45, u2, s47, s48, s49, s50, s51, app1, app2, g1, g2, rfl, rfl, TS, c0, c1, (fun _ => rfl), c5, c6, c7, cB1, cB2, cA1, cA2, cA1t, cA2t, cS1, (fun h => ⟨rfl, (cS2 h).2⟩)⟩
                · skip
                  refine opIn_value rfl rfl (fun c h => by cases h) (fun _ => trivial) (v := (.int .i64 (tp : Int))) (w' := w') (by go_simp) ⟨l0, l1, l2, l3, l4, true, l6, l7, l8, l9, l10, l11, s42, s43, s44, s45, s46, (.int .i64 (tp : Int)), s48, s49, s50, s51, app1, app2, g1, g2, rfl, rfl, TS, c0, c1, c4, (fun _ => rfl), c6, c7, cB1, cB2, cA1, cA2, cA1t, cA2t, cS1, cS2⟩
                · skip
                  refine opIn_value rfl rfl (fun c h => by cases h) (fun _ => trivial) (v := (.int .i64 (le : Int))) (w' := w') (by go_simp) ⟨l0, l1, l2, l3, l4, l5, true, l7, l8, l9, l10, l11, s42, s43, s44, s45, s46, s47, (.int .i64 (le : Int)), s49, s50, s51, app1, app2, g1, g2, rfl, rfl, TS, c0, c1, c4, c5, (fun _ => rfl), c7, cB1, cB2, cA1, cA2, cA1t, cA2t, cS1, cS2⟩
                · skip
                  have eV0 := c5 (ready_dep hi rfl 5 (by kernel_rfl))
                  have eV1 := c6 (ready_dep hi rfl 6 (by kernel_rfl))
                  refine opIn_value rfl rfl (fun c h => by cases h) (fun _ => trivial) (v := (.int .i64 ((tp : Int) - (le : Int)))) (w' := w') (by subst eV0; subst eV1; go_simp) ⟨l0, l1, l2, l3, l4, l5, l6, true, l8, l9, l10, l11, s42, s43, s44, s45, s46, s47, s48, (.int .i64 ((tp : Int) - (le : Int))), s50, s51, app1, app2, g1, g2, rfl, rfl, TS, c0, c1, c4, c5, c6, (fun _ => rfl), cB1, cB2, cA1, cA2, cA1t, cA2t, cS1, cS2⟩
                · skip
                  have eV0 := c7 (ready_dep hi rfl 7 (by kernel_rfl))
                  refine opIn_value rfl rfl (fun c h => by cases h) (fun _ => trivial) (v := .slice (some ⟨w'.heap.size, 0, none⟩) 1 1) (w' := w'.alloc (.cells #[.int .i64 (((tp : Int) - (le : Int)))] 3)) (by subst eV0; go_simp) ⟨l0, l1, l2, l3, l4, l5, l6, l7, true, l9, l10, l11, s42, s43, s44, s45, s46, s47, s48, s49, (.slice (some ⟨w'.heap.size, 0, none⟩) 1 1), s51, app1, app2, g1, (some (w'.heap.size, ((tp : Int) - (le : Int)))), rfl, rfl, (TS.swap.build1 ((tp : Int) - (le : Int))).swap, c0, c1, c4, c5, c6, c7, cB1, (fun _ _ => ⟨_, rfl, rfl⟩), cA1, cA2, cA1t, cA2t, cS1, cS2⟩
                · have u : l9 = false := Option.some.inj (ready_open hi)
                  have eL : s46 = u2 := c4 (ready_dep hi rfl 4 (by kernel_rfl))
                  obtain ⟨G, hG, hs⟩ := cB2 (ready_dep hi rfl 8 (by kernel_rfl)) u
                  obtain rfl : l11 = false := by cases h7 : l11; rfl; exact absurd (cS2 h7).2 (by rw [u]; decide)
                  obtain rfl : app2 = none := cA2 u
                  obtain ⟨v', w'', hr, TS'⟩ := TS.swap.append1 hG HQ.out.2 40
                  have TS' := TS'.swap
                  refine opIn_value rfl rfl (fun c h => by cases h) (fun _ => trivial) (v := v') (w' := w'') (run_append_op rfl (show _ = _ from eL) (show _ = _ from hs) hr) ⟨l0, l1, l2, l3, l4, l5, l6, l7, l8, true, l10, false, s42, s43, s44, s45, s46, s47, s48, s49, s50, v', app1, (some (v', ((tp : Int) - (le : Int)))), g1, none, rfl, rfl, TS', c0, c1, c4, c5, c6, c7, cB1, (fun _ h => by cases h), cA1, (fun h => by cases h), cA1t, (fun _ => rfl), cS1, (fun h => by cases h)⟩
                · have u : l10 = false := Option.some.inj (ready_open hi)
                  have eA : l3 = true := ready_dep hi rfl 3 (by kernel_rfl)
                  have eL : l0 = true := ready_dep hi rfl 0 (by kernel_rfl)
                  obtain rfl : app1 = some (s45, sy) := cA1t eA
                  subst u
                  have hc := TS.box1.cell (i := 0) rfl
                  have hf := TS.box1.frozen 0
                  have TS' := TS.store1
                  obtain ⟨gg, cc, hv⟩ := TS.own1.1
                  simp only [curV] at hv
                  refine opIn_skip rfl rfl (fun c h => by cases h) (fun _ => trivial) (w' := w'.setCell ⟨w.heap.size, 0, none⟩ s45) (run_store40 rfl (show _ = _ from rfl) (show _ = _ from rfl) hv hc hf) ⟨l0, l1, l2, l3, l4, l5, l6, l7, l8, l9, true, l11, s42, s43, s44, s45, s46, s47, s48, s49, s50, s51, (some (s45, sy)), app2, g1, g2, rfl, rfl, TS', c0, c1, c4, c5, c6, c7, cB1, cB2, cA1, cA2, cA1t, cA2t, (fun _ => ⟨eL, eA⟩), cS2⟩
                · have u : l11 = false := Option.some.inj (ready_open hi)
                  have eA : l9 = true := ready_dep hi rfl 9 (by kernel_rfl)
                  have eL : l4 = true := ready_dep hi rfl 4 (by kernel_rfl)
                  obtain rfl : app2 = some (s51, ((tp : Int) - (le : Int))) := cA2t eA
                  subst u
                  have hc := TS.box2.cell (i := 0) rfl
                  have hf := TS.box2.frozen 0
                  have TS' := TS.swap.store1
                  have TS' := TS'.swap
                  obtain ⟨gg, cc, hv⟩ := TS.own2.1
                  simp only [curV] at hv
                  refine opIn_skip rfl rfl (fun c h => by cases h) (fun _ => trivial) (w' := w'.setCell ⟨w.heap.size + 1, 0, none⟩ s51) (run_store40 rfl (show _ = _ from rfl) (show _ = _ from rfl) hv hc hf) ⟨l0, l1, l2, l3, l4, l5, l6, l7, l8, l9, l10, true, s42, s43, s44, s45, s46, s47, s48, s49, s50, s51, app1, (some (s51, ((tp : Int) - (le : Int)))), g1, g2, rfl, rfl, TS', c0, c1, c4, c5, c6, c7, cB1, cB2, cA1, cA2, cA1t, cA2t, cS1, (fun _ => ⟨eL, eA⟩)⟩
              · rintro listed a' w' ⟨l0, l1, l2, l3, l4, l5, l6, l7, l8, l9, l10, l11, s42, s43, s44, s45, s46, s47, s48, s49, s50, s51, app1, app2, g1, g2, rfl, rfl, TS, c0, c1, c4, c5, c6, c7, cB1, cB2, cA1, cA2, cA1t, cA2t, cS1, cS2⟩ hr
                obtain rfl : l0 = true := nil_done hr 0 rfl (by kernel_rfl)
                obtain rfl : l1 = true := nil_done hr 1 rfl (by kernel_rfl)
                obtain rfl : l2 = true := nil_done hr 2 rfl (by kernel_rfl)
                obtain rfl : l3 = true := nil_done hr 3 rfl (by kernel_rfl)
                obtain rfl : l4 = true := nil_done hr 4 rfl (by kernel_rfl)
                obtain rfl : l5 = true := nil_done hr 5 rfl (by kernel_rfl)
                obtain rfl : l6 = true := nil_done hr 6 rfl (by kernel_rfl)
                obtain rfl : l7 = true := nil_done hr 7 rfl (by kernel_rfl)
                obtain rfl : l8 = true := nil_done hr 8 rfl (by kernel_rfl)
                obtain rfl : l9 = true := nil_done hr 9 rfl (by kernel_rfl)
                obtain rfl : l10 = true := nil_done hr 10 rfl (by kernel_rfl)
                obtain rfl : l11 = true := nil_done hr 11 rfl (by kernel_rfl)
                obtain rfl := cA1t rfl
                obtain rfl := cA2t rfl
                obtain ⟨hTn, hKn, hOn⟩ := TS.fin
                clear hr TS c0 c1 c4 c5 c6 c7 cB1 cB2 cA1 cA2 cS1 cS2 cA1t cA2t
                obtain ⟨hm1, hm2, hL9⟩ := HSTEP.out tp s45 s51 w' HMN.out hTn hKn hOn
                have HL9 : Hid _ := hL9
                have HM12 : Hid (tp ≤ t ∧ 1 ≤ tp) := ⟨hm1, hm2⟩
                have hsw : IntKind.i64.wrap ((t : Int) - (tp : Int)) = (t : Int) - (tp : Int) := by have h2 := HLT.out; simp [IntKind.wrap, IntKind.bits, IntKind.signed]; try omega
                clear hL9 hm1 hm2 hTn hKn hOn hTq HSTEP HA hsb
                gi_wp2
                exact ⟨⟨t - tp, _, _, _, by have := HM12.out; go_num, by omega, HL9⟩, by have := HM12.out; simp [intOf]; omega⟩
            · rw [HE40.out.1] at h
              generalize wrap64 (wrap64 ((le : Int) + wrap64 (2 ^ bt)) - 1) = x40
              generalize wrap64 ((le : Int) + wrap64 (2 ^ bt)) = x39
              generalize wrap64 ((2 : Int) ^ bt) = x38
              have HMN : Hid (t = min t (topOf ln t)) := by show _ = _; rw [HM.out]; omega
              have hsb : IntKind.i64.wrap ((t : Int) - (le : Int)) = (t : Int) - (le : Int) := by have h1 := HLE1.out; have h2 := HLT.out; have h3 := HE40.out.2; simp [IntKind.wrap, IntKind.bits, IntKind.signed]; omega
              clear h t1 hb7 HE40 HTP HBT HSY HLE HTOP HLE1
              refine wpIn_region_any (by kernel_rfl) (wpAnyIn_inv (fun listed a' w' => ∃ (l0 l1 l2 l3 l4 l5 l6 l7 l8 l9 l10 l11 : Bool) (s42 s43 s44 s45 s46 s47 s48 s49 s50 s51 : Value) (app1 app2 : Option (Value × Int)) (g1 g2 : Option (Nat × Int)), listed = #[l0, l1, l2, l3, l4, l5, l6, l7, l8, l9, l10, l11] ∧ a' = { tmps := #[.slice a zs.length cap, undef, .slice none 0 0, .slice none 0 0, .pointer (some ⟨w.heap.size, 0, none⟩), .pointer (some ⟨w.heap.size + 1, 0, none⟩), .int .i64 ln, .int .i64 (t : Int), .int .i64 sy, .int .i64 (le : Int), .int .i64 (t : Int), .slice a zs.length cap, .func (.func 43) #[] #[.pointer (some ⟨w.heap.size + 1 + 1, 0, none⟩)], .int .i64 ln, .int .i64 (tm : Int), .int .i64 ln, .bool true, s17, s18, s19, s20, s21, s22, s23, .int .i64 (tm : Int), .int .i64 ((tm : Int) - 1), .int .i64 (t : Int), .bool true, .tuple #[.int .i64 sy, .int .i64 (le : Int)], .int .i64 ln, .int .i64 (t : Int), .tuple #[.int .i64 sy, .int .i64 (le : Int)], .int .i64 sy, .int .i64 (le : Int), .int .i64 (t : Int), .int .i64 (le : Int), .int .i64 sy, .int .i64 (bt : Int), .int .i64 x38, .int .i64 x39, .int .i64 x40, .int .i64 (t : Int), s42, s43, s44, s45, s46, s47, s48, s49, s50, s51, u52, u53, u54, undef, undef], defers := [] } ∧ TwoSt w.heap.size w.heap.size (w.heap.size + 1) w (fun k => k = w.heap.size + 1 + 1 ∨ S0 k) w2 (qs.map (·.1)) (qs.map (·.2)) u1 u2 app1 app2 l10 l11 g1 g2 w' ∧ (l0 = true → s42 = u1) ∧ (l1 = true → s43 = (.int .i64 sy)) ∧ (l4 = true → s46 = u2) ∧ (l5 = true → s47 = (.int .i64 (t : Int))) ∧ (l6 = true → s48 = (.int .i64 (le : Int))) ∧ (l7 = true → s49 = (.int .i64 ((t : Int) - (le : Int)))) ∧ (l2 = true → l3 = false → ∃ G, g1 = some (G, sy) ∧ s44 = .slice (some ⟨G, 0, none⟩) 1 1) ∧ (l8 = true → l9 = false → ∃ G, g2 = some (G, ((t : Int) - (le : Int))) ∧ s50 = .slice (some ⟨G, 0, none⟩) 1 1) ∧ (l3 = false → app1 = none) ∧ (l9 = false → app2 = none) ∧ (l3 = true → app1 = some (s45, sy)) ∧ (l9 = true → app2 = some (s51, ((t : Int) - (le : Int)))) ∧ (l10 = true → l0 = true ∧ l3 = true) ∧ (l11 = true → l4 = true ∧ l9 = true)) ?_ ?_ _ _ _ _ ⟨false, false, false, false, false, false, false, false, false, false, false, false, _, _, _, _, _, _, _, _, _, _, none, none, none, none, rfl, rfl, hTq.start.drew, (fun h => by cases h), (fun h => by cases h), (fun h => by cases h), (fun h => by cases h), (fun h => by cases h), (fun h => by cases h), (fun h _ => by cases h), (fun h _ => by cases h), (fun _ => rfl), (fun _ => rfl), (fun h => by cases h), (fun h => by cases h), (fun h => by cases h), (fun h => by cases h)⟩ (by decide))
              · rintro listed a' w' ⟨l0, l1, l2, l3, l4, l5, l6, l7, l8, l9, l10, l11, s42, s43, s44, s45, s46, s47, s48, s49, s50, s51, app1, app2, g1, g2, rfl, rfl, TS, c0, c1, c4, c5, c6, c7, cB1, cB2, cA1, cA2, cA1t, cA2t, cS1, cS2⟩ i hi
                have hlt : i < 12 := ready_lt hi
                have hop : ∀ {b : Bool}, _ = some false → b = false := fun {b} (h : some b = some false) => Option.some.inj h
                rcases (by omega : i = 0 ∨ i = 1 ∨ i = 2 ∨ i = 3 ∨ i = 4 ∨ i = 5 ∨ i = 6 ∨ i = 7 ∨ i = 8 ∨ i = 9 ∨ i = 10 ∨ i = 11) with rfl | rfl | rfl | rfl | rfl | rfl | rfl | rfl | rfl | rfl | rfl | rfl
                · have u : l0 = false := Option.some.inj (ready_open hi)
                  have e7 : l10 = false := by cases h7 : l10; rfl; exact absurd (cS1 h7).1 (by rw [u]; decide)
                  have hc : w'.cell? ⟨w.heap.size, 0, none⟩ = some u1 := by have := TS.box1; rw [e7] at this; exact this.cell (i := 0) rfl
                  clear u e7
                  refine opIn_value rfl rfl (fun c h => by cases h) (fun _ => trivial) (v := u1) (w' := w') (by go_simp) ⟨true, l1, l2, l3, l4, l5, l6, l7, l8, l9, l10, l11, u1, s43, s44, s45, s46, s47, s48, s49, s50, s51, app1, app2, g1, g2, rfl, rfl, TS, (fun _ => rfl), c1, c4, c5, c6, c7, cB1, cB2, cA1, cA2, cA1t, cA2t, (fun h => ⟨rfl, (cS1 h).2⟩), cS2⟩
                · skip
                  refine opIn_value rfl rfl (fun c h => by cases h) (fun _ => trivial) (v := (.int .i64 sy)) (w' := w') (by go_simp) ⟨l0, true, l2, l3, l4, l5, l6, l7, l8, l9, l10, l11, s42, (.int .i64 sy), s44, s45, s46, s47, s48, s49, s50, s51, app1, app2, g1, g2, rfl, rfl, TS, c0, (fun _ => rfl), c4, c5, c6, c7, cB1, cB2, cA1, cA2, cA1t, cA2t, cS1, cS2⟩
                · skip
                  have eV0 := c1 (ready_dep hi rfl 1 (by kernel_rfl))
                  refine opIn_value rfl rfl (fun c h => by cases h) (fun _ => trivial) (v := .slice (some ⟨w'.heap.size, 0, none⟩) 1 1) (w' := w'.alloc (.cells #[.int .i64 (sy)] 3)) (by subst eV0; go_simp) ⟨l0, l1, true, l3, l4, l5, l6, l7, l8, l9, l10, l11, s42, s43, (.slice (some ⟨w'.heap.size, 0, none⟩) 1 1), s45, s46, s47, s48, s49, s50, s51, app1, app2, (some (w'.heap.size, sy)), g2, rfl, rfl, (TS.build1 sy), c0, c1, c4, c5, c6, c7, (fun _ _ => ⟨_, rfl, rfl⟩), cB2, cA1, cA2, cA1t, cA2t, cS1, cS2⟩
                · have u : l3 = false := Option.some.inj (ready_open hi)
                  have eL : s42 = u1 := c0 (ready_dep hi rfl 0 (by kernel_rfl))
                  obtain ⟨G, hG, hs⟩ := cB1 (ready_dep hi rfl 2 (by kernel_rfl)) u
                  obtain rfl : l10 = false := by cases h7 : l10; rfl; exact absurd (cS1 h7).2 (by rw [u]; decide)
                  obtain rfl : app1 = none := cA1 u
                  obtain ⟨v', w'', hr, TS'⟩ := TS.append1 hG HQ.out.1 40
                  refine opIn_value rfl rfl (fun c h => by cases h) (fun _ => trivial) (v := v') (w' := w'') (run_append_op rfl (show _ = _ from eL) (show _ = _ from hs) hr) ⟨l0, l1, l2, true, l4, l5, l6, l7, l8, l9, false, l11, s42, s43, s44, v', s46, s47, s48, s49, s50, s51, (some (v', sy)), app2, none, g2, rfl, rfl, TS', c0, c1, c4, c5, c6, c7, (fun _ h => by cases h), cB2, (fun h => by cases h), cA2, (fun _ => rfl), cA2t, (fun h => by cases h), cS2⟩
                · have u : l4 = false := Option.some.inj (ready_open hi)
                  have e7 : l11 = false := by cases h7 : l11; rfl; exact absurd (cS2 h7).1 (by rw [u]; decide)
                  have hc : w'.cell? ⟨w.heap.size + 1, 0, none⟩ = some u2 := by have := TS.box2; rw [e7] at this; exact this.cell (i := 0) rfl
                  clear u e7
                  refine opIn_value rfl rfl (fun c h => by cases h) (fun _ => trivial) (v := u2) (w' := w') (by go_simp) ⟨l0, l1, l2, l3, true, l5, l6, l7, l8, l9, l10, l11, s42, s43, s44, s45, u2, s47, s48, s49, s50, s51, app1, app2, g1, g2, rfl, rfl, TS, c0, c1, (fun _ => rfl), c5, c6, c7, cB1, cB2, cA1, cA2, cA1t, cA2t, cS1, (fun h => ⟨rfl, (cS2 h).2⟩)⟩
                · skip
                  refine opIn_value rfl rfl (fun c h => by cases h) (fun _ => trivial) (v := (.int .i64 (t : Int))) (w' := w') (by go_simp) ⟨l0, l1, l2, l3, l4, true, l6, l7, l8, l9, l10, l11, s42, s43, s44, s45, s46, (.int .i64 (t : Int)), s48, s49, s50, s51, app1, app2, g1, g2, rfl, rfl, TS, c0, c1, c4, (fun _ => rfl), c6, c7, cB1, cB2, cA1, cA2, cA1t, cA2t, cS1, cS2⟩
                · skip
                  refine opIn_value rfl rfl (fun c h => by cases h) (fun _ => trivial) (v := (.int .i64 (le : Int))) (w' := w') (by go_simp) ⟨l0, l1, l2, l3, l4, l5, true, l7, l8, l9, l10, l11, s42, s43, s44, s45, s46, s47, (.int .i64 (le : Int)), s49, s50, s51, app1, app2, g1, g2, rfl, rfl, TS, c0, c1, c4, c5, (fun _ => rfl), c7, cB1, cB2, cA1, cA2, cA1t, cA2t, cS1, cS2⟩
                · skip
                  have eV0 := c5 (ready_dep hi rfl 5 (by kernel_rfl))
                  have eV1 := c6 (ready_dep hi rfl 6 (by kernel_rfl))
                  refine opIn_value rfl rfl (fun c h => by cases h) (fun _ => trivial) (v := (.int .i64 ((t : Int) - (le : Int)))) (w' := w') (by subst eV0; subst eV1; go_simp) ⟨l0, l1, l2, l3, l4, l5, l6, true, l8, l9, l10, l11, s42, s43, s44, s45, s46, s47, s48, (.int .i64 ((t : Int) - (le : Int))), s50, s51, app1, app2, g1, g2, rfl, rfl, TS, c0, c1, c4, c5, c6, (fun _ => rfl), cB1, cB2, cA1, cA2, cA1t, cA2t, cS1, cS2⟩
                · skip
                  have eV0 := c7 (ready_dep hi rfl 7 (by kernel_rfl))
                  refine opIn_value rfl rfl (fun c h => by cases h) (fun _ => trivial) (v := .slice (some ⟨w'.heap.size, 0, none⟩) 1 1) (w' := w'.alloc (.cells #[.int .i64 (((t : Int) - (le : Int)))] 3)) (by subst eV0; go_simp) ⟨l0, l1, l2, l3, l4, l5, l6, l7, true, l9, l10, l11, s42, s43, s44, s45, s46, s47, s48, s49, (.slice (some ⟨w'.heap.size, 0, none⟩) 1 1), s51, app1, app2, g1, (some (w'.heap.size, ((t : Int) - (le : Int)))), rfl, rfl, (TS.swap.build1 ((t : Int) - (le : Int))).swap, c0, c1, c4, c5, c6, c7, cB1, (fun _ _ => ⟨_, rfl, rfl⟩), cA1, cA2, cA1t, cA2t, cS1, cS2⟩
                · have u : l9 = false := Option.some.inj (ready_open hi)
                  have eL : s46 = u2 := c4 (ready_dep hi rfl 4 (by kernel_rfl))
                  obtain ⟨G, hG, hs⟩ := cB2 (ready_dep hi rfl 8 (by kernel_rfl)) u
                  obtain rfl : l11 = false := by cases h7 : l11; rfl; exact absurd (cS2 h7).2 (by rw [u]; decide)
                  obtain rfl : app2 = none := cA2 u
                  obtain ⟨v', w'', hr, TS'⟩ := TS.swap.append1 hG HQ.out.2 40
                  have TS' := TS'.swap
                  refine opIn_value rfl rfl (fun c h => by cases h) (fun _ => trivial) (v := v') (w' := w'') (run_append_op rfl (show _ = _ from eL) (show _ = _ from hs) hr) ⟨l0, l1, l2, l3, l4, l5, l6, l7, l8, true, l10, false, s42, s43, s44, s45, s46, s47, s48, s49, s50, v', app1, (some (v', ((t : Int) - (le : Int)))), g1, none, rfl, rfl, TS', c0, c1, c4, c5, c6, c7, cB1, (fun _ h => by cases h), cA1, (fun h => by cases h), cA1t, (fun _ => rfl), cS1, (fun h => by cases h)⟩
                · have u : l10 = false := Option.some.inj (ready_open hi)
                  have eA : l3 = true := ready_dep hi rfl 3 (by kernel_rfl)
                  have eL : l0 = true := ready_dep hi rfl 0 (by kernel_rfl)
                  obtain rfl : app1 = some (s45, sy) := cA1t eA
                  subst u
                  have hc := TS.box1.cell (i := 0) rfl
                  have hf := TS.box1.frozen 0
                  have TS' := TS.store1
                  obtain ⟨gg, cc, hv⟩ := TS.own1.1
                  simp only [curV] at hv
                  refine opIn_skip rfl rfl (fun c h => by cases h) (fun _ => trivial) (w' := w'.setCell ⟨w.heap.size, 0, none⟩ s45) (run_store40 rfl (show _ = _ from rfl) (show _ = _ from rfl) hv hc hf) ⟨l0, l1, l2, l3, l4, l5, l6, l7, l8, l9, true, l11, s42, s43, s44, s45, s46, s47, s48, s49, s50, s51, (some (s45, sy)), app2, g1, g2, rfl, rfl, TS', c0, c1, c4, c5, c6, c7, cB1, cB2, cA1, cA2, cA1t, cA2t, (fun _ => ⟨eL, eA⟩), cS2⟩
                · have u : l11 = false := Option.some.inj (ready_open hi)
                  have eA : l9 = true := ready_dep hi rfl 9 (by kernel_rfl)
                  have eL : l4 = true := ready_dep hi rfl 4 (by kernel_rfl)
                  obtain rfl : app2 = some (s51, ((t : Int) - (le : Int))) := cA2t eA
                  subst u
                  have hc := TS.box2.cell (i := 0) rfl
                  have hf := TS.box2.frozen 0
                  have TS' := TS.swap.store1
                  have TS' := TS'.swap
                  obtain ⟨gg, cc, hv⟩ := TS.own2.1
                  simp only [curV] at hv
                  refine opIn_skip rfl rfl (fun c h => by cases h) (fun _ => trivial) (w' := w'.setCell ⟨w.heap.size + 1, 0, none⟩ s51) (run_store40 rfl (show _ = _ from rfl) (show _ = _ from rfl) hv hc hf) ⟨l0, l1, l2, l3, l4, l5, l6, l7, l8, l9, l10, true, s42, s43, s44, s45, s46, s47, s48, s49, s50, s51, app1, (some (s51, ((t : Int) - (le : Int)))), g1, g2, rfl, rfl, TS', c0, c1, c4, c5, c6, c7, cB1, cB2, cA1, cA2, cA1t, cA2t, cS1, (fun _ => ⟨eL, eA⟩)⟩
              · rintro listed a' w' ⟨l0, l1, l2, l3, l4, l5, l6, l7, l8, l9, l10, l11, s42, s43, s44, s45, s46, s47, s48, s49, s50, s51, app1, app2, g1, g2, rfl, rfl, TS, c0, c1, c4, c5, c6, c7, cB1, cB2, cA1, cA2, cA1t, cA2t, cS1, cS2⟩ hr
                obtain rfl : l0 = true := nil_done hr 0 rfl (by kernel_rfl)
                obtain rfl : l1 = true := nil_done hr 1 rfl (by kernel_rfl)
                obtain rfl : l2 = true := nil_done hr 2 rfl (by kernel_rfl)
                obtain rfl : l3 = true := nil_done hr 3 rfl (by kernel_rfl)
                obtain rfl : l4 = true := nil_done hr 4 rfl (by kernel_rfl)
                obtain rfl : l5 = true := nil_done hr 5 rfl (by kernel_rfl)
                obtain rfl : l6 = true := nil_done hr 6 rfl (by kernel_rfl)
                obtain rfl : l7 = true := nil_done hr 7 rfl (by kernel_rfl)
                obtain rfl : l8 = true := nil_done hr 8 rfl (by kernel_rfl)
                obtain rfl : l9 = true := nil_done hr 9 rfl (by kernel_rfl)
                obtain rfl : l10 = true := nil_done hr 10 rfl (by kernel_rfl)
                obtain rfl : l11 = true := nil_done hr 11 rfl (by kernel_rfl)
                obtain rfl := cA1t rfl
                obtain rfl := cA2t rfl
                obtain ⟨hTn, hKn, hOn⟩ := TS.fin
                clear hr TS c0 c1 c4 c5 c6 c7 cB1 cB2 cA1 cA2 cS1 cS2 cA1t cA2t
                obtain ⟨hm1, hm2, hL9⟩ := HSTEP.out t s45 s51 w' HMN.out hTn hKn hOn
                have HL9 : Hid _ := hL9
                have HM12 : Hid (t ≤ t ∧ 1 ≤ t) := ⟨hm1, hm2⟩
                have hsw : IntKind.i64.wrap ((t : Int) - (t : Int)) = (t : Int) - (t : Int) := by have h2 := HLT.out; simp [IntKind.wrap, IntKind.bits, IntKind.signed]; try omega
                clear hL9 hm1 hm2 hTn hKn hOn hTq HSTEP HA hsb
                gi_wp2
                exact ⟨⟨t - t, _, _, _, by have := HM12.out; go_num, by omega, HL9⟩, by have := HM12.out; simp [intOf]; omega⟩
    · obtain rfl : ln = 0 := by have := hRx.2.2.1.1; simp only at this; omega
      have HW : Hid (1 ≤ tm ∧ tm ≤ zs.length) := ⟨hRx.1, by have := hRx.2.1; simp only at this; omega⟩
      have HL0 : Hid (LgAt w.heap.size w (fun k => k = w.heap.size + 1 + 1 ∨ S0 k) W ((zs.map cln).take (tot pre)) 0 tm tm ps v1 v2 W) := ⟨hT, Kept.refl _ _, KeepsOthers.refl _, by rw [hR]; simp, by omega, fun h => by omega⟩
      clear hT HL1 HL2
      gi_wp2
      gi_loopw [7] (fun v7 wr => ∃ (t : Nat) (qs : List (Int × Int)) (u1 u2 : Value), v7 = .int .i64 (t : Int) ∧ t ≤ tm ∧ Hid (LgAt w.heap.size w (fun k => k = w.heap.size + 1 + 1 ∨ S0 k) W ((zs.map cln).take (tot pre)) 0 tm t qs u1 u2 wr)) (fun v7 _ => (intOf v7).toNat)
      case atStart => exact ⟨tm, _, _, _, by have := HW.out; go_num, by omega, HL0⟩
      case round =>
        obtain ⟨t, qs, u1, u2, rfl, htm, HA⟩ := hrel
        by_cases ht : 0 < t
        rotate_left
        · have t1 : ¬ (0 < (t : Int)) := by omega
          obtain rfl : t = 0 := by omega
          gi_wp2
          obtain ⟨a1, a2, a3, a4, _, _⟩ := HA.out
          exact ⟨a3.from _, a2, qs, u1, u2, a1, hKd.trans a2, by rw [a4, take_run zs pre 0 tm hRx]; rfl⟩
        · have t1 : 0 < (t : Int) := by omega
          have HLT : Hid (t ≤ zs.length) := by have := HW.out; show _ ≤ _; omega
          have HS : Hid (Calls Tryd.prog 27 #[.int .i64 0, .int .i64 (t : Int)] wr fun e w' => e = .returned (.tuple #[.int .i64 (symOf 0 t).1, .int .i64 ((symOf 0 t).2 : Int)]) ∧ w' = wr) := runSymbol_any 0 t wr (by have := HLT.out; omega)
          gi_wp2_with fail
          refine ⟨trivial, (show CallsIn Fence.wide _ _ _ _ _ _ from callsIn_wide.2 HS.out).mono ?_⟩
          clear HS
          rintro e w1 ⟨rfl, rfl⟩
          have HLE1 : Hid (1 ≤ (symOf 0 t).2 ∧ (symOf 0 t).2 ≤ 11) := symOf_bd 0 t
          have HTOP : Hid (topOf 0 t = (symOf 0 t).2 + 2 ^ bitsN (symOf 0 t).1 - 1) := rfl
          have HSTEP := fun (many : Nat) (a1 a2 : Value) (wn : World) => lg_step (many := many) (a1 := a1) (a2 := a2) (wn := wn) HA.out ht hRx.2.2.1
          obtain ⟨sy, HSY⟩ : ∃ sy, Hid ((symOf 0 t).1 = sy) := ⟨_, rfl⟩
          obtain ⟨le, HLE⟩ : ∃ le, Hid ((symOf 0 t).2 = le) := ⟨_, rfl⟩
          rw [HSY.out, HLE.out] at HSTEP HTOP
          rw [HLE.out] at HLE1
          rw [HSY.out, HLE.out]
          obtain ⟨bt, HBT⟩ : ∃ bt, Hid (bitsN sy = bt) := ⟨_, rfl⟩
          have HB : Hid (Calls Tryd.prog 28 #[.int .i64 sy] w1 fun e w' => e = .returned (.int .i64 (bt : Int)) ∧ w' = w1) := by have := runBits_any sy w1; rw [HBT.out] at this; exact this
          have HSTEP : Hid _ := HSTEP
          gi_wp2_with fail
          refine ⟨trivial, (show CallsIn Fence.wide _ _ _ _ _ _ from callsIn_wide.2 HB.out).mono ?_⟩
          clear HB
          rintro e w2 ⟨rfl, rfl⟩
          have hb7 : bt ≤ 7 := by rw [← HBT.out]; exact bitsN_le sy
          obtain ⟨tp, HTP⟩ : ∃ tp : Nat, Hid (le + 2 ^ bt - 1 = tp) := ⟨_, rfl⟩
          have HM : Hid (topOf 0 t = tp) := by show _ = _; rw [HTOP.out, HBT.out]; exact HTP.out
          have HE40 : Hid (wrap64 (wrap64 ((le : Int) + wrap64 (2 ^ bt)) - 1) = (tp : Int) ∧ le ≤ tp ∧ tp ≤ 150) := top_wrap le bt tp hb7 HLE1.out.1 HLE1.out.2 HTP.out
          have HQ : Hid ((qs.map (·.1)).length + 1 ≤ 17592186043904 ∧ (qs.map (·.2)).length + 1 ≤ 17592186043904) := by
            have h1 := rowT_more HA.out.2.2.2.1
            have h2 := hRx.2.1
            simp only [List.length_nil, List.length_append, List.length_replicate, List.length_take, List.length_map] at h1 h2
            exact ⟨by simp only [List.length_map]; omega, by simp only [List.length_map]; omega⟩
          have hTq := HA.out.1
          gi_wp2_with fail
          · rw [HE40.out.1] at h
            rw [HE40.out.1]
            generalize wrap64 ((le : Int) + wrap64 (2 ^ bt)) = x39
            generalize wrap64 ((2 : Int) ^ bt) = x38
            have HMN : Hid (tp = min t (topOf 0 t)) := by show _ = _; rw [HM.out]; omega
            have hsb : IntKind.i64.wrap ((tp : Int) - (le : Int)) = (tp : Int) - (le : Int) := by have h1 := HLE1.out; have h2 := HLT.out; have h3 := HE40.out.2; simp [IntKind.wrap, IntKind.bits, IntKind.signed]; omega
            clear h t1 hb7 HE40 HTP HBT HSY HLE HTOP HLE1
            refine wpIn_region_any (by kernel_rfl) (wpAnyIn_inv (fun listed a' w' => ∃ (l0 l1 l2 l3 l4 l5 l6 l7 l8 l9 l10 l11 : Bool) (s42 s43 s44 s45 s46 s47 s48 s49 s50 s51 : Value) (app1 app2 : Option (Value × Int)) (g1 g2 : Option (Nat × Int)), listed = #[l0, l1, l2, l3, l4, l5, l6, l7, l8, l9, l10, l11] ∧ a' = { tmps := #[.slice a zs.length cap, undef, .slice none 0 0, .slice none 0 0, .pointer (some ⟨w.heap.size, 0, none⟩), .pointer (some ⟨w.heap.size + 1, 0, none⟩), .int .i64 0, .int .i64 (t : Int), .int .i64 sy, .int .i64 (le : Int), .int .i64 (tp : Int), .slice a zs.length cap, .func (.func 43) #[] #[.pointer (some ⟨w.heap.size + 1 + 1, 0, none⟩)], .int .i64 0, .int .i64 (tm : Int), .int .i64 0, .bool false, undef, undef, undef, undef, undef, undef, undef, undef, undef, .int .i64 (t : Int), .bool true, .tuple #[.int .i64 sy, .int .i64 (le : Int)], .int .i64 0, .int .i64 (t : Int), .tuple #[.int .i64 sy, .int .i64 (le : Int)], .int .i64 sy, .int .i64 (le : Int), .int .i64 (t : Int), .int .i64 (le : Int), .int .i64 sy, .int .i64 (bt : Int), .int .i64 x38, .int .i64 x39, .int .i64 (tp : Int), .int .i64 (tp : Int), s42, s43, s44, s45, s46, s47, s48, s49, s50, s51, u52, u53, u54, undef, undef], defers := [] } ∧ TwoSt w.heap.size w.heap.size (w.heap.size + 1) w (fun k => k = w.heap.size + 1 + 1 ∨ S0 k) w2 (qs.map (·.1)) (qs.map (·.2)) u1 u2 app1 app2 l10 l11 g1 g2 w' ∧ (l0 = true → s42 = u1) ∧ (l1 = true → s43 = (.int .i64 sy)) ∧ (l4 = true → s46 = u2) ∧ (l5 = true → s47 = (.int .i64 (tp : Int))) ∧ (l6 = true → s48 = (.int .i64 (le : Int))) ∧ (l7 = true → s49 = (.int .i64 ((tp : Int) - (le : Int)))) ∧ (l2 = true → l3 = false → ∃ G, g1 = some (G, sy) ∧ s44 = .slice (some ⟨G, 0, none⟩) 1 1) ∧ (l8 = true → l9 = false → ∃ G, g2 = some (G, ((tp : Int) - (le : Int))) ∧ s50 = .slice (some ⟨G, 0, none⟩) 1 1) ∧ (l3 = false → app1 = none) ∧ (l9 = false → app2 = none) ∧ (l3 = true → app1 = some (s45, sy)) ∧ (l9 = true → app2 = some (s51, ((tp : Int) - (le : Int)))) ∧ (l10 = true → l0 = true ∧ l3 = true) ∧ (l11 = true → l4 = true ∧ l9 = true)) ?_ ?_ _ _ _ _ ⟨false, false, false, false, false, false, false, false, false, false, false, false, _, _, _, _, _, _, _, _, _, _, none, none, none, none, rfl, rfl, hTq.start.drew, (fun h => by cases h), (fun h => by cases h), (fun h => by cases h), (fun h => by cases h), (fun h => by cases h), (fun h => by cases h), (fun h _ => by cases h), (fun h _ => by cases h), (fun _ => rfl), (fun _ => rfl), (fun h => by cases h), (fun h => by cases h), (fun h => by cases h), (fun h => by cases h)⟩ (by decide))
            · rintro listed a' w' ⟨l0, l1, l2, l3, l4, l5, l6, l7, l8, l9, l10, l11, s42, s43, s44, s45, s46, s47, s48, s49, s50, s51, app1, app2, g1, g2, rfl, rfl, TS, c0, c1, c4, c5, c6, c7, cB1, cB2, cA1, cA2, cA1t, cA2t, cS1, cS2⟩ i hi
              have hlt : i < 12 := ready_lt hi
              have hop : ∀ {b : Bool}, _ = some false → b = false := fun {b} (h : some b = some false) => Option.some.inj h
              rcases (by omega : i = 0 ∨ i = 1 ∨ i = 2 ∨ i = 3 ∨ i = 4 ∨ i = 5 ∨ i = 6 ∨ i = 7 ∨ i = 8 ∨ i = 9 ∨ i = 10 ∨ i = 11) with rfl | rfl | rfl | rfl | rfl | rfl | rfl | rfl | rfl | rfl | rfl | rfl
              · have u : l0 = false := Option.some.inj (ready_open hi)
                have e7 : l10 = false := by cases h7 : l10; rfl; exact absurd (cS1 h7).1 (by rw [u]; decide)
                have hc : w'.cell? ⟨w.heap.size, 0, none⟩ = some u1 := by have := TS.box1; rw [e7] at this; exact this.cell (i := 0) rfl
                clear u e7
                refine opIn_value rfl rfl (fun c h => by cases h) (fun _ => trivial) (v := u1) (w' := w') (by go_simp) ⟨true, l1, l2, l3, l4, l5, l6, l7, l8, l9, l10, l11, u1, s43, s44, s45, s46, s47, s48, s49, s50, s51, app1, app2, g1, g2, rfl, rfl, TS, (fun _ => rfl), c1, c4, c5, c6, c7, cB1, cB2, cA1, cA2, cA1t, cA2t, (fun h => ⟨rfl, (cS1 h).2⟩), cS2⟩
              · skip
                refine opIn_value rfl rfl (fun c h => by cases h) (fun _ => trivial) (v := (.int .i64 sy)) (w' := w') (by go_simp) ⟨l0, true, l2, l3, l4, l5, l6, l7, l8, l9, l10, l11, s42, (.int .i64 sy), s44, s45, s46, s47, s48, s49, s50, s51, app1, app2, g1, g2, rfl, rfl, TS, c0, (fun _ => rfl), c4, c5, c6, c7, cB1, cB2, cA1, cA2, cA1t, cA2t, cS1, cS2⟩
              · skip
                have eV0 := c1 (ready_dep hi rfl 1 (by kernel_rfl))
                refine opIn_value rfl rfl (fun c h => by cases h) (fun _ => trivial) (v := .slice (some ⟨w'.heap.size, 0, none⟩) 1 1) (w' := w'.alloc (.cells #[.int .i64 (sy)] 3)) (by subst eV0; go_simp) ⟨l0, l1, true, l3, l4, l5, l6, l7, l8, l9, l10, l11, s42, s43, (.slice (some ⟨w'.heap.size, 0, none⟩) 1 1), s45, s46, s47, s48, s49, s50, s51, app1, app2, (some (w'.heap.size, sy)), g2, rfl, rfl, (TS.build1 sy), c0, c1, c4, c5, c6, c7, (fun _ _ => ⟨_, rfl, rfl⟩), cB2, cA1, cA2, cA1t, cA2t, cS1, cS2⟩
              · have u : l3 = false := Option.some.inj (ready_open hi)
                have eL : s42 = u1 := c0 (ready_dep hi rfl 0 (by kernel_rfl))
                obtain ⟨G, hG, hs⟩ := cB1 (ready_dep hi rfl 2 (by kernel_rfl)) u
                obtain rfl : l10 = false := by cases h7 : l10; rfl; exact absurd (cS1 h7).2 (by rw [u]; decide)
                obtain rfl : app1 = none := cA1 u
                obtain ⟨v', w'', hr, TS'⟩ := TS.append1 hG HQ.out.1 40
                refine opIn_value rfl rfl (fun c h => by cases h) (fun _ => trivial) (v := v') (w' := w'') (run_append_op rfl (show _ = _ from eL) (show _ = _ from hs) hr) ⟨l0, l1, l2, true, l4, l5, l6, l7, l8, l9, false, l11, s42, s43, s44, v', s46, s47, s48, s49, s50, s51, (some (v', sy)), app2, none, g2, rfl, rfl, TS', c0, c1, c4, c5, c6, c7, (fun _ h => by cases h), cB2, (fun h => by cases h), cA2, (fun _ => rfl), cA2t, (fun h => by cases h), cS2⟩
              · have u : l4 = false := Option.some.inj (ready_open hi)
                have e7 : l11 = false := by cases h7 : l11; rfl; exact absurd (cS2 h7).1 (by rw [u]; decide)
                have hc : w'.cell? ⟨w.heap.size + 1, 0, none⟩ = some u2 := by have := TS.box2; rw [e7] at this; exact this.cell (i := 0) rfl
                clear u e7
                refine opIn_value rfl rfl (fun c h => by cases h) (fun _ => trivial) (v := u2) (w' := w') (by go_simp) ⟨l0, l1, l2, l3, true, l5, l6, l7, l8, l9, l10, l11, s42, s43, s44, s45, u2, s47, s48, s49, s50, s51, app1, app2, g1, g2, rfl, rfl, TS, c0, c1, (fun _ => rfl), c5, c6, c7, cB1, cB2, cA1, cA2, cA1t, cA2t, cS1, (fun h => ⟨rfl, (cS2 h).2⟩)⟩
              · skip
                refine opIn_value rfl rfl (fun c h => by cases h) (fun _ => trivial) (v := (.int .i64 (tp : Int))) (w' := w') (by go_simp) ⟨l0, l1, l2, l3, l4, true, l6, l7, l8, l9, l10, l11, s42, s43, s44, s45, s46, (.int .i64 (tp : Int)), s48, s49, s50, s51, app1, app2, g1, g2, rfl, rfl, TS, c0, c1, c4, (fun _ => rfl), c6, c7, cB1, cB2, cA1, cA2, cA1t, cA2t, cS1, cS2⟩
              · skip
                refine opIn_value rfl rfl (fun c h => by cases h) (fun _ => trivial) (v := (.int .i64 (le : Int))) (w' := w') (by go_simp) ⟨l0, l1, l2, l3, l4, l5, true, l7, l8, l9, l10, l11, s42, s43, s44, s45, s46, s47, (.int .i64 (le : Int)), s49, s50, s51, app1, app2, g1, g2, rfl, rfl, TS, c0, c1, c4, c5, (fun _ => rfl), c7, cB1, cB2, cA1, cA2, cA1t, cA2t, cS1, cS2⟩
              · skip
                have eV0 := c5 (ready_dep hi rfl 5 (by kernel_rfl))
                have eV1 := c6 (ready_dep hi rfl 6 (by kernel_rfl))
                refine opIn_value rfl rfl (fun c h => by cases h) (fun _ => trivial) (v := (.int .i64 ((tp : Int) - (le : Int)))) (w' := w') (by subst eV0; subst eV1; go_simp) ⟨l0, l1, l2, l3, l4, l5, l6, true, l8, l9, l10, l11, s42, s43, s44, s45, s46, s47, s48, (.int .i64 ((tp : Int) - (le : Int))), s50, s51, app1, app2, g1, g2, rfl, rfl, TS, c0, c1, c4, c5, c6, (fun _ => rfl), cB1, cB2, cA1, cA2, cA1t, cA2t, cS1, cS2⟩
              · skip
                have eV0 := c7 (ready_dep hi rfl 7 (by kernel_rfl))
                refine opIn_value rfl rfl (fun c h => by cases h) (fun _ => trivial) (v := .slice (some ⟨w'.heap.size, 0, none⟩) 1 1) (w' := w'.alloc (.cells #[.int .i64 (((tp : Int) - (le : Int)))] 3)) (by subst eV0; go_simp) ⟨l0, l1, l2, l3, l4, l5, l6, l7, true, l9, l10, l11, s42, s43, s44, s45, s46, s47, s48, s49, (.slice (some ⟨w'.heap.size, 0, none⟩) 1 1), s51, app1, app2, g1, (some (w'.heap.size, ((tp : Int) - (le : Int)))), rfl, rfl, (TS.swap.build1 ((tp : Int) - (le : Int))).swap, c0, c1, c4, c5, c6, c7, cB1, (fun _ _ => ⟨_, rfl, rfl⟩), cA1, cA2, cA1t, cA2t, cS1, cS2⟩
              · have u : l9 = false := Option.some.inj (ready_open hi)
                have eL : s46 = u2 := c4 (ready_dep hi rfl 4 (by kernel_rfl))
                obtain ⟨G, hG, hs⟩ := cB2 (ready_dep hi rfl 8 (by kernel_rfl)) u
                obtain rfl : l11 = false := by cases h7 : l11; rfl; exact absurd (cS2 h7).2 (by rw [u]; decide)
                obtain rfl : app2 = none := cA2 u
                obtain ⟨v', w'', hr, TS'⟩ := TS.swap.append1 hG HQ.out.2 40
                have TS' := TS'.swap
                refine opIn_value rfl rfl (fun c h => by cases h) (fun _ => trivial) (v := v') (w' := w'') (run_append_op rfl (show _ = _ from eL) (show _ = _ from hs) hr) ⟨l0, l1, l2, l3, l4, l5, l6, l7, l8, true, l10, false, s42, s43, s44, s45, s46, s47, s48, s49, s50, v', app1, (some (v', ((tp : Int) - (le : Int)))), g1, none, rfl, rfl, TS', c0, c1, c4, c5, c6, c7, cB1, (fun _ h => by cases h), cA1, (fun h => by cases h), cA1t, (fun _ => rfl), cS1, (fun h => by cases h)⟩
              · have u : l10 = false := Option.some.inj (ready_open hi)
                have eA : l3 = true := ready_dep hi rfl 3 (by kernel_rfl)
                have eL : l0 = true := ready_dep hi rfl 0 (by kernel_rfl)
                obtain rfl : app1 = some (s45, sy) := cA1t eA
                subst u
                have hc := TS.box1.cell (i := 0) rfl
                have hf := TS.box1.frozen 0
                have TS' := TS.store1
                obtain ⟨gg, cc, hv⟩ := TS.own1.1
                simp only [curV] at hv
                refine opIn_skip rfl rfl (fun c h => by cases h) (fun _ => trivial) (w' := w'.setCell ⟨w.heap.size, 0, none⟩ s45) (run_store40 rfl (show _ = _ from rfl) (show _ = _ from rfl) hv hc hf) ⟨l0, l1, l2, l3, l4, l5, l6, l7, l8, l9, true, l11, s42, s43, s44, s45, s46, s47, s48, s49, s50, s51, (some (s45, sy)), app2, g1, g2, rfl, rfl, TS', c0, c1, c4, c5, c6, c7, cB1, cB2, cA1, cA2, cA1t, cA2t, (fun _ => ⟨eL, eA⟩), cS2⟩
              · have u : l11 = false := Option.some.inj (ready_open hi)
                have eA : l9 = true := ready_dep hi rfl 9 (by kernel_rfl)
                have eL : l4 = true := ready_dep hi rfl 4 (by kernel_rfl)
                obtain rfl : app2 = some (s51, ((tp : Int) - (le : Int))) := cA2t eA
                subst u
                have hc := TS.box2.cell (i := 0) rfl
                have hf := TS.box2.frozen 0
                have TS' := TS.swap.store1
                have TS' := TS'.swap
                obtain ⟨gg, cc, hv⟩ := TS.own2.1
                simp only [curV] at hv
                refine opIn_skip rfl rfl (fun c h => by cases h) (fun _ => trivial) (w' := w'.setCell ⟨w.heap.size + 1, 0, none⟩ s51) (run_store40 rfl (show _ = _ from rfl) (show _ = _ from rfl) hv hc hf) ⟨l0, l1, l2, l3, l4, l5, l6, l7, l8, l9, l10, true, s42, s43, s44, s45, s46, s47, s48, s49, s50, s51, app1, (some (s51, ((tp : Int) - (le : Int)))), g1, g2, rfl, rfl, TS', c0, c1, c4, c5, c6, c7, cB1, cB2, cA1, cA2, cA1t, cA2t, cS1, (fun _ => ⟨eL, eA⟩)⟩
            · rintro listed a' w' ⟨l0, l1, l2, l3, l4, l5, l6, l7, l8, l9, l10, l11, s42, s43, s44, s45, s46, s47, s48, s49, s50, s51, app1, app2, g1, g2, rfl, rfl, TS, c0, c1, c4, c5, c6, c7, cB1, cB2, cA1, cA2, cA1t, cA2t, cS1, cS2⟩ hr
              obtain rfl : l0 = true := nil_done hr 0 rfl (by kernel_rfl)
              obtain rfl : l1 = true := nil_done hr 1 rfl (by kernel_rfl)
              obtain rfl : l2 = true := nil_done hr 2 rfl (by kernel_rfl)
              obtain rfl : l3 = true := nil_done hr 3 rfl (by kernel_rfl)
              obtain rfl : l4 = true := nil_done hr 4 rfl (by kernel_rfl)
              obtain rfl : l5 = true := nil_done hr 5 rfl (by kernel_rfl)
              obtain rfl : l6 = true := nil_done hr 6 rfl (by kernel_rfl)
              obtain rfl : l7 = true := nil_done hr 7 rfl (by kernel_rfl)
              obtain rfl : l8 = true := nil_done hr 8 rfl (by kernel_rfl)
              obtain rfl : l9 = true := nil_done hr 9 rfl (by kernel_rfl)
              obtain rfl : l10 = true := nil_done hr 10 rfl (by kernel_rfl)
              obtain rfl : l11 = true := nil_done hr 11 rfl (by kernel_rfl)
              obtain rfl := cA1t rfl
              obtain rfl := cA2t rfl
              obtain ⟨hTn, hKn, hOn⟩ := TS.fin
              clear hr TS c0 c1 c4 c5 c6 c7 cB1 cB2 cA1 cA2 cS1 cS2 cA1t cA2t
              obtain ⟨hm1, hm2, hL9⟩ := HSTEP.out tp s45 s51 w' HMN.out hTn hKn hOn
              have HL9 : Hid _ := hL9
              have HM12 : Hid (tp ≤ t ∧ 1 ≤ tp) := ⟨hm1, hm2⟩
              have hsw : IntKind.i64.wrap ((t : Int) - (tp : Int)) = (t : Int) - (tp : Int) := by have h2 := HLT.out; simp [IntKind.wrap, IntKind.bits, IntKind.signed]; try omega
              clear hL9 hm1 hm2 hTn hKn hOn hTq HSTEP HA hsb
              gi_wp2
              exact ⟨⟨t - tp, _, _, _, by have := HM12.out; go_num, by omega, HL9⟩, by have := HM12.out; simp [intOf]; omega⟩
          · rw [HE40.out.1] at h
            generalize wrap64 (wrap64 ((le : Int) + wrap64 (2 ^ bt)) - 1) = x40
            generalize wrap64 ((le : Int) + wrap64 (2 ^ bt)) = x39
            generalize wrap64 ((2 : Int) ^ bt) = x38
            have HMN : Hid (t = min t (topOf 0 t)) := by show _ = _; rw [HM.out]; omega
            have hsb : IntKind.i64.wrap ((t : Int) - (le : Int)) = (t : Int) - (le : Int) := by have h1 := HLE1.out; have h2 := HLT.out; have h3 := HE40.out.2; simp [IntKind.wrap, IntKind.bits, IntKind.signed]; omega
            clear h t1 hb7 HE40 HTP HBT HSY HLE HTOP HLE1
            refine wpIn_region_any (by kernel_rfl) (wpAnyIn_inv (fun listed a' w' => ∃ (l0 l1 l2 l3 l4 l5 l6 l7 l8 l9 l10 l11 : Bool) (s42 s43 s44 s45 s46 s47 s48 s49 s50 s51 : Value) (app1 app2 : Option (Value × Int)) (g1 g2 : Option (Nat × Int)), listed = #[l0, l1, l2, l3, l4, l5, l6, l7, l8, l9, l10, l11] ∧ a' = { tmps := #[.slice a zs.length cap, undef, .slice none 0 0, .slice none 0 0, .pointer (some ⟨w.heap.size, 0, none⟩), .pointer (some ⟨w.heap.size + 1, 0, none⟩), .int .i64 0, .int .i64 (t : Int), .int .i64 sy, .int .i64 (le : Int), .int .i64 (t : Int), .slice a zs.length cap, .func (.func 43) #[] #[.pointer (some ⟨w.heap.size + 1 + 1, 0, none⟩)], .int .i64 0, .int .i64 (tm : Int), .int .i64 0, .bool false, undef, undef, undef, undef, undef, undef, undef, undef, undef, .int .i64 (t : Int), .bool true, .tuple #[.int .i64 sy, .int .i64 (le : Int)], .int .i64 0, .int .i64 (t : Int), .tuple #[.int .i64 sy, .int .i64 (le : Int)], .int .i64 sy, .int .i64 (le : Int), .int .i64 (t : Int), .int .i64 (le : Int), .int .i64 sy, .int .i64 (bt : Int), .int .i64 x38, .int .i64 x39, .int .i64 x40, .int .i64 (t : Int), s42, s43, s44, s45, s46, s47, s48, s49, s50, s51, u52, u53, u54, undef, undef], defers := [] } ∧ TwoSt w.heap.size w.heap.size (w.heap.size + 1) w (fun k => k = w.heap.size + 1 + 1 ∨ S0 k) w2 (qs.map (·.1)) (qs.map (·.2)) u1 u2 app1 app2 l10 l11 g1 g2 w' ∧ (l0 = true → s42 = u1) ∧ (l1 = true → s43 = (.int .i64 sy)) ∧ (l4 = true → s46 = u2) ∧ (l5 = true → s47 = (.int .i64 (t : Int))) ∧ (l6 = true → s48 = (.int .i64 (le : Int))) ∧ (l7 = true → s49 = (.int .i64 ((t : Int) - (le : Int)))) ∧ (l2 = true → l3 = false → ∃ G, g1 = some (G, sy) ∧ s44 = .slice (some ⟨G, 0, none⟩) 1 1) ∧ (l8 = true → l9 = false → ∃ G, g2 = some (G, ((t : Int) - (le : Int))) ∧ s50 = .slice (some ⟨G, 0, none⟩) 1 1) ∧ (l3 = false → app1 = none) ∧ (l9 = false → app2 = none) ∧ (l3 = true → app1 = some (s45, sy)) ∧ (l9 = true → app2 = some (s51, ((t : Int) - (le : Int)))) ∧ (l10 = true → l0 = true ∧ l3 = true) ∧ (l11 = true → l4 = true ∧ l9 = true)) ?_ ?_ _ _ _ _ ⟨false, false, false, false, false, false, false, false, false, false, false, false, _, _, _, _, _, _, _, _, _, _, none, none, none, none, rfl, rfl, hTq.start.drew, (fun h => by cases h), (fun h => by cases h), (fun h => by cases h), (fun h => by cases h), (fun h => by cases h), (fun h => by cases h), (fun h _ => by cases h), (fun h _ => by cases h), (fun _ => rfl), (fun _ => rfl), (fun h => by cases h), (fun h => by cases h), (fun h => by cases h), (fun h => by cases h)⟩ (by decide))
            · rintro listed a' w' ⟨l0, l1, l2, l3, l4, l5, l6, l7, l8, l9, l10, l11, s42, s43, s44, s45, s46, s47, s48, s49, s50, s51, app1, app2, g1, g2, rfl, rfl, TS, c0, c1, c4, c5, c6, c7, cB1, cB2, cA1, cA2, cA1t, cA2t, cS1, cS2⟩ i hi
              have hlt : i < 12 := ready_lt hi
              have hop : ∀ {b : Bool}, _ = some false → b = false := fun {b} (h : some b = some false) => Option.some.inj h
              rcases (by omega : i = 0 ∨ i = 1 ∨ i = 2 ∨ i = 3 ∨ i = 4 ∨ i = 5 ∨ i = 6 ∨ i = 7 ∨ i = 8 ∨ i = 9 ∨ i = 10 ∨ i = 11) with rfl | rfl | rfl | rfl | rfl | rfl | rfl | rfl | rfl | rfl | rfl | rfl
              · have u : l0 = false := Option.some.inj (ready_open hi)
                have e7 : l10 = false := by cases h7 : l10; rfl; exact absurd (cS1 h7).1 (by rw [u]; decide)
                have hc : w'.cell? ⟨w.heap.size, 0, none⟩ = some u1 := by have := TS.box1; rw [e7] at this; exact this.cell (i := 0) rfl
                clear u e7
                refine opIn_value rfl rfl (fun c h => by cases h) (fun _ => trivial) (v := u1) (w' := w') (by go_simp) ⟨true, l1, l2, l3, l4, l5, l6, l7, l8, l9, l10, l11, u1, s43, s44, s45, s46, s47, s48, s49, s50, s51, app1, app2, g1, g2, rfl, rfl, TS, (fun _ => rfl), c1, c4, c5, c6, c7, cB1, cB2, cA1, cA2, cA1t, cA2t, (fun h => ⟨rfl, (cS1 h).2⟩), cS2⟩
              · skip
                refine opIn_value rfl rfl (fun c h => by cases h) (fun _ => trivial) (v := (.int .i64 sy)) (w' := w') (by go_simp) ⟨l0, true, l2, l3, l4, l5, l6, l7, l8, l9, l10, l11, s42, (.int .i64 sy), s44, s45, s46, s47, s48, s49, s50, s51, app1, app2, g1, g2, rfl, rfl, TS, c0, (fun _ => rfl), c4, c5, c6, c7, cB1, cB2, cA1, cA2, cA1t, cA2t, cS1, cS2⟩
              · skip
                have eV0 := c1 (ready_dep hi rfl 1 (by kernel_rfl))
                refine opIn_value rfl rfl (fun c h => by cases h) (fun _ => trivial) (v := .slice (some ⟨w'.heap.size, 0, none⟩) 1 1) (w' := w'.alloc (.cells #[.int .i64 (sy)] 3)) (by subst eV0; go_simp) ⟨l0, l1, true, l3, l4, l5, l6, l7, l8, l9, l10, l11, s42, s43, (.slice (some ⟨w'.heap.size, 0, none⟩) 1 1), s45, s46, s47, s48, s49, s50, s51, app1, app2, (some (w'.heap.size, sy)), g2, rfl, rfl, (TS.build1 sy), c0, c1, c4, c5, c6, c7, (fun _ _ => ⟨_, rfl, rfl⟩), cB2, cA1, cA2, cA1t, cA2t, cS1, cS2⟩
              · have u : l3 = false := Option.some.inj (ready_open hi)
                have eL : s42 = u1 := c0 (ready_dep hi rfl 0 (by kernel_rfl))
                obtain ⟨G, hG, hs⟩ := cB1 (ready_dep hi rfl 2 (by kernel_rfl)) u
                obtain rfl : l10 = false := by cases h7 : l10; rfl; exact absurd (cS1 h7).2 (by rw [u]; decide)
                obtain rfl : app1 = none := cA1 u
                obtain ⟨v', w'', hr, TS'⟩ := TS.append1 hG HQ.out.1 40
                refine opIn_value rfl rfl (fun c h => by cases h) (fun _ => trivial) (v := v') (w' := w'') (run_append_op rfl (show _ = _ from eL) (show _ = _ from hs) hr) ⟨l0, l1, l2, true, l4, l5, l6, l7, l8, l9, false, l11, s42, s43, s44, v', s46, s47, s48, s49, s50, s51, (some (v', sy)), app2, none, g2, rfl, rfl, TS', c0, c1, c4, c5, c6, c7, (fun _ h => by cases h), cB2, (fun h => by cases h), cA2, (fun _ => rfl), cA2t, (fun h => by cases h), cS2⟩
              · have u : l4 = false := Option.some.inj (ready_open hi)
                have e7 : l11 = false := by cases h7 : l11; rfl; exact absurd (cS2 h7).1 (by rw [u]; decide)
                have hc : w'.cell? ⟨w.heap.size + 1, 0, none⟩ = some u2 := by have := TS.box2; rw [e7] at this; exact this.cell (i := 0) rfl
                clear u e7
                refine opIn_value rfl rfl (fun c h => by cases h) (fun _ => trivial) (v := u2) (w' := w') (by go_simp) ⟨l0, l1, l2, l3, true, l5, l6, l7, l8, l9, l10, l11, s42, s43, s44, s45, u2, s47, s48, s49, s50, s51, app1, app2, g1, g2, rfl, rfl, TS, c0, c1, (fun _ => rfl), c5, c6, c7, cB1, cB2, cA1, cA2, cA1t, cA2t, cS1, (fun h => ⟨rfl, (cS2 h).2⟩)⟩
              · skip
                refine opIn_value rfl rfl (fun c h => by cases h) (fun _ => trivial) (v := (.int .i64 (t : Int))) (w' := w') (by go_simp) ⟨l0, l1, l2, l3, l4, true, l6, l7, l8, l9, l10, l11, s42, s43, s44, s45, s46, (.int .i64 (t : Int)), s48, s49, s50, s51, app1, app2, g1, g2, rfl, rfl, TS, c0, c1, c4, (fun _ => rfl), c6, c7, cB1, cB2, cA1, cA2, cA1t, cA2t, cS1, cS2⟩
              · skip
                refine opIn_value rfl rfl (fun c h => by cases h) (fun _ => trivial) (v := (.int .i64 (le : Int))) (w' := w') (by go_simp) ⟨l0, l1, l2, l3, l4, l5, true, l7, l8, l9, l10, l11, s42, s43, s44, s45, s46, s47, (.int .i64 (le : Int)), s49, s50, s51, app1, app2, g1, g2, rfl, rfl, TS, c0, c1, c4, c5, (fun _ => rfl), c7, cB1, cB2, cA1, cA2, cA1t, cA2t, cS1, cS2⟩
              · skip
                have eV0 := c5 (ready_dep hi rfl 5 (by kernel_rfl))
                have eV1 := c6 (ready_dep hi rfl 6 (by kernel_rfl))
                refine opIn_value rfl rfl (fun c h => by cases h) (fun _ => trivial) (v := (.int .i64 ((t : Int) - (le : Int)))) (w' := w') (by subst eV0; subst eV1; go_simp) ⟨l0, l1, l2, l3, l4, l5, l6, true, l8, l9, l10, l11, s42, s43, s44, s45, s46, s47, s48, (.int .i64 ((t : Int) - (le : Int))), s50, s51, app1, app2, g1, g2, rfl, rfl, TS, c0, c1, c4, c5, c6, (fun _ => rfl), cB1, cB2, cA1, cA2, cA1t, cA2t, cS1, cS2⟩
              · skip
                have eV0 := c7 (ready_dep hi rfl 7 (by kernel_rfl))
                refine opIn_value rfl rfl (fun c h => by cases h) (fun _ => trivial) (v := .slice (some ⟨w'.heap.size, 0, none⟩) 1 1) (w' := w'.alloc (.cells #[.int .i64 (((t : Int) - (le : Int)))] 3)) (by subst eV0; go_simp) ⟨l0, l1, l2, l3, l4, l5, l6, l7, true, l9, l10, l11, s42, s43, s44, s45, s46, s47, s48, s49, (.slice (some ⟨w'.heap.size, 0, none⟩) 1 1), s51, app1, app2, g1, (some (w'.heap.size, ((t : Int) - (le : Int)))), rfl, rfl, (TS.swap.build1 ((t : Int) - (le : Int))).swap, c0, c1, c4, c5, c6, c7, cB1, (fun _ _ => ⟨_, rfl, rfl⟩), cA1, cA2, cA1t, cA2t, cS1, cS2⟩
              · have u : l9 = false := Option.some.inj (ready_open hi)
                have eL : s46 = u2 := c4 (ready_dep hi rfl 4 (by kernel_rfl))
                obtain ⟨G, hG, hs⟩ := cB2 (ready_dep hi rfl 8 (by kernel_rfl)) u
                obtain rfl : l11 = false := by cases h7 : l11; rfl; exact absurd (cS2 h7).2 (by rw [u]; decide)
                obtain rfl : app2 = none := cA2 u
                obtain ⟨v', w'', hr, TS'⟩ := TS.swap.append1 hG HQ.out.2 40
                have TS' := TS'.swap
                refine opIn_value rfl rfl (fun c h => by cases h) (fun _ => trivial) (v := v') (w' := w'') (run_append_op rfl (show _ = _ from eL) (show _ = _ from hs) hr) ⟨l0, l1, l2, l3, l4, l5, l6, l7, l8, true, l10, false, s42, s43, s44, s45, s46, s47, s48, s49, s50, v', app1, (some (v', ((t : Int) - (le : Int)))), g1, none, rfl, rfl, TS', c0, c1, c4, c5, c6, c7, cB1, (fun _ h => by cases h), cA1, (fun h => by cases h), cA1t, (fun _ => rfl), cS1, (fun h => by cases h)⟩
              · have u : l10 = false := Option.some.inj (ready_open hi)
                have eA : l3 = true := ready_dep hi rfl 3 (by kernel_rfl)
                have eL : l0 = true := ready_dep hi rfl 0 (by kernel_rfl)
                obtain rfl : app1 = some (s45, sy) := cA1t eA
                subst u
                have hc := TS.box1.cell (i := 0) rfl
                have hf := TS.box1.frozen 0
                have TS' := TS.store1
                obtain ⟨gg, cc, hv⟩ := TS.own1.1
                simp only [curV] at hv
                refine opIn_skip rfl rfl (fun c h => by cases h) (fun _ => trivial) (w' := w'.setCell ⟨w.heap.size, 0, none⟩ s45) (run_store40 rfl (show _ = _ from rfl) (show _ = _ from rfl) hv hc hf) ⟨l0, l1, l2, l3, l4, l5, l6, l7, l8, l9, true, l11, s42, s43, s44, s45, s46, s47, s48, s49, s50, s51, (some (s45, sy)), app2, g1, g2, rfl, rfl, TS', c0, c1, c4, c5, c6, c7, cB1, cB2, cA1, cA2, cA1t, cA2t, (fun _ => ⟨eL, eA⟩), cS2⟩
              · have u : l11 = false := Option.some.inj (ready_open hi)
                have eA : l9 = true := ready_dep hi rfl 9 (by kernel_rfl)
                have eL : l4 = true := ready_dep hi rfl 4 (by kernel_rfl)
                obtain rfl : app2 = some (s51, ((t : Int) - (le : Int))) := cA2t eA
                subst u
                have hc := TS.box2.cell (i := 0) rfl
                have hf := TS.box2.frozen 0
                have TS' := TS.swap.store1
                have TS' := TS'.swap
                obtain ⟨gg, cc, hv⟩ := TS.own2.1
                simp only [curV] at hv
                refine opIn_skip rfl rfl (fun c h => by cases h) (fun _ => trivial) (w' := w'.setCell ⟨w.heap.size + 1, 0, none⟩ s51) (run_store40 rfl (show _ = _ from rfl) (show _ = _ from rfl) hv hc hf) ⟨l0, l1, l2, l3, l4, l5, l6, l7, l8, l9, l10, true, s42, s43, s44, s45, s46, s47, s48, s49, s50, s51, app1, (some (s51, ((t : Int) - (le : Int)))), g1, g2, rfl, rfl, TS', c0, c1, c4, c5, c6, c7, cB1, cB2, cA1, cA2, cA1t, cA2t, cS1, (fun _ => ⟨eL, eA⟩)⟩
            · rintro listed a' w' ⟨l0, l1, l2, l3, l4, l5, l6, l7, l8, l9, l10, l11, s42, s43, s44, s45, s46, s47, s48, s49, s50, s51, app1, app2, g1, g2, rfl, rfl, TS, c0, c1, c4, c5, c6, c7, cB1, cB2, cA1, cA2, cA1t, cA2t, cS1, cS2⟩ hr
              obtain rfl : l0 = true := nil_done hr 0 rfl (by kernel_rfl)
              obtain rfl : l1 = true := nil_done hr 1 rfl (by kernel_rfl)
              obtain rfl : l2 = true := nil_done hr 2 rfl (by kernel_rfl)
              obtain rfl : l3 = true := nil_done hr 3 rfl (by kernel_rfl)
              obtain rfl : l4 = true := nil_done hr 4 rfl (by kernel_rfl)
              obtain rfl : l5 = true := nil_done hr 5 rfl (by kernel_rfl)
              obtain rfl : l6 = true := nil_done hr 6 rfl (by kernel_rfl)
              obtain rfl : l7 = true := nil_done hr 7 rfl (by kernel_rfl)
              obtain rfl : l8 = true := nil_done hr 8 rfl (by kernel_rfl)
              obtain rfl : l9 = true := nil_done hr 9 rfl (by kernel_rfl)
              obtain rfl : l10 = true := nil_done hr 10 rfl (by kernel_rfl)
              obtain rfl : l11 = true := nil_done hr 11 rfl (by kernel_rfl)
              obtain rfl := cA1t rfl
              obtain rfl := cA2t rfl
              obtain ⟨hTn, hKn, hOn⟩ := TS.fin
              clear hr TS c0 c1 c4 c5 c6 c7 cB1 cB2 cA1 cA2 cS1 cS2 cA1t cA2t
              obtain ⟨hm1, hm2, hL9⟩ := HSTEP.out t s45 s51 w' HMN.out hTn hKn hOn
              have HL9 : Hid _ := hL9
              have HM12 : Hid (t ≤ t ∧ 1 ≤ t) := ⟨hm1, hm2⟩
              have hsw : IntKind.i64.wrap ((t : Int) - (t : Int)) = (t : Int) - (t : Int) := by have h2 := HLT.out; simp [IntKind.wrap, IntKind.bits, IntKind.signed]; try omega
              clear hL9 hm1 hm2 hTn hKn hOn hTq HSTEP HA hsb
              gi_wp2
              exact ⟨⟨t - t, _, _, _, by have := HM12.out; go_num, by omega, HL9⟩, by have := HM12.out; simp [intOf]; omega⟩
  case done =>
    rintro D ys W hD hE ⟨ps, v1, v2, hT, hKd, hR⟩ hK
    have c0 : W.drew.cell? ⟨w.heap.size, 0, none⟩ = some v1 := hT.box1.cell (i := 0) rfl
    have c1 : W.drew.cell? ⟨w.heap.size + 1, 0, none⟩ = some v2 := hT.box2.cell (i := 0) rfl
    gi_wp2_with fail
    refine wpIn_region_any (by kernel_rfl) (wpAnyIn_inv (fun listed a' w' => ∃ (l0 l1 l2 l3 : Bool) (s55 s56 s2 s3 : Value), listed = #[l0, l1, l2, l3] ∧ a' = { tmps := #[.slice a zs.length cap, undef, s2, s3, .pointer (some ⟨w.heap.size, 0, none⟩), .pointer (some ⟨w.heap.size + 1, 0, none⟩), undef, undef, undef, undef, undef, .slice a zs.length cap, .func (.func 43) #[] #[.pointer (some ⟨w.heap.size + 1 + 1, 0, none⟩)], undef, undef, undef, undef, undef, undef, undef, undef, undef, undef, undef, undef, undef, undef, undef, undef, undef, undef, undef, undef, undef, undef, undef, undef, undef, undef, undef, undef, undef, undef, undef, undef, undef, undef, undef, undef, undef, undef, undef, undef, undef, undef, s55, s56], defers := [{ target := .collected D, args := #[] }] } ∧ w' = W.drew ∧ (l0 = true → s55 = v1) ∧ (l1 = true → s56 = v2) ∧ (l2 = true → s2 = v1) ∧ (l3 = true → s3 = v2)) ?_ ?_ _ _ _ _ ⟨false, false, false, false, undef, undef, .slice none 0 0, .slice none 0 0, rfl, rfl, rfl, (fun h => by cases h), (fun h => by cases h), (fun h => by cases h), (fun h => by cases h)⟩ (by decide))
    · rintro listed a' w' ⟨l0, l1, l2, l3, s55, s56, s2, s3, rfl, rfl, rfl, h0, h1, h2, h3⟩ i hi
      have hlt : i < 4 := ready_lt hi
      rcases (by omega : i = 0 ∨ i = 1 ∨ i = 2 ∨ i = 3) with rfl | rfl | rfl | rfl
      · refine opIn_value rfl rfl (fun c h => by cases h) (fun _ => trivial) (v := v1) (w' := W.drew) (by go_simp) ⟨true, l1, l2, l3, v1, s56, s2, s3, rfl, rfl, rfl, (fun _ => rfl), h1, h2, h3⟩
      · refine opIn_value rfl rfl (fun c h => by cases h) (fun _ => trivial) (v := v2) (w' := W.drew) (by go_simp) ⟨l0, true, l2, l3, s55, v2, s2, s3, rfl, rfl, rfl, h0, (fun _ => rfl), h2, h3⟩
      · obtain rfl := h0 (ready_dep hi rfl 0 (by kernel_rfl))
        refine opIn_value rfl rfl (fun c h => by cases h) (fun _ => trivial) (v := s55) (w' := W.drew) (by go_simp) ⟨l0, l1, true, l3, s55, s56, s55, s3, rfl, rfl, rfl, h0, h1, (fun _ => rfl), h3⟩
      · obtain rfl := h1 (ready_dep hi rfl 1 (by kernel_rfl))
        refine opIn_value rfl rfl (fun c h => by cases h) (fun _ => trivial) (v := s56) (w' := W.drew) (by go_simp) ⟨l0, l1, l2, true, s55, s56, s2, s56, rfl, rfl, rfl, h0, h1, h2, (fun _ => rfl)⟩
    · rintro listed a' w' ⟨l0, l1, l2, l3, s55, s56, s2, s3, rfl, rfl, rfl, h0, h1, h2, h3⟩ hr
      obtain rfl : l0 = true := nil_done hr 0 rfl (by kernel_rfl)
      obtain rfl : l1 = true := nil_done hr 1 rfl (by kernel_rfl)
      obtain rfl : l2 = true := nil_done hr 2 rfl (by kernel_rfl)
      obtain rfl : l3 = true := nil_done hr 3 rfl (by kernel_rfl)
      obtain rfl := h2 rfl
      obtain rfl := h3 rfl
      clear h0 h1 h2 h3
      gi_wp2
      have hKD : Kept (fun k => k ≠ D) W (W.putObj D (.deferred none)) := Kept.putObj (S := fun k => k ≠ D) W D (.deferred none) (by simp)
      have hnd : ∀ {v : Value} {xs : List Int}, OwnInts w.heap.size W v xs → ∀ k, v.ownBlock = some k → k ≠ D := by
        intro v xs ho k e e'
        subst e'
        rcases ho.2.2 with ⟨h0, _⟩ | ⟨gb, cap2, cur, hv, hb2, hgb, _⟩
        · rw [h0] at e; simp [Value.ownBlock] at e
        · rw [hv] at e
          simp [Value.ownBlock] at e
          subst e
          have := hgb.symm.trans hK
          simp at this
      have hKB : Kept (fun k => k < w.heap.size) W (W.putObj D (.deferred none)) := Kept.putObj (S := fun k => k < w.heap.size) W D (.deferred none) (by show ¬ D < _; omega)
      refine ⟨by simp, .inl ⟨_, _, rfl, run_takeDeferred (w := W.drew) hK, ?_⟩⟩
      refine ⟨.tuple #[s2, s3], by simp [results, Tryd.f14, go_sem], ?_, ps, s2, s3, rfl, ?_, ?_, ?_⟩
      · exact (hT.below.trans (hKB.below (fun _ h => h))).drew
      · exact ⟨hT.own1.1, owns_kept hT.own1.2 hKD.drew (fun k e => hnd hT.own1 k e)⟩
      · exact ⟨hT.own2.1, owns_kept hT.own2.2 hKD.drew (fun k e => hnd hT.own2 k e)⟩
      · rw [hR, show tot ys = zs.length from hE, List.take_of_length_le (by simp)]
end Go.Proofs.YtinbilbgipfemaaDoor
