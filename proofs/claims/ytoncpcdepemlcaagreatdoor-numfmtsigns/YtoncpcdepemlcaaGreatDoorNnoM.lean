import Derived.Test.YtoncpcdepemlcaaGreatDoorNlt
import Derived.Test.YtoncpcdepemlcaaGreatDoorNdg
import Derived.Lib.AppendStr
/- numfmt: noughts, and digits with commas among them. -/
namespace Go.Proofs.YtoncpcdepemlcaaGreatDoor
open Go.RowKit Go.Shelf

set_option maxRecDepth 100000 in
set_option maxHeartbeats 1000000 in
theorem noughts_any (n : Int) (hn : n ≤ 1000) (w : World) : Calls Tryz.prog 85 #[.int .i64 n] w fun r w' => r = .returned (.string (bs (Lib.repeatL [48] n.toNat))) ∧ Below w.heap.size w w' := by
  have HR : ∀ V, Hid (Calls Tryz.prog 114 #[.string ⟨#[48]⟩, .int .i64 (max n 0)] V fun e w' => e = .returned (.string (bs (Lib.repeatL [48] n.toNat))) ∧ Below V.heap.size V w') := fun V => by
    have := Tryz.strings_Repeat (bs [48]) n.toNat V (by omega) (by rw [bs_size]; simp; omega)
    rw [show ((n.toNat : Nat) : Int) = max n 0 by omega] at this
    exact this
  generalize Lib.repeatL [48] n.toNat = R at *
  clear hn
  go_enter Tryz.func85, Tryz.ntmps85
  go_wp2_with fail
  refine Calls.mono (HR _).out ?_
  rintro _ w1 ⟨rfl, b1⟩
  go_wp2
  go_ret
  exact ⟨rfl, b1⟩
/-- Digits with a comma ahead of every three from the right. -/
def grpF (L : Nat) : Nat → List UInt8 → List UInt8
  | _, [] => []
  | i, c :: r => (if 0 < i ∧ (L - i) % 3 = 0 then [44, c] else [c]) ++ grpF L (i + 1) r
def groupL (l : List UInt8) : List UInt8 := grpF l.length 0 l
def GrAt (l G : List UInt8) (w : World) (k : Nat) (o : List UInt8) (v : Value) (W : World) : Prop :=
  G = o ++ grpF l.length k (l.drop k) ∧ o.length ≤ 2 * k ∧ k ≤ l.length ∧ W.ownsRow w.heap.size 5 1 v o.length (cellsU o) ∧ Below w.heap.size w W
theorem GrAt.go {l G : List UInt8} {w : World} {k : Nat} {o : List UInt8} {v : Value} {W : World} (h : GrAt l G w k o v W) (hk : k < l.length) {a : List UInt8} (ha : a = if 0 < k ∧ (l.length - k) % 3 = 0 then [44, l[k]] else [l[k]]) {v' : Value} {W' : World}
    (hO : W'.ownsRow w.heap.size 5 1 v' (o ++ a).length (cellsU (o ++ a))) (hB : Below w.heap.size w W') : GrAt l G w (k + 1) (o ++ a) v' W' := by
  obtain ⟨e, h1, h2, _⟩ := h
  refine ⟨?_, ?_, hk, hO, hB⟩
  · rw [e, List.drop_eq_getElem_cons hk, grpF, ← ha, List.append_assoc]
  · have : a.length ≤ 2 := by rw [ha]; split <;> simp
    rw [List.length_append]; omega
set_option maxRecDepth 100000 in
set_option maxHeartbeats 8000000 in
theorem grouped_any (l : List UInt8) (hl : l.length ≤ 200) (w : World) : Calls Tryz.prog 86 #[.string (bs l)] w fun r w' => r = .returned (.string (bs (groupL l))) ∧ Below w.heap.size w w' := by
  obtain ⟨G, hG⟩ : ∃ G, groupL l = G := ⟨_, rfl⟩
  rw [hG]
  have h0 : Hid (GrAt l G w 0 [] (.slice none 0 0) w) := ⟨by rw [← hG]; rfl, by simp, Nat.zero_le _, World.ownsRow_nil _ _ _ _, Below.refl _ w⟩
  have HSL : Hid ((bs l).size = l.length) := bs_size l
  have s1 : (bs l).size ≤ 200 := by rw [bs_size]; exact hl
  clear hG
  go_enter Tryz.func86, Tryz.ntmps86
  go_wp2
  go_loopw [3, 7] (fun v3 v7 wr => ∃ (k : Nat) (o : List UInt8), v7 = .int .i64 (k : Int) ∧ Hid (GrAt l G w k o v3 wr)) (fun _ v7 _ => l.length - (intOf v7).toNat)
  case atStart => exact ⟨0, [], rfl, h0⟩
  case round =>
    clear h0
    obtain ⟨k, o, rfl, H⟩ := hrel
    have hkl := H.out.2.2.1
    have hol := H.out.2.1
    obtain ⟨g5, cap5, hv5⟩ := owns_form H.out.2.2.2.1
    subst hv5
    obtain ⟨i0, hi, hzz⟩ := Option.map_eq_some_iff.1 Tryz.info5
    simp only [Prod.mk.injEq] at hzz
    obtain ⟨hz0, hz1, hz2⟩ := hzz
    have hOwr := H.out.2.2.2.1
    have hBwr := H.out.2.2.2.2
    by_cases hlt : k < (bs l).size
    · have hlt2 : k < l.length := by rw [← HSL.out]; exact hlt
      obtain ⟨cn, hcn⟩ : ∃ cn : Nat, ((bs l)[k]'hlt).toNat = cn := ⟨_, rfl⟩
      have hcc : ∀ z : List UInt8, cellsU (z ++ [l[k]]) = cellsU z ++ [.int .u8 (cn : Int)] := fun z => by rw [cellsU_snoc]; rw [show l[k].toNat = cn from hcn]
      have hk2 : (k : Int) < 200 := by omega
      by_cases hk0 : 0 < k
      · have gk : (0 : Int) < (k : Int) := by omega
        by_cases h3 : (l.length - k) % 3 = 0
        · have HYE : Hid (0 < k ∧ (l.length - k) % 3 = 0) := ⟨hk0, h3⟩
          have g3 : ((((bs l).size : Int) - (k : Int)) % 3 == 0) = true := by rw [HSL.out]; simp; omega
          clear hk0 h3
          have HNWxa : Hid _ := newB wr (44)
          have hOaxa : (wr.alloc (.cells #[.int .u8 (44)] 5)).ownsRow w.heap.size 5 1 _ o.length (cellsU o) := World.ownsRow.alloc hOwr _
          have hBaxa := hBwr.alloc hBwr.size (.cells #[.int .u8 (44)] 5)
          have hszxa := hBwr.size
          go_wp2_with (at_builtin; refine wpList_append_own2 _ rfl (.tmp 20) (.tmp 21) 63 rfl w.heap.size 5 i0 (.int .u8 0) 1 1 Tryz.underlying63 hi hz0 hz1 hz2 rfl (by decide) _ _ _ rfl hOaxa ⟨wr.heap.size, 0, none⟩ 1 1 [.int .u8 (44)] rfl rfl HNWxa.out (by simp [Value.oneCell']) (by unfold maxLen; omega) (by omega) (by simp <;> omega) ?_)
          intro vxa xa hown hgrow hblk
          have hBxa : Below w.heap.size w xa := hBaxa.grown hgrow hBaxa.size (fun k e => (hOaxa.lt k e).1)
          have hOxa : xa.ownsRow w.heap.size 5 1 vxa (o ++ [44]).length (cellsU (o ++ [44])) := by rw [List.length_append, cellsU_snoc]; exact hown
          clear hown hgrow hblk HNWxa hOaxa hBaxa hszxa
          obtain ⟨gxa, capxa, hvxa⟩ := owns_form hOxa
          subst hvxa
          generalize hoo : o ++ [44] = o2 at *
          have hol2 : o2.length ≤ 2 * k + 1 := by rw [← hoo]; simp; omega
          have HOO : Hid (o ++ [44] = o2) := hoo
          clear hoo
          have HNWxb : Hid _ := newB xa (cn)
          have hOaxb : (xa.alloc (.cells #[.int .u8 (cn)] 5)).ownsRow w.heap.size 5 1 _ o2.length (cellsU o2) := World.ownsRow.alloc hOxa _
          have hBaxb := hBxa.alloc hBxa.size (.cells #[.int .u8 (cn)] 5)
          have hszxb := hBxa.size
          go_wp2_with (at_builtin; refine wpList_append_own2 _ rfl (.tmp 23) (.tmp 27) 63 rfl w.heap.size 5 i0 (.int .u8 0) 1 1 Tryz.underlying63 hi hz0 hz1 hz2 rfl (by decide) _ _ _ rfl hOaxb ⟨xa.heap.size, 0, none⟩ 1 1 [.int .u8 (cn)] rfl rfl HNWxb.out (by simp [Value.oneCell']) (by unfold maxLen; omega) (by omega) (by simp <;> omega) ?_)
          intro vxb xb hown hgrow hblk
          have hBxb : Below w.heap.size w xb := hBaxb.grown hgrow hBaxb.size (fun k e => (hOaxb.lt k e).1)
          have hOxb : xb.ownsRow w.heap.size 5 1 vxb (o2 ++ [l[k]]).length (cellsU (o2 ++ [l[k]])) := by rw [List.length_append, hcc]; exact hown
          clear hown hgrow hblk HNWxb hOaxb hBaxb hszxb
          obtain ⟨gxb, capxb, hvxb⟩ := owns_form hOxb
          subst hvxb
          have HG : Hid (GrAt l G w (k + 1) (o2 ++ [l[k]]) (.slice gxb (o2 ++ [l[k]]).length capxb) xb) := by
            have e : o2 ++ [l[k]] = o ++ [44, l[k]] := by rw [← HOO.out]; simp
            rw [e] at hOxb ⊢
            exact H.out.go hlt2 (by rw [if_pos HYE.out]) hOxb hBxb
          have HLT : Hid (k < l.length) := hlt2
          clear hOxb hBxb hBxa hOxa hBwr hOwr H
          go_wp2
          go_roundw
          case rel => exact ⟨k + 1, _, by go_num, HG⟩
          case measure => have := HLT.out; simp [intOf]; omega
        · have HNO : Hid (¬ (0 < k ∧ (l.length - k) % 3 = 0)) := fun h => h3 h.2
          have g3 : ((((bs l).size : Int) - (k : Int)) % 3 == 0) = false := by rw [HSL.out]; simp; omega
          clear hk0 h3
          have HNWxa : Hid _ := newB wr (cn)
          have hOaxa : (wr.alloc (.cells #[.int .u8 (cn)] 5)).ownsRow w.heap.size 5 1 _ o.length (cellsU o) := World.ownsRow.alloc hOwr _
          have hBaxa := hBwr.alloc hBwr.size (.cells #[.int .u8 (cn)] 5)
          have hszxa := hBwr.size
          go_wp2_with (at_builtin; refine wpList_append_own2 _ rfl (.tmp 23) (.tmp 27) 63 rfl w.heap.size 5 i0 (.int .u8 0) 1 1 Tryz.underlying63 hi hz0 hz1 hz2 rfl (by decide) _ _ _ rfl hOaxa ⟨wr.heap.size, 0, none⟩ 1 1 [.int .u8 (cn)] rfl rfl HNWxa.out (by simp [Value.oneCell']) (by unfold maxLen; omega) (by omega) (by simp <;> omega) ?_)
          intro vxa xa hown hgrow hblk
          have hBxa : Below w.heap.size w xa := hBaxa.grown hgrow hBaxa.size (fun k e => (hOaxa.lt k e).1)
          have hOxa : xa.ownsRow w.heap.size 5 1 vxa (o ++ [l[k]]).length (cellsU (o ++ [l[k]])) := by rw [List.length_append, hcc]; exact hown
          clear hown hgrow hblk HNWxa hOaxa hBaxa hszxa
          obtain ⟨gxa, capxa, hvxa⟩ := owns_form hOxa
          subst hvxa
          have HG : Hid (GrAt l G w (k + 1) (o ++ [l[k]]) (.slice gxa (o ++ [l[k]]).length capxa) xa) := H.out.go hlt2 (by rw [if_neg HNO.out]) hOxa hBxa
          have HLT : Hid (k < l.length) := hlt2
          clear hOxa hBxa hBwr hOwr H
          go_wp2
          go_roundw
          case rel => exact ⟨k + 1, _, by go_num, HG⟩
          case measure => have := HLT.out; simp [intOf]; omega
      · have HNO : Hid (¬ (0 < k ∧ (l.length - k) % 3 = 0)) := fun h => hk0 h.1
        have gk : ¬ (0 : Int) < (k : Int) := by omega
        have gk2 : decide ((0 : Int) < (k : Int)) = false := decide_eq_false gk
        clear hk0
        have HNWxa : Hid _ := newB wr (cn)
        have hOaxa : (wr.alloc (.cells #[.int .u8 (cn)] 5)).ownsRow w.heap.size 5 1 _ o.length (cellsU o) := World.ownsRow.alloc hOwr _
        have hBaxa := hBwr.alloc hBwr.size (.cells #[.int .u8 (cn)] 5)
        have hszxa := hBwr.size
        go_wp2_with (at_builtin; refine wpList_append_own2 _ rfl (.tmp 23) (.tmp 27) 63 rfl w.heap.size 5 i0 (.int .u8 0) 1 1 Tryz.underlying63 hi hz0 hz1 hz2 rfl (by decide) _ _ _ rfl hOaxa ⟨wr.heap.size, 0, none⟩ 1 1 [.int .u8 (cn)] rfl rfl HNWxa.out (by simp [Value.oneCell']) (by unfold maxLen; omega) (by omega) (by simp <;> omega) ?_)
        intro vxa xa hown hgrow hblk
        have hBxa : Below w.heap.size w xa := hBaxa.grown hgrow hBaxa.size (fun k e => (hOaxa.lt k e).1)
        have hOxa : xa.ownsRow w.heap.size 5 1 vxa (o ++ [l[k]]).length (cellsU (o ++ [l[k]])) := by rw [List.length_append, hcc]; exact hown
        clear hown hgrow hblk HNWxa hOaxa hBaxa hszxa
        obtain ⟨gxa, capxa, hvxa⟩ := owns_form hOxa
        subst hvxa
        have HG : Hid (GrAt l G w (k + 1) (o ++ [l[k]]) (.slice gxa (o ++ [l[k]]).length capxa) xa) := H.out.go hlt2 (by rw [if_neg HNO.out]) hOxa hBxa
        have HLT : Hid (k < l.length) := hlt2
        clear hOxa hBxa hBwr hOwr H
        go_wp2
        go_roundw
        case rel => exact ⟨k + 1, _, by go_num, HG⟩
        case measure => have := HLT.out; simp [intOf]; omega
    · have HF : Hid (G = o) := by
        show _ = _
        rw [H.out.1, List.drop_eq_nil_of_le (by have := HSL.out; omega)]
        simp [grpF]
      have hge : ¬ (k : Int) < ((bs l).size : Int) := by omega
      have hcv := conv_own hOwr
      go_wp2
      go_ret
      rw [HF.out]
      exact ⟨rfl, hBwr⟩
end Go.Proofs.YtoncpcdepemlcaaGreatDoor
/- numfmt: a section is read. -/
namespace Go.Proofs.YtoncpcdepemlcaaGreatDoor
open Go.RowKit Go.Shelf

theorem Tryz.zero33 : (Tryz.prog.info? 33).map (fun i => (i.zero, i.size)) = some (some (.agg (sec0 false).cells), 11) := by kernel_rfl
theorem load33 {W : World} {B : Nat} {cs : Array Value} (h : Row W B 33 cs) (hs : cs.size = 11) : (loadVar 33 ⟨B, 0, none⟩).run Tryz.prog W = .ok (.agg cs) W := by
  exact run_loadVar_row _ _ 33 33 cs (0, 0) _ h Tryz.underlying33 rfl (by rw [hs]; exact (zero_of_info Tryz.zero33).2)
theorem Row.set11 {W : World} {B : Nat} {t : TypeId} {a b c d e f g h i j k : Value} (hr : Row W B t #[a, b, c, d, e, f, g, h, i, j, k]) (a' b' c' d' e' f' g' h' i' j' k' : Value) : Row (((((((((((W.setCell ⟨B, 0, none⟩ a').setCell ⟨B, 1, none⟩ b').setCell ⟨B, 2, none⟩ c').setCell ⟨B, 3, none⟩ d').setCell ⟨B, 4, none⟩ e').setCell ⟨B, 5, none⟩ f').setCell ⟨B, 6, none⟩ g').setCell ⟨B, 7, none⟩ h').setCell ⟨B, 8, none⟩ i').setCell ⟨B, 9, none⟩ j').setCell ⟨B, 10, none⟩ k') B t #[a', b', c', d', e', f', g', h', i', j', k'] := by
  have h0 : Row (W.setCell ⟨B, 0, none⟩ a') B t #[a', b, c, d, e, f, g, h, i, j, k] := Row.set 0 a' hr
  have h1 : Row ((W.setCell ⟨B, 0, none⟩ a').setCell ⟨B, 1, none⟩ b') B t #[a', b', c, d, e, f, g, h, i, j, k] := Row.set 1 b' h0
  have h2 : Row (((W.setCell ⟨B, 0, none⟩ a').setCell ⟨B, 1, none⟩ b').setCell ⟨B, 2, none⟩ c') B t #[a', b', c', d, e, f, g, h, i, j, k] := Row.set 2 c' h1
  have h3 : Row ((((W.setCell ⟨B, 0, none⟩ a').setCell ⟨B, 1, none⟩ b').setCell ⟨B, 2, none⟩ c').setCell ⟨B, 3, none⟩ d') B t #[a', b', c', d', e, f, g, h, i, j, k] := Row.set 3 d' h2
  have h4 : Row (((((W.setCell ⟨B, 0, none⟩ a').setCell ⟨B, 1, none⟩ b').setCell ⟨B, 2, none⟩ c').setCell ⟨B, 3, none⟩ d').setCell ⟨B, 4, none⟩ e') B t #[a', b', c', d', e', f, g, h, i, j, k] := Row.set 4 e' h3
  have h5 : Row ((((((W.setCell ⟨B, 0, none⟩ a').setCell ⟨B, 1, none⟩ b').setCell ⟨B, 2, none⟩ c').setCell ⟨B, 3, none⟩ d').setCell ⟨B, 4, none⟩ e').setCell ⟨B, 5, none⟩ f') B t #[a', b', c', d', e', f', g, h, i, j, k] := Row.set 5 f' h4
  have h6 : Row (((((((W.setCell ⟨B, 0, none⟩ a').setCell ⟨B, 1, none⟩ b').setCell ⟨B, 2, none⟩ c').setCell ⟨B, 3, none⟩ d').setCell ⟨B, 4, none⟩ e').setCell ⟨B, 5, none⟩ f').setCell ⟨B, 6, none⟩ g') B t #[a', b', c', d', e', f', g', h, i, j, k] := Row.set 6 g' h5
  have h7 : Row ((((((((W.setCell ⟨B, 0, none⟩ a').setCell ⟨B, 1, none⟩ b').setCell ⟨B, 2, none⟩ c').setCell ⟨B, 3, none⟩ d').setCell ⟨B, 4, none⟩ e').setCell ⟨B, 5, none⟩ f').setCell ⟨B, 6, none⟩ g').setCell ⟨B, 7, none⟩ h') B t #[a', b', c', d', e', f', g', h', i, j, k] := Row.set 7 h' h6
  have h8 : Row (((((((((W.setCell ⟨B, 0, none⟩ a').setCell ⟨B, 1, none⟩ b').setCell ⟨B, 2, none⟩ c').setCell ⟨B, 3, none⟩ d').setCell ⟨B, 4, none⟩ e').setCell ⟨B, 5, none⟩ f').setCell ⟨B, 6, none⟩ g').setCell ⟨B, 7, none⟩ h').setCell ⟨B, 8, none⟩ i') B t #[a', b', c', d', e', f', g', h', i', j, k] := Row.set 8 i' h7
  have h9 : Row ((((((((((W.setCell ⟨B, 0, none⟩ a').setCell ⟨B, 1, none⟩ b').setCell ⟨B, 2, none⟩ c').setCell ⟨B, 3, none⟩ d').setCell ⟨B, 4, none⟩ e').setCell ⟨B, 5, none⟩ f').setCell ⟨B, 6, none⟩ g').setCell ⟨B, 7, none⟩ h').setCell ⟨B, 8, none⟩ i').setCell ⟨B, 9, none⟩ j') B t #[a', b', c', d', e', f', g', h', i', j', k] := Row.set 9 j' h8
  have h10 : Row (((((((((((W.setCell ⟨B, 0, none⟩ a').setCell ⟨B, 1, none⟩ b').setCell ⟨B, 2, none⟩ c').setCell ⟨B, 3, none⟩ d').setCell ⟨B, 4, none⟩ e').setCell ⟨B, 5, none⟩ f').setCell ⟨B, 6, none⟩ g').setCell ⟨B, 7, none⟩ h').setCell ⟨B, 8, none⟩ i').setCell ⟨B, 9, none⟩ j').setCell ⟨B, 10, none⟩ k') B t #[a', b', c', d', e', f', g', h', i', j', k'] := Row.set 10 k' h9
  exact h10
theorem Row.off11 {W : World} {B B' : Nat} {t : TypeId} {cs : Array Value} (h : Row W B t cs) (hn : B ≠ B') (a' b' c' d' e' f' g' h' i' j' k' : Value) : Row (((((((((((W.setCell ⟨B', 0, none⟩ a').setCell ⟨B', 1, none⟩ b').setCell ⟨B', 2, none⟩ c').setCell ⟨B', 3, none⟩ d').setCell ⟨B', 4, none⟩ e').setCell ⟨B', 5, none⟩ f').setCell ⟨B', 6, none⟩ g').setCell ⟨B', 7, none⟩ h').setCell ⟨B', 8, none⟩ i').setCell ⟨B', 9, none⟩ j').setCell ⟨B', 10, none⟩ k') B t cs :=
  ((((((((((h.off (B' := B') 0 a' hn).off (B' := B') 1 b' hn).off (B' := B') 2 c' hn).off (B' := B') 3 d' hn).off (B' := B') 4 e' hn).off (B' := B') 5 f' hn).off (B' := B') 6 g' hn).off (B' := B') 7 h' hn).off (B' := B') 8 i' hn).off (B' := B') 9 j' hn).off (B' := B') 10 k' hn
theorem Kept.set11 {S : Nat → Prop} {a0 W : World} (h0 : Kept S a0 W) {B : Nat} (hB : ¬ S B) (a' b' c' d' e' f' g' h' i' j' k' : Value) : Kept S a0 (((((((((((W.setCell ⟨B, 0, none⟩ a').setCell ⟨B, 1, none⟩ b').setCell ⟨B, 2, none⟩ c').setCell ⟨B, 3, none⟩ d').setCell ⟨B, 4, none⟩ e').setCell ⟨B, 5, none⟩ f').setCell ⟨B, 6, none⟩ g').setCell ⟨B, 7, none⟩ h').setCell ⟨B, 8, none⟩ i').setCell ⟨B, 9, none⟩ j').setCell ⟨B, 10, none⟩ k') :=
  ((((((((((h0.setCell (p := ⟨B, 0, none⟩) hB a').setCell (p := ⟨B, 1, none⟩) hB b').setCell (p := ⟨B, 2, none⟩) hB c').setCell (p := ⟨B, 3, none⟩) hB d').setCell (p := ⟨B, 4, none⟩) hB e').setCell (p := ⟨B, 5, none⟩) hB f').setCell (p := ⟨B, 6, none⟩) hB g').setCell (p := ⟨B, 7, none⟩) hB h').setCell (p := ⟨B, 8, none⟩) hB i').setCell (p := ⟨B, 9, none⟩) hB j').setCell (p := ⟨B, 10, none⟩) hB k'
theorem litStep_len {tx : Bool} {l : List UInt8} {o : List UInt8} {p k : Nat} (h : litStep tx l = some (o, p, k)) : p ≤ k ∧ 1 ≤ k ∧ k ≤ l.length := by
  cases l with
  | nil => cases h
  | cons c r =>
    simp only [litStep] at h
    split at h
    · split at h
      · rename_i hf
        have hcl : (Lib.cut r [34]).1.length + 1 ≤ r.length := by
          unfold Lib.cut at hf ⊢
          split at hf
          · rename_i hi
            rw [if_pos hi]
            have := Lib.index_room r [34] hi
            simp at this ⊢
            omega
          · cases hf
        simp only [Option.some.injEq, Prod.mk.injEq] at h
        obtain ⟨rfl, rfl, rfl⟩ := h
        simp
        omega
      · cases h
    · split at h
      · cases r with
        | nil => cases h
        | cons d r => simp only [Option.some.injEq, Prod.mk.injEq] at h; obtain ⟨rfl, rfl, rfl⟩ := h; simp
      · split at h
        · split at h
          · cases h
          · simp only [Option.some.injEq, Prod.mk.injEq] at h; obtain ⟨rfl, rfl, rfl⟩ := h; simp
        · split at h
          · split at h
            · simp only [Option.some.injEq, Prod.mk.injEq] at h; obtain ⟨rfl, rfl, rfl⟩ := h; simp
            · cases h
          · split at h
            · simp only [Option.some.injEq, Prod.mk.injEq] at h; obtain ⟨rfl, rfl, rfl⟩ := h; simp
            · cases h
theorem litsF_len (tx : Bool) : ∀ n l, (litsF n tx l).2.1 + (litsF n tx l).2.2.length ≤ l.length
  | 0, l => by simp [litsF]
  | n + 1, l => by
    rw [litsF]
    cases h : litStep tx l with
    | none => simp
    | some a =>
      obtain ⟨o, p, k⟩ := a
      have h1 := litStep_len h
      have h2 := litsF_len tx n (l.drop k)
      simp only [List.length_drop] at h2 ⊢
      omega
theorem lits_len (tx : Bool) (l : List UInt8) : (lits tx l).2.1 + (lits tx l).2.2.length ≤ l.length := litsF_len tx _ l
theorem digP_keep (l : List UInt8) (x : Sec) : (digP l x).2.1.tx = x.tx ∧ (digP l x).2.1.pc = x.pc := by
  unfold digP
  simp only
  split
  · exact ⟨rfl, rfl⟩
  · split <;> exact ⟨rfl, rfl⟩
/-- The contract of literals. -/
def LitsC : Prop := ∀ (R S : Nat) (l : List UInt8) (x : Sec), l.length ≤ 64 → R ≠ S → 2 < R ∧ 2 < S → x.pc ≤ 100 → ∀ (w : World), Row w R 78 #[.string (bs l)] → Row w S 33 x.cells → MaxAt w →
    Calls Tryz.prog 70 #[.pointer (some ⟨R, 0, none⟩), .pointer (some ⟨S, 0, none⟩)] w fun r w' => r = .returned (.string (bs (lits x.tx l).1)) ∧ Row w' R 78 #[.string (bs (lits x.tx l).2.2)] ∧ Row w' S 33 { x with pc := x.pc + (lits x.tx l).2.1 }.cells ∧ Kept (fun k => k < w.heap.size ∧ k ≠ R ∧ k ≠ S) w w'
set_option maxRecDepth 100000 in
set_option maxHeartbeats 2000000 in
theorem nsection_any (HL : LitsC) (R : Nat) (l : List UInt8) (tx : Bool) (hl : l.length ≤ 64) (h2 : 2 < R) (w : World) (hR : Row w R 78 #[.string (bs l)]) (hM : MaxAt w) :
    Calls Tryz.prog 36 #[.pointer (some ⟨R, 0, none⟩), .bool tx] w fun r w' => r = .returned (.tuple #[(secP tx l).1.v, .bool (secP tx l).2.1]) ∧ Row w' R 78 #[.string (bs (secP tx l).2.2)] ∧ Kept (fun k => k < w.heap.size ∧ k ≠ R) w w' := by
  have hRl := hR.lt
  have hwl : 2 < w.heap.size := by omega
  obtain ⟨D, hD⟩ : ∃ D, secP tx l = D := ⟨_, rfl⟩
  rw [hD]
  have rZ := (Row.new w 33 #[.string ⟨#[]⟩, .string ⟨#[]⟩, .int .i64 0, .int .i64 0, .bool false, .int .i64 0, .int .i64 0, .bool false, .int .i64 0, .bool false, .bool false]).alloc (.cells #[.string ⟨#[]⟩, .string ⟨#[]⟩, .int .i64 0, .int .i64 0, .bool false, .int .i64 0, .int .i64 0, .bool false, .int .i64 0, .bool false, .bool tx] 33)
  have rS : Row ((w.alloc (.cells #[.string ⟨#[]⟩, .string ⟨#[]⟩, .int .i64 0, .int .i64 0, .bool false, .int .i64 0, .int .i64 0, .bool false, .int .i64 0, .bool false, .bool false] 33)).alloc (.cells #[.string ⟨#[]⟩, .string ⟨#[]⟩, .int .i64 0, .int .i64 0, .bool false, .int .i64 0, .int .i64 0, .bool false, .int .i64 0, .bool false, .bool tx] 33)) (w.heap.size + 1) 33 (sec0 tx).cells := Row.new1 w (.cells #[.string ⟨#[]⟩, .string ⟨#[]⟩, .int .i64 0, .int .i64 0, .bool false, .int .i64 0, .int .i64 0, .bool false, .int .i64 0, .bool false, .bool false] 33) 33 #[.string ⟨#[]⟩, .string ⟨#[]⟩, .int .i64 0, .int .i64 0, .bool false, .int .i64 0, .int .i64 0, .bool false, .int .i64 0, .bool false, .bool tx]
  have rR := (hR.alloc (.cells #[.string ⟨#[]⟩, .string ⟨#[]⟩, .int .i64 0, .int .i64 0, .bool false, .int .i64 0, .int .i64 0, .bool false, .int .i64 0, .bool false, .bool false] 33)).alloc (.cells #[.string ⟨#[]⟩, .string ⟨#[]⟩, .int .i64 0, .int .i64 0, .bool false, .int .i64 0, .int .i64 0, .bool false, .int .i64 0, .bool false, .bool tx] 33)
  have k0 := ((Kept.refl (fun k => k < w.heap.size ∧ k ≠ R) w).alloc (fun k h => h.1) (.cells #[.string ⟨#[]⟩, .string ⟨#[]⟩, .int .i64 0, .int .i64 0, .bool false, .int .i64 0, .int .i64 0, .bool false, .int .i64 0, .bool false, .bool false] 33)).alloc (fun k h => by simp; omega) (.cells #[.string ⟨#[]⟩, .string ⟨#[]⟩, .int .i64 0, .int .i64 0, .bool false, .int .i64 0, .int .i64 0, .bool false, .int .i64 0, .bool false, .bool tx] 33)
  have hsz : ((w.alloc (.cells #[.string ⟨#[]⟩, .string ⟨#[]⟩, .int .i64 0, .int .i64 0, .bool false, .int .i64 0, .int .i64 0, .bool false, .int .i64 0, .bool false, .bool false] 33)).alloc (.cells #[.string ⟨#[]⟩, .string ⟨#[]⟩, .int .i64 0, .int .i64 0, .bool false, .int .i64 0, .int .i64 0, .bool false, .int .i64 0, .bool false, .bool tx] 33)).heap.size = w.heap.size + 2 := by simp
  have hM0 := hM.kept k0 ⟨hwl, by omega⟩
  have HD : Hid (secP tx l = D) := hD
  clear hD
  unfold secP at HD
  dsimp only at HD
  have hszl : w.heap.size + 2 ≤ ((w.alloc (.cells #[.string ⟨#[]⟩, .string ⟨#[]⟩, .int .i64 0, .int .i64 0, .bool false, .int .i64 0, .int .i64 0, .bool false, .int .i64 0, .bool false, .bool false] 33)).alloc (.cells #[.string ⟨#[]⟩, .string ⟨#[]⟩, .int .i64 0, .int .i64 0, .bool false, .int .i64 0, .int .i64 0, .bool false, .int .i64 0, .bool false, .bool tx] 33)).heap.size := Nat.le_of_eq hsz.symm
  clear hsz
  go_enter Tryz.func36, Tryz.ntmps36
  go_wp2_with fail
  generalize (w.alloc (.cells #[.string ⟨#[]⟩, .string ⟨#[]⟩, .int .i64 0, .int .i64 0, .bool false, .int .i64 0, .int .i64 0, .bool false, .int .i64 0, .bool false, .bool false] 33)).alloc (.cells #[.string ⟨#[]⟩, .string ⟨#[]⟩, .int .i64 0, .int .i64 0, .bool false, .int .i64 0, .int .i64 0, .bool false, .int .i64 0, .bool false, .bool tx] 33) = W0 at *
  have H1 := HL R (w.heap.size + 1) l (sec0 tx) hl (by omega) ⟨h2, by omega⟩ (Nat.zero_le _) W0 rR rS hM0
  simp only [show (sec0 tx).tx = tx from rfl, show (sec0 tx).pc = 0 from rfl, Nat.zero_add] at H1
  have hl1 := lits_len tx l
  generalize lits tx l = T1 at *
  obtain ⟨b1, p1, r1⟩ := T1
  dsimp only at H1 HD hl1
  refine Calls.mono H1 ?_
  rintro _ w1 ⟨rfl, hR1, hS1, hk1⟩
  have hZ1 := rZ.kept hk1 ⟨by omega, by omega, by omega⟩
  have hK1 := k0.trans (hk1.mono (fun k h => ⟨by omega, h.2, by omega⟩))
  clear H1 rZ rS rR k0 hM0 hk1
  have hl1z : w.heap.size + 1 < w1.heap.size := hS1.lt
  have hSx := hS1.set 0 (.string (bs b1))
  have hRx := hR1.off (B' := w.heap.size + 1) 0 (.string (bs b1)) (by omega)
  have hZx := hZ1.off (B' := w.heap.size + 1) 0 (.string (bs b1)) (by omega)
  have hKx := hK1.setCell (p := ⟨w.heap.size + 1, 0, none⟩) (fun h => by have := h.1; simp at this; omega) (.string (bs b1))
  have zS0 := hS1.frozen
  obtain ⟨q0, q1, q2, q3, q4, q5, q6, q7, q8, q9, q10⟩ := hS1.sec
  clear hS1 hR1 hZ1 hK1
  cases tx with
  | true =>
    rw [if_pos rfl] at HD
    go_upto_region 3 with fail
    generalize (w1.setCell ⟨w.heap.size + 1, 0, none⟩ (.string (bs b1))) = w2 at *
    clear q0 q1 q2 q3 q4 q5 q6 q7 q8 q9 q10 zS0
    obtain ⟨s0, s1, s2, s3, s4, s5, s6, s7, s8, s9, s10⟩ := hSx.sec
    have zS := hSx.frozen
    have lS := hSx.lt
    obtain ⟨y0, y1, y2, y3, y4, y5, y6, y7, y8, y9, y10⟩ := hZx.sec
    have zZ := hZx.frozen
    have lZ := hZx.lt
    go_wp2
    refine bodyPost_ret (ret_two rfl (g := w.heap.size) rfl rfl (load33 (Row.set11 hZx _ _ _ _ _ _ _ _ _ _ _) rfl)) rfl ?_
    rw [← HD.out]
    exact ⟨rfl, hRx.off11 (by omega) _ _ _ _ _ _ _ _ _ _ _, hKx.set11 (fun h => by have := h.1; omega) _ _ _ _ _ _ _ _ _ _ _⟩
  | false =>
    rw [if_neg (by decide)] at HD
    go_upto_region 3 with fail
    have hMx := hM.kept hKx ⟨hwl, by omega⟩
    generalize (w1.setCell ⟨w.heap.size + 1, 0, none⟩ (.string (bs b1))) = w2 at *
    clear q0 q1 q2 q3 q4 q5 q6 q7 q8 q9 q10 zS0
    have hSx : Row w2 (w.heap.size + 1) 33 (Sec.cells { sec0 false with bf := b1, pc := p1 }) := hSx
    have H2 := ndigits_any R (w.heap.size + 1) r1 { sec0 false with bf := b1, pc := p1 } (by omega) (by omega) ⟨h2, by omega⟩ w2 hRx hSx hMx
    have hdl := digP_len r1 { sec0 false with bf := b1, pc := p1 }
    have hdt := digP_keep r1 { sec0 false with bf := b1, pc := p1 }
    generalize digP r1 { sec0 false with bf := b1, pc := p1 } = DG at *
    obtain ⟨ok, ⟨bf, af, wh, ze, pt, pa, pz, gr, pc, dg, tx⟩, r2⟩ := DG
    dsimp only at H2 HD hdl hdt
    obtain ⟨hxt, hxp⟩ : tx = false ∧ pc = p1 := hdt
    subst hxt
    subst hxp
    go_wp2_with fail
    refine Calls.mono H2 ?_
    rintro _ w3 ⟨rfl, hR3, hS3, hk3⟩
    have hZ3 := hZx.kept hk3 ⟨hZx.lt, by omega, by omega⟩
    have hK3 := hKx.trans (hk3.mono (fun k h => ⟨Nat.lt_of_lt_of_le h.1 hKx.size, h.2, by omega⟩))
    have hM3 := hM.kept hK3 ⟨hwl, by omega⟩
    clear H2 hSx hRx hZx hKx hk3
    have H3 := HL R (w.heap.size + 1) r2 ⟨bf, af, wh, ze, pt, pa, pz, gr, pc, dg, false⟩ (by omega) (by omega) ⟨h2, by omega⟩ (by show pc ≤ 100; omega) w3 hR3 hS3 hM3
    dsimp only at H3
    generalize lits false r2 = T2 at *
    obtain ⟨b2, p2, r3⟩ := T2
    dsimp only at H3 HD
    go_wp2_with fail
    refine Calls.mono H3 ?_
    rintro _ w4 ⟨rfl, hR4, hS4, hk4⟩
    have hZ4 := hZ3.kept hk4 ⟨hZ3.lt, by omega, by omega⟩
    have hK4 := hK3.trans (hk4.mono (fun k h => ⟨Nat.lt_of_lt_of_le h.1 hK3.size, h.2, by omega⟩))
    clear H3 hS3 hR3 hZ3 hK3 hk4 hM3
    unfold Sec.cells at hS4
    simp only at hS4
    have zS4 := hS4.frozen
    have lS4 := hS4.lt
    obtain ⟨q0, q1, q2, q3, q4, q5, q6, q7, q8, q9, q10⟩ := hS4.sec
    have hSx := hS4.set 1 (.string (bs b2))
    have hRx := hR4.off (B' := w.heap.size + 1) 1 (.string (bs b2)) (by omega)
    have hZx := hZ4.off (B' := w.heap.size + 1) 1 (.string (bs b2)) (by omega)
    have hKx := hK4.setCell (p := ⟨w.heap.size + 1, 1, none⟩) (fun h => by have := h.1; simp at this; omega) (.string (bs b2))
    have HSX : Hid (Row (w4.setCell ⟨w.heap.size + 1, 1, none⟩ (.string (bs b2))) (w.heap.size + 1) 33 (Sec.cells ⟨bf, b2, wh, ze, pt, pa, pz, gr, pc + p2, dg, false⟩)) := hSx
    clear hS4 hR4 hZ4 hK4
    go_upto_region 7 with fail
    generalize (w4.setCell ⟨w.heap.size + 1, 1, none⟩ (.string (bs b2))) = w5 at *
    clear q0 q1 q2 q3 q4 q5 q6 q7 q8 q9 q10 zS4 lS4 hSx
    have hSx := HSX.out
    unfold Sec.cells at hSx
    simp only at hSx
    obtain ⟨pcx, hpcx⟩ : ∃ pcx, ((pc + p2 : Nat) : Int) = pcx := ⟨_, rfl⟩
    rw [hpcx] at hSx
    have HPC : Hid (((pc + p2 : Nat) : Int) = pcx) := hpcx
    clear hpcx
    obtain ⟨s0, s1, s2, s3, s4, s5, s6, s7, s8, s9, s10⟩ := hSx.sec
    have zS := hSx.frozen
    have lS := hSx.lt
    obtain ⟨y0, y1, y2, y3, y4, y5, y6, y7, y8, y9, y10⟩ := hZx.sec
    have zZ := hZx.frozen
    have lZ := hZx.lt
    go_wp2
    refine bodyPost_ret (ret_two rfl (g := w.heap.size) rfl rfl (load33 (Row.set11 hZx _ _ _ _ _ _ _ _ _ _ _) rfl)) rfl ?_
    rw [← HD.out]
    exact ⟨by unfold Sec.v Sec.cells; simp only; rw [HPC.out]; rfl, hRx.off11 (by omega) _ _ _ _ _ _ _ _ _ _ _, hKx.set11 (fun h => by have := h.1; omega) _ _ _ _ _ _ _ _ _ _ _⟩
end Go.Proofs.YtoncpcdepemlcaaGreatDoor
