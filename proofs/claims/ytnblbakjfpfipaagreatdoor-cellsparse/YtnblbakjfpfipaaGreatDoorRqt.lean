import Derived.Test.YtnblbakjfpfipaaGreatDoorRpl
import Derived.Test.YtnblbakjfpfipaaGreatDoorWqu
import Derived.Laws.OwnMore
/- The document's Quote. -/
namespace Go.Proofs.YtnblbakjfpfipaaGreatDoor
open Go.RowKit

def cellsU (l : List UInt8) : List Value := l.map (fun b => Value.int .u8 (b.toNat : Int))
theorem cellsU_len (l : List UInt8) : (cellsU l).length = l.length := by simp [cellsU]
theorem cellsU_snoc (l : List UInt8) (c : UInt8) : cellsU (l ++ [c]) = cellsU l ++ [.int .u8 (c.toNat : Int)] := by simp [cellsU]
theorem conv_nil (w : World) : (convert 46 9 (.slice none 0 0)).run Tryz.prog w = .ok (.string (bs [])) w := by
  rw [run_convert_bytes_nil w 46 5 Tryz.underlying46 Tryz.underlying5 _ _ 9 Tryz.underlying9]
  rfl
/-- A row of one's own, turned into a text. -/
theorem conv_own {w : World} {base : Nat} {g : Option Addr} {cap : Nat} {l : List UInt8} (h : w.ownsRow base 5 1 (.slice g l.length cap) l.length (cellsU l)) : (convert 46 9 (.slice g l.length cap)).run Tryz.prog w = .ok (.string (bs l)) w := by
  rcases h.2 with ⟨hv, h0⟩ | ⟨b, c, cur, hv, hb, hg, rest⟩
  · have e : l = [] := List.length_eq_zero_iff.1 h0
    subst e
    simp only [Value.slice.injEq] at hv
    obtain ⟨rfl, _, rfl⟩ := hv
    exact conv_nil w
  · simp only [Value.slice.injEq] at hv
    obtain ⟨rfl, _, rfl⟩ := hv
    have := run_convert_bytes_arg (P := Tryz.prog) w 46 5 Tryz.underlying46 Tryz.underlying5 b 0 l.length cap (l.map (fun b => (b.toNat : Int))) (by simp) (fun i hi => by
      rw [Nat.zero_add, h.cellAt i (by omega)]
      have hi' : i < l.length := hi
      simp [cellsU, hi']) 9 Tryz.underlying9
    have e : strOfNums (l.map (fun b => (b.toNat : Int))) = bs l := by
      have e2 : (l.map (fun b => (b.toNat : Int))).map (fun x => x.toNat.toUInt8) = l := by
        rw [List.map_map]
        conv => rhs; rw [← List.map_id l]
        refine List.map_congr_left (fun b _ => ?_)
        simp
      conv => rhs; rw [← e2]
      rfl
    rw [e] at this
    exact this
theorem dbl_snoc (l : List UInt8) (c : UInt8) : dbl (l ++ [c]) = dbl l ++ (if c = 39 then [39, 39] else [c]) := by
  induction l with
  | nil =>
    by_cases h : c = 39
    · subst h; rfl
    · simp [dbl, h]
  | cons a l ih =>
    by_cases h : a = 39
    · subst h
      simp [dbl, ih]
    · simp [dbl, ih, h]
theorem Tryz.info5q : (Tryz.prog.info? 5).map (fun i => (i.zero, i.size, i.bytes)) = some (some (.int .u8 0), 1, 1) := by kernel_rfl
set_option maxRecDepth 100000 in
set_option maxHeartbeats 4000000 in
theorem refQuote_any (l : List UInt8) (hl : l.length ≤ 1000000000) (w : World) : Calls Tryz.prog 15 #[.string (bs l)] w fun e w' => e = .returned (.string (bs (quoteL l))) ∧ Below w.heap.size w w' := by
  have HP : ∀ W, Hid _ := fun W => refPlain_any l (by omega) W
  unfold quoteL
  cases h : plainB l
  rotate_left
  · rw [h] at HP
    go_enter Tryz.func15, Tryz.ntmps15
    go_wp2_with fail
    refine Calls.mono (HP _).out ?_
    rintro _ w1 ⟨rfl, rfl⟩
    clear HP
    go_wp2
    go_ret
    exact ⟨rfl, Below.refl _ _⟩
  rw [h] at HP
  simp only [Bool.false_eq_true, if_false]
  have HS : Hid ((bs l).size = l.length) := bs_size l
  have hsz : (bs l).size ≤ 1000000000 := by rw [bs_size]; exact hl
  clear hl h
  obtain ⟨i0, hi, hzz⟩ := Option.map_eq_some_iff.1 Tryz.info5q
  simp only [Prod.mk.injEq] at hzz
  obtain ⟨hz0, hz1, hz2⟩ := hzz
  go_enter Tryz.func15, Tryz.ntmps15
  go_wp2_with fail
  refine Calls.mono (HP _).out ?_
  rintro _ w1 ⟨rfl, rfl⟩
  clear HP
  go_wp2_with fail
  go_loopw [3, 4] (fun v3 v4 wr => ∃ (k : Nat) (zs : List UInt8), k ≤ (bs l).size ∧ v4 = .int .i64 (k : Int) ∧ Hid (zs = 39 :: dbl (l.take k)) ∧ zs.length ≤ 2 * k + 1 ∧ wr.ownsRow w1.heap.size 5 1 v3 zs.length (cellsU zs) ∧ Below w1.heap.size w1 wr) (fun _ v4 _ => (bs l).size - (intOf v4).toNat)
  case atStart =>
    refine ⟨0, [39], by omega, rfl, rfl, by simp, ?_, (Below.refl _ w1).alloc (Nat.le_refl _) _⟩
    exact World.ownsRow_lit w1 #[.int .u8 39] 1 (Nat.le_refl _) (by decide) rfl
  case round =>
    obtain ⟨k, zs, hk, rfl, HZ, hzl, hO, hB⟩ := hrel
    obtain ⟨gu, cu, rfl⟩ := owns_form hO
    have hws := hB.size
    by_cases hlt : k < (bs l).size
    · have HLT : Hid (k < l.length) := by have := HS.out; show _ < _; omega
      have HT : Hid (39 :: dbl (l.take (k + 1)) = zs ++ (if (bs l)[k]'hlt = 39 then [39, 39] else [(bs l)[k]'hlt])) := by
        show _ = _
        rw [take_snocL l k HLT.out, dbl_snoc, HZ.out]
        rfl
      have HF : Hid (∀ (n : Nat) (c : UInt8) (ys : List UInt8) (o : Obj) (W : World) (v v' : Value) (w3 : World), n = ys.length → W.ownsRow w1.heap.size 5 1 v n (cellsU ys) → Below w1.heap.size w1 W → w3.ownsRow w1.heap.size 5 1 v' (n + 1) (cellsU ys ++ [.int .u8 (c.toNat : Int)]) → (W.alloc o).grownBy w3 v.ownBlock →
          w3.ownsRow w1.heap.size 5 1 v' (ys ++ [c]).length (cellsU (ys ++ [c])) ∧ Below w1.heap.size w1 w3) := by
        rintro n c ys o W v v' w3 rfl h0 hb h1 h2
        refine ⟨by rw [cellsU_snoc, List.length_append]; exact h1, (hb.alloc hb.size o).grown h2 (by rw [World.size_alloc]; have := hb.size; omega) (fun r e => (h0.lt r e).1)⟩
      have HK1 : Hid (k + 1 ≤ (bs l).size) := hlt
      clear HZ HLT
      have hlt := hlt
      by_cases c1 : (bs l)[k] = 39
      · have d1 : (((bs l)[k].toNat : Int) == 39) = true := by rw [c1]; rfl
        rw [if_pos c1] at HT
        have HC1 : Hid ((bs l)[k] = 39) := c1
        clear c1
        go_wp2_with (at_builtin; refine wpList_append_own2 _ rfl (.tmp 15) (.tmp 19) 46 rfl w1.heap.size 5 i0 (.int .u8 0) 1 1 Tryz.underlying46 hi hz0 hz1 hz2 rfl (by decide) _ _ _ rfl (hO.alloc _) ⟨wr.heap.size, 0, none⟩ 1 1 [.int .u8 ((bs l)[k].toNat : Int)] rfl rfl (cell_one_new _ _ _) (by simp [Value.oneCell']) (by unfold maxLen; omega) (by omega) (by simp; omega) ?_)
        intro v' w3 hown' hgrow _
        have HG := HF.out _ (bs l)[k] zs _ wr _ v' w3 rfl hO hB hown' hgrow
        obtain ⟨hO3, hB3⟩ := HG
        clear hO hB hown' hgrow
        obtain ⟨g3, c3, rfl⟩ := owns_form hO3
        have hlz : (zs ++ [(bs l)[k]]).length = zs.length + 1 := by simp
        have HLZ : Hid _ := hlz
        rw [hlz] at hO3 ⊢
        clear hlz
        have hws3 := hB3.size
        go_wp2_with (at_builtin; refine wpList_append_own2 _ rfl (.tmp 25) (.tmp 29) 46 rfl w1.heap.size 5 i0 (.int .u8 0) 1 1 Tryz.underlying46 hi hz0 hz1 hz2 rfl (by decide) _ _ _ rfl (hO3.alloc _) ⟨w3.heap.size, 0, none⟩ 1 1 [.int .u8 ((bs l)[k].toNat : Int)] rfl rfl (cell_one_new _ _ _) (by simp [Value.oneCell']) (by unfold maxLen; omega) (by omega) (by simp; omega) ?_)
        intro v4 w4 hown4 hgrow4 _
        have HG : Hid _ := HF.out _ (bs l)[k] (zs ++ [(bs l)[k]]) _ w3 _ v4 w4 HLZ.out.symm hO3 hB3 hown4 hgrow4
        have HT2 : Hid (39 :: dbl (l.take (k + 1)) = zs ++ [(bs l)[k]] ++ [(bs l)[k]]) := by have := HT.out; show _ = _; rw [this, HC1.out]; simp
        clear HF hO3 hB3 hown4 hgrow4 HT HC1
        go_wp2
        refine ⟨⟨k + 1, zs ++ [(bs l)[k]] ++ [(bs l)[k]], HK1.out, by simp, HT2.out.symm, by simp; omega, HG.out.1, HG.out.2⟩, ?_⟩
        have := HK1.out
        simp [intOf]; omega
      · have d1 : (((bs l)[k].toNat : Int) == 39) = false := beq_eq_false_iff_ne.2 (fun e => c1 (UInt8.toNat_inj.1 (by show _ = 39; omega)))
        rw [if_neg c1] at HT
        clear c1
        go_wp2_with (at_builtin; refine wpList_append_own2 _ rfl (.tmp 15) (.tmp 19) 46 rfl w1.heap.size 5 i0 (.int .u8 0) 1 1 Tryz.underlying46 hi hz0 hz1 hz2 rfl (by decide) _ _ _ rfl (hO.alloc _) ⟨wr.heap.size, 0, none⟩ 1 1 [.int .u8 ((bs l)[k].toNat : Int)] rfl rfl (cell_one_new _ _ _) (by simp [Value.oneCell']) (by unfold maxLen; omega) (by omega) (by simp; omega) ?_)
        intro v' w3 hown' hgrow _
        have HG : Hid _ := HF.out _ (bs l)[k] zs _ wr _ v' w3 rfl hO hB hown' hgrow
        clear HF hO hB hown' hgrow
        go_wp2
        refine ⟨⟨k + 1, zs ++ [(bs l)[k]], HK1.out, by simp, HT.out.symm, by simp; omega, HG.out.1, HG.out.2⟩, ?_⟩
        have := HK1.out
        simp [intOf]; omega
    · have t2 : ¬ ((k : Int) < ((bs l).size : Int)) := by omega
      have HR : Hid (bs (39 :: (dbl l ++ [39])) = bs (zs ++ [39])) := by
        have := HZ.out
        rw [List.take_of_length_le (by have := HS.out; omega)] at this
        show _ = _
        rw [this]; rfl
      clear HZ
      go_wp2_with (at_builtin; refine wpList_append_own2 _ rfl (.tmp 31) (.tmp 32) 46 rfl w1.heap.size 5 i0 (.int .u8 0) 1 1 Tryz.underlying46 hi hz0 hz1 hz2 rfl (by decide) _ _ _ rfl (hO.alloc _) ⟨wr.heap.size, 0, none⟩ 1 1 [.int .u8 39] rfl rfl (cell_one_new _ _ _) (by simp [Value.oneCell']) (by unfold maxLen; omega) (by omega) (by simp; omega) ?_)
      intro v' w3 hown' hgrow _
      have hO3 : w3.ownsRow w1.heap.size 5 1 v' (zs ++ [39]).length (cellsU (zs ++ [39])) := by rw [cellsU_snoc, List.length_append]; exact hown'
      have hB3 : Below w1.heap.size w1 w3 := (hB.alloc hB.size _).grown hgrow (by rw [World.size_alloc]; omega) (fun r e => (hO.lt r e).1)
      obtain ⟨g3, c3, rfl⟩ := owns_form hO3
      have hcv := conv_own hO3
      have HB3 : Hid _ := hB3
      have hlz : (zs ++ [39]).length = zs.length + 1 := by simp
      rw [hlz] at hcv ⊢
      clear hO hB hown' hgrow hO3 hB3 hlz
      go_wp2
      go_ret
      refine ⟨?_, HB3.out⟩
      rw [HR.out]
      rfl
end Go.Proofs.YtnblbakjfpfipaaGreatDoor
