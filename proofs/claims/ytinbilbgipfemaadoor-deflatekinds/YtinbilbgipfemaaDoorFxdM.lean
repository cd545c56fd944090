import Derived.Test.YtinbilbgipfemaaDoorSeaM
import Derived.Test.YtinbilbgipfemaaDoorCdfM
import Derived.Test.YtinbilbgipfemaaDoorLngM
import Derived.Test.YtinbilbgipfemaaDoorTabM
import Derived.Test.YtinbilbgipfemaaDoorOflM
/- FixedLit; the way with the fixed codes. -/
namespace Go.Proofs.YtinbilbgipfemaaDoor
open Go.RowKit

theorem IntsIn.of_rep {S : Nat → Prop} {w : World} {B n : Nat} {v : Int} (h : Row w B 3 (repC n n v).toArray) (hS : S B) : IntsIn S w (.slice (some ⟨B, 0, none⟩) n n) (List.replicate n v) := by
  refine .inr ⟨B, 0, n, by rw [List.length_replicate], hS, fun j hj => ?_⟩
  rw [List.length_replicate] at hj
  rw [Nat.zero_add, h.cell (i := j) (v := .int .i64 v) (by simpa using repC_at n n j v hj), List.getElem?_replicate, if_pos hj]
  rfl
theorem IntsIn.of_owns {w : World} {base : Nat} {v : Value} {zs : List Int} (D : Nat → Prop) (h : w.ownsRow base 3 1 v zs.length (zs.map (Value.int .i64))) (hD : ∀ k, v.ownBlock = some k → D k) : IntsIn D w v zs := by
  rcases h.2 with ⟨rfl, h0⟩ | ⟨g, cap, cur, rfl, hb, hgb, h3, h4, h5, h6⟩
  · exact .inl ⟨List.eq_nil_of_length_eq_zero h0, _, _, rfl⟩
  · refine .inr ⟨g, 0, cap, rfl, hD g rfl, fun j hj => ?_⟩
    have hc := h.cells (g := g) rfl j (.int .i64 (zs[j]?.getD 0)) (by simp [hj])
    have hadd : (⟨g, 0, none⟩ : Addr).add j = ⟨g, 0 + j, none⟩ := by unfold Addr.add; split <;> simp_all
    rwa [hadd] at hc

set_option maxRecDepth 100000 in
set_option maxHeartbeats 1000000 in
theorem pfixedLit_any (w : World) : Calls Tryd.prog 57 #[] w fun e w' => ∃ g c, e = .returned (.slice g 288 c) ∧ w'.ownsRow w.heap.size 3 1 (.slice g 288 c) 288 (fixLit.map (Value.int .i64)) ∧ Below w.heap.size w w' := by
  have H1 : Hid (Calls Tryd.prog 75 #[.int .i64 8, .int .i64 144] w _) := repeat'_any 8 144 (by omega) (by omega) w
  go_enter Tryd.func57, Tryd.ntmps57
  go_wp2_with fail
  refine Calls.mono H1.out ?_
  clear H1
  rintro e w1 ⟨B1, rfl, hB1, hR1, hb1⟩
  have H2 : Hid (Calls Tryd.prog 75 #[.int .i64 9, .int .i64 112] w1 _) := repeat'_any 9 112 (by omega) (by omega) w1
  go_wp2_with fail
  refine Calls.mono H2.out ?_
  clear H2
  rintro e w2 ⟨B2, rfl, hB2, hR2, hb2⟩
  have H3 : Hid (Calls Tryd.prog 75 #[.int .i64 7, .int .i64 24] w2 _) := repeat'_any 7 24 (by omega) (by omega) w2
  go_wp2_with fail
  refine Calls.mono H3.out ?_
  clear H3
  rintro e w3 ⟨B3, rfl, hB3, hR3, hb3⟩
  have H4 : Hid (Calls Tryd.prog 75 #[.int .i64 8, .int .i64 8] w3 _) := repeat'_any 8 8 (by omega) (by omega) w3
  go_wp2_with fail
  refine Calls.mono H4.out ?_
  clear H4
  rintro e w4 ⟨B4, rfl, hB4, hR4, hb4⟩
  have s1 := hb1.size
  have s2 := hb2.size
  have s3 := hb3.size
  have s4 := hb4.size
  have q3 : Row w4 B3 3 (repC 24 24 7).toArray := hR3.below hb4 hR3.lt
  have q2 : Row w4 B2 3 (repC 112 112 9).toArray := (hR2.below hb3 hR2.lt).below hb4 (by have := hR2.lt; omega)
  have q1 : Row w4 B1 3 (repC 144 144 8).toArray := ((hR1.below hb2 hR1.lt).below hb3 (by have := hR1.lt; omega)).below hb4 (by have := hR1.lt; omega)
  have hb : Below w.heap.size w w4 := ((hb1.trans (hb2.mono s1)).trans (hb3.mono (by omega))).trans (hb4.mono (by omega))
  have H5 : Hid (Calls Tryd.prog 74 #[.slice (some ⟨w4.heap.size, 0, none⟩) 4 4] (w4.alloc (.cells #[.slice (some ⟨B1, 0, none⟩) 144 144, .slice (some ⟨B2, 0, none⟩) 112 112, .slice (some ⟨B3, 0, none⟩) 24 24, .slice (some ⟨B4, 0, none⟩) 8 8] 40)) fun e w' => ∃ g c, e = .returned (.slice g 288 c) ∧ w'.ownsRow (w4.alloc (.cells #[.slice (some ⟨B1, 0, none⟩) 144 144, .slice (some ⟨B2, 0, none⟩) 112 112, .slice (some ⟨B3, 0, none⟩) 24 24, .slice (some ⟨B4, 0, none⟩) 8 8] 40)).heap.size 3 1 (.slice g 288 c) 288 (fixLit.map (Value.int .i64)) ∧ Below (w4.alloc (.cells #[.slice (some ⟨B1, 0, none⟩) 144 144, .slice (some ⟨B2, 0, none⟩) 112 112, .slice (some ⟨B3, 0, none⟩) 24 24, .slice (some ⟨B4, 0, none⟩) 8 8] 40)).heap.size (w4.alloc (.cells #[.slice (some ⟨B1, 0, none⟩) 144 144, .slice (some ⟨B2, 0, none⟩) 112 112, .slice (some ⟨B3, 0, none⟩) 24 24, .slice (some ⟨B4, 0, none⟩) 8 8] 40)) w') := by
    have hcat : catL [((.slice (some ⟨B1, 0, none⟩) 144 144 : Value), List.replicate 144 (8 : Int)), (.slice (some ⟨B2, 0, none⟩) 112 112, List.replicate 112 9), (.slice (some ⟨B3, 0, none⟩) 24 24, List.replicate 24 7), (.slice (some ⟨B4, 0, none⟩) 8 8, List.replicate 8 8)] = fixLit := by
      rw [fixLit_parts]
      simp only [catL, List.flatMap_cons, List.flatMap_nil, List.append_nil, List.append_assoc]
    have hlen : fixLit.length = 288 := by simp [fixLit, upto]
    have l1 := q1.lt
    have l2 := q2.lt
    have l3 := q3.lt
    have l4 := hR4.lt
    have := concat_any (fun k => k < w4.heap.size) w4.heap.size 4 [((.slice (some ⟨B1, 0, none⟩) 144 144 : Value), List.replicate 144 (8 : Int)), (.slice (some ⟨B2, 0, none⟩) 112 112, List.replicate 112 9), (.slice (some ⟨B3, 0, none⟩) 24 24, List.replicate 24 7), (.slice (some ⟨B4, 0, none⟩) 8 8, List.replicate 8 8)] (w4.alloc (.cells #[.slice (some ⟨B1, 0, none⟩) 144 144, .slice (some ⟨B2, 0, none⟩) 112 112, .slice (some ⟨B3, 0, none⟩) 24 24, .slice (some ⟨B4, 0, none⟩) 8 8] 40)) (fun k h => by simp; omega) (Row.new w4 40 _) (by
      intro p hp
      simp only [List.mem_cons, List.not_mem_nil, or_false] at hp
      rcases hp with rfl | rfl | rfl | rfl
      · exact ⟨IntsIn.of_rep (q1.alloc _) l1, B1, 0, 144, by rw [List.length_replicate]⟩
      · exact ⟨IntsIn.of_rep (q2.alloc _) l2, B2, 0, 112, by rw [List.length_replicate]⟩
      · exact ⟨IntsIn.of_rep (q3.alloc _) l3, B3, 0, 24, by rw [List.length_replicate]⟩
      · exact ⟨IntsIn.of_rep (hR4.alloc _) l4, B4, 0, 8, by rw [List.length_replicate]⟩) (by rw [hcat, hlen]; omega) (by rw [hcat, hlen]; omega) (by simp)
    rw [hcat, hlen] at this
    exact this
  have HBl : Hid (Below w.heap.size w w4) := hb
  clear q1 q2 q3 hR1 hR2 hR3 hR4 hb1 hb2 hb3 hb4 hb
  go_wp2_with fail
  refine Calls.mono H5.out ?_
  clear H5
  rintro e w5 ⟨g5, c5, rfl, ho5, hb5⟩
  have HF : Hid (w5.ownsRow w.heap.size 3 1 (.slice g5 288 c5) 288 (fixLit.map (Value.int .i64)) ∧ Below w.heap.size w w5) := by
    rw [World.size_alloc] at ho5 hb5
    refine ⟨?_, (HBl.out.alloc HBl.out.size _).trans (hb5.mono (by have := HBl.out.size; omega))⟩
    refine ⟨ho5.1, ho5.2.imp id ?_⟩
    rintro ⟨g, cap, cur, h1, h2, h3⟩
    exact ⟨g, cap, cur, h1, by have := HBl.out.size; omega, h3⟩
  clear HBl ho5 hb5
  go_wp2
  go_ret
  exact ⟨_, _, rfl, HF.out⟩
end Go.Proofs.YtinbilbgipfemaaDoor
/- The way with the fixed codes. -/
namespace Go.Proofs.YtinbilbgipfemaaDoor
open Go.RowKit

theorem costR_bd (fs ls : List Int) (hf : ∀ z ∈ fs, 0 ≤ z ∧ z ≤ 1073741824) (hl : ∀ z ∈ ls, 0 ≤ z ∧ z ≤ 15) (h3 : fs.length ≤ 320) : 0 ≤ costR fs ls ∧ costR fs ls ≤ 10000000000000 := by
  have h := cost_sum fs ls hf hl h3 (min fs.length ls.length) (by omega) (by omega)
  unfold costR
  rw [h.1]
  simp only [Option.getD_some]
  have h4 : min fs.length ls.length ≤ 320 := by omega
  have h5 : ((min fs.length ls.length : Nat) : Int) * 16106127360 ≤ 320 * 16106127360 := by
    have : ((min fs.length ls.length : Nat) : Int) ≤ 320 := by omega
    exact Int.mul_le_mul_of_nonneg_right this (by omega)
  omega
/-- A block in memory: its text, whether it is the last one, its items, how often each symbol comes, the extra bits. -/
structure BlkAt (S : Nat → Prop) (w : World) (K : Nat) (tx : Value) (last : Bool) (its : List It) (fl fd : List Int) (ext : Nat) : Prop where
  row : ∃ ia ic LB DB, Row w K 51 #[tx, .bool last, .slice ia its.length ic, .slice (some ⟨LB, 0, none⟩) fl.length fl.length, .slice (some ⟨DB, 0, none⟩) fd.length fd.length, .int .i64 (ext : Int)] ∧ ItsIn S w ia its ∧ S LB ∧ S DB ∧ Row w LB 3 (fl.map (Value.int .i64)).toArray ∧ Row w DB 3 (fd.map (Value.int .i64)).toArray
  sk : S K
  lf : fl.length = 286
  ld : fd.length = 30
  bf : ∀ z ∈ fl, 0 ≤ z ∧ z ≤ 1073741824
  bd : ∀ z ∈ fd, 0 ≤ z ∧ z ≤ 1073741824
  be : ext ≤ 1000000000
theorem IntsIn.of_row {S : Nat → Prop} {w : World} {B c : Nat} {zs : List Int} (h : Row w B 3 (zs.map (Value.int .i64)).toArray) (hS : S B) : IntsIn S w (.slice (some ⟨B, 0, none⟩) zs.length c) zs := by
  refine .inr ⟨B, 0, c, rfl, hS, fun j hj => ?_⟩
  rw [Nat.zero_add]
  exact h.cell (by simp [hj])
/-- A way by codes that has been made. -/
def CodedWay (S : Nat → Prop) (K kind : Nat) (last : Bool) (head : List Fd) (zl zd : List Int) (its : List It) (size : Int) (w : World) (v : Value) (w' : World) : Prop :=
  ∃ Bk Bn Bh Bl Bd, v = .agg #[.int .i64 size, .func (.func 70) #[] #[.pointer (some ⟨Bk, 0, none⟩), .pointer (some ⟨Bn, 0, none⟩), .pointer (some ⟨Bh, 0, none⟩), .pointer (some ⟨Bl, 0, none⟩), .pointer (some ⟨Bd, 0, none⟩)]] ∧
    CodedAt (fun k => S k ∨ (w.heap.size ≤ k ∧ k < w'.heap.size)) w' K Bk Bn Bh Bl Bd kind last head zl zd its ∧ Below w.heap.size w w'
theorem BlkAt.kept {S : Nat → Prop} {w w' : World} {K : Nat} {tx : Value} {last : Bool} {its : List It} {fl fd : List Int} {ext : Nat} (h : BlkAt S w K tx last its fl fd ext) (hk : Kept S w w') : BlkAt S w' K tx last its fl fd ext := by
  obtain ⟨⟨ia, ic, LB, DB, h1, h2, h3, h4, h5, h6⟩, hsk, q1, q2, q3, q4, q5⟩ := h
  exact ⟨⟨ia, ic, LB, DB, h1.kept hk hsk, h2.kept hk, h3, h4, h5.kept hk h3, h6.kept hk h4⟩, hsk, q1, q2, q3, q4, q5⟩
theorem CodedAt.mono {T T' : Nat → Prop} {w : World} {K Bk Bn Bh Bl Bd : Nat} {kind : Nat} {last : Bool} {head : List Fd} {zl zd : List Int} {its : List It} (h : CodedAt T w K Bk Bn Bh Bl Bd kind last head zl zd its) (hk : ∀ k, T k → T' k) : CodedAt T' w K Bk Bn Bh Bl Bd kind last head zl zd its := by
  obtain ⟨h1, h2, h3, ⟨a4, c4, h4, g4⟩, ⟨a5, c5, h5, g5⟩, ⟨a6, c6, h6, g6⟩, ⟨a7, c7, h7, g7⟩, t1, t2, t3, t4, t5, t6⟩ := h
  exact ⟨h1, h2, h3, ⟨a4, c4, h4, g4.mono hk⟩, ⟨a5, c5, h5, g5.mono hk⟩, ⟨a6, c6, h6, g6.mono hk⟩, ⟨a7, c7, h7, g7.mono hk⟩, hk _ t1, hk _ t2, hk _ t3, hk _ t4, hk _ t5, hk _ t6⟩
/-- The result's own cell is set: the way stays. -/
theorem codedWay_end {S : Nat → Prop} {w w0 w3 : World} {K kind : Nat} {last : Bool} {head : List Fd} {zl zd : List Int} {its : List It} {size : Int} {v v0 v1 : Value} (hS : ∀ k, S k → k < w.heap.size) (h0 : Below w.heap.size w w0) (hs : w.heap.size < w0.heap.size) (h : CodedWay S K kind last head zl zd its size w0 v w3) :
    CodedWay S K kind last head zl zd its size w v ((w3.setCell ⟨w.heap.size, 0, none⟩ v0).setCell ⟨w.heap.size, 1, none⟩ v1) := by
  obtain ⟨Bk, Bn, Bh, Bl, Bd, rfl, hC, hb⟩ := h
  have s3 := hb.size
  have hk : Kept (fun k => k ≠ w.heap.size) w3 ((w3.setCell ⟨w.heap.size, 0, none⟩ v0).setCell ⟨w.heap.size, 1, none⟩ v1) := ((Kept.refl _ w3).setCell (p := ⟨w.heap.size, 0, none⟩) (by simp) v0).setCell (p := ⟨w.heap.size, 1, none⟩) (by simp) v1
  have hsz : ((w3.setCell ⟨w.heap.size, 0, none⟩ v0).setCell ⟨w.heap.size, 1, none⟩ v1).heap.size = w3.heap.size := by simp [World.setCell]
  refine ⟨Bk, Bn, Bh, Bl, Bd, rfl, (hC.kept (hk.mono ?_)).mono ?_, h0.trans ?_⟩
  · rintro k (h | h)
    · have := hS k h; show k ≠ _; omega
    · show k ≠ _; omega
  · rintro k (h | h)
    · exact .inl h
    · exact .inr ⟨by omega, by rw [hsz]; exact h.2⟩
  · exact (hb.mono (by omega)).trans ((hk.mono (fun k (h : k < w.heap.size) => by show k ≠ _; omega)).below (fun _ h => h))
/-- From the boxes of a way to what its closure asks. -/
theorem codedWay_of {S : Nat → Prop} {w w1 w' : World} {K kind : Nat} {tx : Value} {last : Bool} {its : List It} {fl fd : List Int} {ext : Nat} {hv lv dv v : Value} {head : List Fd} {zl zd : List Int} {size : Int}
    (hS : ∀ k, S k → k < w.heap.size) (hB : BlkAt S w K tx last its fl fd ext) (h01 : Below w.heap.size w w1) (hw : WayC K kind hv lv dv size w1 v w')
    (hh : ∃ a c, hv = .slice a head.length c ∧ FldIn (fun k => S k ∨ (w.heap.size ≤ k ∧ k < w1.heap.size)) w1 a head) (hl : ∃ a c, lv = .slice a zl.length c ∧ IntsIn (fun k => S k ∨ (w.heap.size ≤ k ∧ k < w1.heap.size)) w1 (.slice a zl.length c) zl) (hd : ∃ a c, dv = .slice a zd.length c ∧ IntsIn (fun k => S k ∨ (w.heap.size ≤ k ∧ k < w1.heap.size)) w1 (.slice a zd.length c) zd) :
    CodedWay S K kind last head zl zd its size w v w' := by
  obtain ⟨Bk, Bn, Bh, Bl, Bd, rfl, ⟨b1, b2, b3, b4, b5⟩, r1, r2, r3, r4, r5, hb⟩ := hw
  obtain ⟨ha, hc, rfl, hF⟩ := hh
  obtain ⟨la, lc, rfl, hL⟩ := hl
  obtain ⟨da, dc, rfl, hD⟩ := hd
  have s1 := h01.size
  have s2 := hb.size
  have h0 : Below w.heap.size w w' := h01.trans (hb.mono s1)
  have hk : Kept (fun k => S k ∨ (w.heap.size ≤ k ∧ k < w1.heap.size)) w1 w' := Kept.of_below hb (by
    rintro k (h | h)
    · have := hS k h; omega
    · exact h.2)
  have hm : ∀ k, (S k ∨ (w.heap.size ≤ k ∧ k < w1.heap.size)) → (S k ∨ (w.heap.size ≤ k ∧ k < w'.heap.size)) := by
    rintro k (h | h)
    · exact .inl h
    · exact .inr ⟨h.1, by omega⟩
  obtain ⟨⟨ia, ic, LB, DB, g1, g2, g3, g4, g5, g6⟩, hsk, _⟩ := hB.kept (Kept.of_below h0 hS)
  refine ⟨Bk, Bn, Bh, Bl, Bd, rfl, ⟨r1.cell rfl, r2.cell rfl, g1.cell rfl, ⟨ha, hc, r3.cell rfl, (hF.kept hk).mono hm⟩, ⟨la, lc, r4.cell rfl, (hL.kept hk).mono hm⟩, ⟨da, dc, r5.cell rfl, (hD.kept hk).mono hm⟩, ⟨ia, ic, g1.cell rfl, g2.mono (fun k h => .inl h)⟩, ?_⟩, h0⟩
  have l1 := r1.lt
  have l2 := r2.lt
  have l3 := r3.lt
  have l4 := r4.lt
  have l5 := r5.lt
  exact ⟨.inr ⟨by omega, l1⟩, .inr ⟨by omega, l2⟩, .inr ⟨by omega, l3⟩, .inr ⟨by omega, l4⟩, .inr ⟨by omega, l5⟩, .inl hsk⟩

theorem fixLit_bd : ∀ z ∈ fixLit, 0 ≤ z ∧ z ≤ 15 := by
  intro z hz
  simp only [fixLit, upto, List.mem_map] at hz
  obtain ⟨i, _, rfl⟩ := hz
  unfold fixLitAt
  split
  · omega
  · split <;> omega
theorem fixDist_bd : ∀ z ∈ fixDist, 0 ≤ z ∧ z ≤ 15 := by
  intro z hz
  simp only [fixDist, upto, List.mem_map] at hz
  obtain ⟨i, _, rfl⟩ := hz
  omega
theorem getD_bd {zs : List Int} (h : ∀ z ∈ zs, 0 ≤ z ∧ z ≤ 15) (i : Nat) : 0 ≤ zs[i]?.getD 0 ∧ zs[i]?.getD 0 ≤ 15 := by
  by_cases hi : i < zs.length
  · rw [List.getElem?_eq_getElem hi]
    exact h _ (List.getElem_mem hi)
  · rw [List.getElem?_eq_none (by omega)]
    simp
theorem fixLit_ok : LenOk fixLit 286 := ⟨by decide +kernel, by decide +kernel, by decide +kernel, getD_bd fixLit_bd⟩
theorem fixDist_ok : LenOk fixDist 30 := ⟨by decide +kernel, by decide +kernel, by decide +kernel, getD_bd fixDist_bd⟩

set_option maxRecDepth 100000 in
set_option maxHeartbeats 1000000 in
theorem fixed_any (S : Nat → Prop) (K : Nat) (tx : Value) (last : Bool) (its : List It) (fl fd : List Int) (ext : Nat) (size : Int) (hsize : size = 3 + costR fl fixLit + costR fd fixDist + ext) (w : World) (hS : ∀ k, S k → k < w.heap.size) (hB : BlkAt S w K tx last its fl fd ext) :
    Calls Tryd.prog 36 #[.pointer (some ⟨K, 0, none⟩)] w fun e w' => ∃ v, e = .returned v ∧ CodedWay S K 1 last [] fixLit fixDist its size w v w' := by
  have hb0 : Below w.heap.size w (w.alloc (.cells #[.int .i64 0, .nilFunc] 58)) := (Below.refl _ w).alloc (Nat.le_refl _) _
  have r0 := Row.new w 58 #[.int .i64 0, .nilFunc]
  have HSI : Hid (size = 3 + costR fl fixLit + costR fd fixDist + ext) := hsize
  clear hsize
  have HBK : Hid (BlkAt S w K tx last its fl fd ext) := hB
  clear hB
  generalize hw0 : w.alloc (.cells #[.int .i64 0, .nilFunc] 58) = w0 at hb0 r0
  have H1 : Hid (Calls Tryd.prog 57 #[] w0 _) := pfixedLit_any w0
  go_enter Tryd.func36, Tryd.ntmps36
  go_wp2_with fail
  refine H1.out.mono ?_
  clear H1 hw0
  rintro e w1 ⟨g1, c1, rfl, o1, b1⟩
  have H2 : Hid (Calls Tryd.prog 58 #[] w1 _) := pfixedDist_any w1
  go_wp2_with fail
  refine H2.out.mono ?_
  clear H2
  rintro e w2 ⟨g2, c2, rfl, o2, b2⟩
  have s0 := hb0.size
  have s1 := b1.size
  have s2 := b2.size
  have l0 := r0.lt
  have hb02 : Below w0.heap.size w0 w2 := b1.trans (b2.mono s1)
  have hS0 : ∀ k, S k → k < w0.heap.size := fun k h => by have := hS k h; omega
  have HBK0 : Hid (BlkAt S w0 K tx last its fl fd ext) := HBK.out.kept (Kept.of_below hb0 hS)
  have hlen1 : fixLit.length = 288 := by simp [fixLit, upto]
  have hlen2 : fixDist.length = 32 := by simp [fixDist, upto]
  have hI1 : IntsIn (fun k => S k ∨ (w0.heap.size ≤ k ∧ k < w2.heap.size)) w2 (.slice g1 288 c1) fixLit := by
    have o1' := o1
    rw [← hlen1] at o1' ⊢
    exact IntsIn.of_owns _ (owns_kept (S := fun k => k < w1.heap.size) o1' (Kept.of_below b2 (fun _ h => h)) (fun k hk => (o1'.lt k hk).2)) (fun k hk => .inr ⟨by have := (o1'.lt k hk).1; omega, by have := (o1'.lt k hk).2; omega⟩)
  have hI2 : IntsIn (fun k => S k ∨ (w0.heap.size ≤ k ∧ k < w2.heap.size)) w2 (.slice g2 32 c2) fixDist := by
    have o2' := o2
    rw [← hlen2] at o2' ⊢
    exact IntsIn.of_owns _ o2' (fun k hk => .inr ⟨by have := (o2'.lt k hk).1; omega, (o2'.lt k hk).2⟩)
  have HT : ∀ k, (S k ∨ (w0.heap.size ≤ k ∧ k < w2.heap.size)) → k < w2.heap.size := by
    rintro k (h | h)
    · have := hS k h; omega
    · exact h.2
  have HBK2 := HBK0.out.kept (Kept.of_below hb02 hS0)
  obtain ⟨⟨ia, ic, LB, DB, g1', g2', g3, g4, g5, g6⟩, hsk, q1, q2, q3, q4, q5⟩ := HBK2
  have H3 : Hid (Calls Tryd.prog 56 #[.pointer (some ⟨K, 0, none⟩), .int .u32 1, .slice none 0 0, .slice g1 288 c1, .slice g2 32 c2] w2 fun e w' => ∃ v, e = .returned v ∧ CodedWay S K 1 last [] fixLit fixDist its size w0 v w' ∧ Below w2.heap.size w2 w') := by
    have := coded_any (fun k => S k ∨ (w0.heap.size ≤ k ∧ k < w2.heap.size)) K 1 tx (.slice ia its.length ic) last (some ⟨LB, 0, none⟩) (some ⟨DB, 0, none⟩) none g1 g2 fl.length fd.length 0 c1 c2 fl fd fixLit fixDist [] ext (costR fl fixLit) (costR fd fixDist) size w2 HT g1' (IntsIn.of_row g5 (.inl g3)) (IntsIn.of_row g6 (.inl g4)) (by rw [hlen1]; exact hI1) (by rw [hlen2]; exact hI2) (.inl rfl) (by omega) (by omega) (by rw [hlen1]; omega) (by rw [hlen2]; omega) (by simp) (by simp) rfl rfl (costR_bd _ _ q3 fixLit_bd (by omega)) (costR_bd _ _ q4 fixDist_bd (by omega)) q5 (by rw [HSI.out]; simp [widF])
    rw [hlen1, hlen2] at this
    refine Calls.mono this ?_
    rintro e w' ⟨v, rfl, hv⟩
    have hbv := hv
    obtain ⟨_, _, _, _, _, _, _, _, _, _, _, _, hbv⟩ := hbv
    refine ⟨v, rfl, codedWay_of hS0 HBK0.out hb02 hv ⟨none, 0, rfl, .inl rfl⟩ ⟨g1, c1, by rw [hlen1], by rw [hlen1]; exact hI1⟩ ⟨g2, c2, by rw [hlen2], by rw [hlen2]; exact hI2⟩, hbv⟩
  have r2 : Row w2 w.heap.size 58 #[.int .i64 0, .nilFunc] := (r0.below b1 l0).below b2 (by omega)
  clear hI1 hI2 o1 o2 HT g1' g2' g5 g6
  go_wp2_with fail
  refine H3.out.mono ?_
  clear H3
  rintro e w3 ⟨v, rfl, hv, hb3⟩
  have r3 := r2.below hb3 r2.lt
  have d0 := r3.cell (i := 0) rfl
  have d1 := r3.cell (i := 1) rfl
  have f0 := r3.frozen 0
  have f1 := r3.frozen 1
  have HV : Hid (CodedWay S K 1 last [] fixLit fixDist its size w0 v w3) := hv
  obtain ⟨Bk, Bn, Bh, Bl, Bd, rfl, -, -⟩ := hv
  have HBB : Hid (Below w.heap.size w w0) := hb0
  clear hb3 r2 hb0 hb02
  go_wp2
  have hRe := (r3.set 0 (.int .i64 size)).set 1 (.func (.func 70) #[] #[.pointer (some ⟨Bk, 0, none⟩), .pointer (some ⟨Bn, 0, none⟩), .pointer (some ⟨Bh, 0, none⟩), .pointer (some ⟨Bl, 0, none⟩), .pointer (some ⟨Bd, 0, none⟩)])
  refine bodyPost_ret (results_cell_row rfl _ _ w.heap.size 58 _ (0, 0) _ rfl hRe Tryd.underlying58 rfl (by kernel_rfl)) rfl ⟨_, rfl, ?_⟩
  exact codedWay_end hS HBB.out l0 HV.out
end Go.Proofs.YtinbilbgipfemaaDoor
/- fitting: the cheapest lengths; trim. -/
namespace Go.Proofs.YtinbilbgipfemaaDoor
open Go.RowKit

theorem ord_nil {fs : List Int} (hn : ∀ z ∈ fs, 0 ≤ z ∧ z ≤ 1073741824) (h : ordL fs fs.length = []) : ∀ z ∈ fs, z = 0 := by
  intro z hz
  obtain ⟨i, hi, rfl⟩ := List.getElem_of_mem hz
  have h0 := hn _ hz
  by_cases hp : 0 < fs[i]
  · have := ordL_has fs fs.length i hi (by rw [List.getElem?_eq_getElem hi]; exact hp)
    rw [h] at this
    cases this
  · omega
theorem lengths_best (S : Nat → Prop) (a : Option Addr) (cap limit : Nat) (fs : List Int) (w : World) (hS : ∀ k, S k → k < w.heap.size) (hF : IntsIn S w (.slice a fs.length cap) fs) (h1 : 1 ≤ limit) (h15 : limit ≤ 15) (hl : fs.length ≤ 320) (hfs : ∀ z ∈ fs, 0 ≤ z ∧ z ≤ 1073741824) (hlim : fs.length ≤ 2 ^ limit) :
    Calls Tryd.prog 76 #[.slice a fs.length cap, .int .i64 limit] w fun e w' => ∃ GL ls c, e = .returned (.tuple #[.slice (some ⟨GL, 0, none⟩) fs.length fs.length, .int .i64 0]) ∧ Best fs ls limit c ∧ Row w' GL 3 (intsV ls) ∧ Below w.heap.size w w' ∧ w.heap.size ≤ GL := by
  have hol := ordL_length fs fs.length
  match hm : ordL fs fs.length with
  | [] =>
    refine (lengths_zero S a cap limit fs w hS hF h1 h15 hl (ord_nil hfs hm)).mono ?_
    rintro e w' ⟨GL, rfl, hR, hb, hz⟩
    exact ⟨GL, _, _, rfl, best_zero fs limit (ord_nil hfs hm) hl h15, hR, hb, hz⟩
  | [z] =>
    have hz := ordL_mem fs fs.length z (by rw [hm]; simp)
    obtain ⟨n, rfl⟩ := Int.eq_ofNat_of_zero_le hz.1
    refine (lengths_one S a cap limit fs w hS hF h1 h15 hl hfs n hm).mono ?_
    rintro e w' ⟨GL, rfl, hR, hb, hz⟩
    exact ⟨GL, _, _, rfl, best_one fs limit n hfs hl hm h1 h15, hR, hb, hz⟩
  | x :: y :: r =>
    have h2 : 2 ≤ (ordL fs fs.length).length := by rw [hm]; simp
    refine (lengths_two S a cap limit fs w hS hF h1 h15 hl hfs h2 (by omega)).mono ?_
    rintro e w' ⟨GL, os, rfl, hp, hs, hR, hb, hz⟩
    have hol2 : os.length = (ordL fs fs.length).length := hp.length_eq
    exact ⟨GL, _, _, rfl, best_two fs os limit hfs hl hp hs h1 h15 (by omega) (by omega), hR, hb, hz⟩

set_option maxRecDepth 100000 in
set_option maxHeartbeats 1000000 in
theorem fitting_any (S : Nat → Prop) (a : Option Addr) (cap limit : Nat) (fs : List Int) (w : World) (hS : ∀ k, S k → k < w.heap.size) (hF : IntsIn S w (.slice a fs.length cap) fs) (h1 : 1 ≤ limit) (h15 : limit ≤ 15) (hl : fs.length ≤ 320) (hfs : ∀ z ∈ fs, 0 ≤ z ∧ z ≤ 1073741824) (hlim : fs.length ≤ 2 ^ limit) :
    Calls Tryd.prog 59 #[.slice a fs.length cap, .int .i64 limit] w fun e w' => ∃ GL ls c, e = .returned (.slice (some ⟨GL, 0, none⟩) fs.length fs.length) ∧ Best fs ls limit c ∧ Row w' GL 3 (intsV ls) ∧ Below w.heap.size w w' ∧ w.heap.size ≤ GL := by
  have H1 : Hid (Calls Tryd.prog 76 #[.slice a fs.length cap, .int .i64 (limit : Int)] w _) := lengths_best S a cap limit fs w hS hF h1 h15 hl hfs hlim
  clear hF hfs
  go_enter Tryd.func59, Tryd.ntmps59
  go_wp2_with fail
  refine H1.out.mono ?_
  clear H1
  rintro e w' ⟨GL, ls, c, rfl, hB, hR, hb, hz⟩
  have HF : Hid _ := And.intro hB (And.intro hR (And.intro hb hz))
  clear hB hR hb
  go_wp2
  go_ret
  exact ⟨GL, ls, c, rfl, HF.out⟩

/-- How many are left when the noughts at the end are left out, as long as there are more than least. -/
def trimN (zs : List Int) (least : Nat) : Nat → Nat
  | 0 => 0
  | m + 1 => if least < m + 1 ∧ zs[m]?.getD 0 = 0 then trimN zs least m else m + 1
theorem trimN_le (zs : List Int) (least n : Nat) : trimN zs least n ≤ n := by
  induction n with
  | zero => exact Nat.le_refl _
  | succ n ih => rw [trimN]; split <;> omega
theorem trimN_ge (zs : List Int) (least n : Nat) (h : least ≤ n) : least ≤ trimN zs least n := by
  induction n with
  | zero => rw [trimN]; omega
  | succ n ih =>
    rw [trimN]
    split
    · exact ih (by omega)
    · exact h

set_option maxRecDepth 100000 in
set_option maxHeartbeats 1000000 in
theorem trim_any (S : Nat → Prop) (a : Option Addr) (cap least : Nat) (zs : List Int) (w : World) (hI : IntsIn S w (.slice a zs.length cap) zs) (hl : zs.length ≤ 1000) (hle : least ≤ 1000) (hcap : zs.length ≤ cap) :
    Calls Tryd.prog 77 #[.slice a zs.length cap, .int .i64 (least : Int)] w fun e w' => e = .returned (.slice a (trimN zs least zs.length) cap) ∧ w' = w := by
  obtain ⟨m0, hm0⟩ : ∃ m0, trimN zs least zs.length = m0 := ⟨_, rfl⟩
  rw [hm0]
  have HM : Hid (trimN zs least zs.length = m0) := hm0
  clear hm0
  go_enter Tryd.func77, Tryd.ntmps77
  go_wp2
  go_loopw [5] (fun v5 wr => ∃ m : Nat, m ≤ zs.length ∧ v5 = .int .i64 (m : Int) ∧ Hid (trimN zs least m = m0) ∧ wr = w) (fun v5 _ => (intOf v5).toNat)
  case atStart => exact ⟨zs.length, Nat.le_refl _, rfl, HM, rfl⟩
  case round =>
    obtain ⟨m, hm, rfl, HE, rfl⟩ := hrel
    by_cases hlt : least < m
    · obtain ⟨k, rfl⟩ : ∃ k, m = k + 1 := ⟨m - 1, by omega⟩
      obtain ⟨b, off, rfl, _, hc⟩ := hI.at k (by omega)
      have t1 : (least : Int) < ((k + 1 : Nat) : Int) := by omega
      have hsub : IntKind.i64.wrap (((k + 1 : Nat) : Int) - 1) = (k : Int) := by simp [IntKind.wrap, IntKind.bits, IntKind.signed]; omega
      have HT : Hid (trimN zs least (k + 1) = if least < k + 1 ∧ zs[k]?.getD 0 = 0 then trimN zs least k else k + 1) := rfl
      have hk1 : (k : Int) < zs.length := by omega
      generalize zs[k]?.getD 0 = z at hc HT
      by_cases hz : z = 0
      · have HE2 : Hid (trimN zs least k = m0) := by show _ = _; rw [← HE.out, HT.out, if_pos ⟨hlt, hz⟩]
        have t2 : (z == 0) = true := by simpa using hz
        clear HE HT hz
        go_wp2
        refine ⟨⟨k, by omega, by go_num, HE2, by first | rfl | trivial⟩, by simp [intOf]⟩
      · have HE2 : Hid (m0 = k + 1) := by show _ = _; rw [← HE.out, HT.out, if_neg (fun h => hz h.2)]
        have t2 : (z == 0) = false := by simpa using hz
        clear HE HT hz
        go_wp2
        go_ret
        exact ⟨by rw [HE2.out]; rfl, by first | rfl | trivial⟩
    · have t1 : ¬ (least : Int) < (m : Int) := by omega
      have HE2 : Hid (m0 = m) := by
        show _ = _
        rw [← HE.out]
        cases m with
        | zero => rfl
        | succ m => rw [trimN, if_neg (fun h => hlt h.1)]
      clear HE
      go_wp2
      go_ret
      exact ⟨by rw [HE2.out]; rfl, by first | rfl | trivial⟩
end Go.Proofs.YtinbilbgipfemaaDoor
/- The head that tells the codes of a dynamic block: the plain description. -/
namespace Go.Proofs.YtinbilbgipfemaaDoor
open Go.RowKit

def orderL : List Nat := [16, 17, 18, 0, 8, 7, 9, 6, 10, 5, 11, 4, 12, 3, 13, 2, 14, 1, 15]
def ordI (i : Nat) : Nat := orderL[i]?.getD 0
theorem ordI_lt (i : Nat) : ordI i < 19 := by
  by_cases h : i < 19
  · exact (by decide : ∀ i, i < 19 → ordI i < 19) i h
  · unfold ordI
    rw [List.getElem?_eq_none (by show 19 ≤ i; omega)]
    decide
def OrdAt (w : World) : Prop := 0 < w.heap.size ∧ ∀ j, j < 19 → w.cell? ⟨0, j, none⟩ = some (.int .i64 (ordI j : Int))
theorem OrdAt.kept {w w' : World} {T : Nat → Prop} (h : OrdAt w) (hk : Kept T w w') (h0 : T 0) : OrdAt w' := ⟨Nat.lt_of_lt_of_le h.1 hk.size, fun j hj => (hk.cell (p := ⟨0, j, none⟩) h0).trans (h.2 j hj)⟩
/-- How often each symbol comes. -/
def frq (ss : List Int) : List Int := ss.foldl (fun f s => addAt f s.toNat 1) (List.replicate 19 0)
theorem frq_snoc (ss : List Int) (s : Int) : frq (ss ++ [s]) = addAt (frq ss) s.toNat 1 := by simp [frq]
theorem frq_length (ss : List Int) : (frq ss).length = 19 := by
  have : ∀ (l : List Int) (f : List Int), (l.foldl (fun f s => addAt f s.toNat 1) f).length = f.length := by
    intro l
    induction l with
    | nil => intro f; rfl
    | cons x xs ih => intro f; rw [List.foldl_cons, ih, addAt_length]
  rw [frq, this, List.length_replicate]
theorem frq_upto (ss : List Int) : Upto (frq ss) ss.length := by
  have : ∀ (l : List Int) (f : List Int) (m : Nat), Upto f m → Upto (l.foldl (fun f s => addAt f s.toNat 1) f) (m + l.length) := by
    intro l
    induction l with
    | nil => intro f m h; exact h
    | cons x xs ih =>
      intro f m h
      have := ih _ _ (h.add x.toNat)
      rw [List.length_cons, show m + (xs.length + 1) = m + 1 + xs.length by omega]
      exact this
  have h0 : Upto (List.replicate 19 (0 : Int)) 0 := fun j => by
    rw [List.getElem?_replicate]
    split <;> simp
  have := this ss _ 0 h0
  rwa [Nat.zero_add] at this
theorem upto_mem {fs : List Int} {m : Nat} (h : Upto fs m) (hm : m ≤ 1073741824) : ∀ z ∈ fs, 0 ≤ z ∧ z ≤ 1073741824 := by
  intro z hz
  obtain ⟨i, hi, rfl⟩ := List.getElem_of_mem hz
  have := h i
  rw [List.getElem?_eq_getElem hi] at this
  simp only [Option.getD_some] at this
  omega
/-- How many lengths of lengths are told. -/
def manyN (cl : List Int) : Nat → Nat
  | 0 => 0
  | m + 1 => if 4 < m + 1 ∧ cl[ordI m]?.getD 0 = 0 then manyN cl m else m + 1
theorem manyN_le (cl : List Int) (n : Nat) : manyN cl n ≤ n := by
  induction n with
  | zero => exact Nat.le_refl _
  | succ n ih => rw [manyN]; split <;> omega
theorem manyN_ge (cl : List Int) (n : Nat) (h : 4 ≤ n) : 4 ≤ manyN cl n := by
  induction n with
  | zero => omega
  | succ n ih =>
    rw [manyN]
    split
    · exact ih (by omega)
    · exact h
def lenLs (cl : List Int) (k : Nat) : List Fd := (List.range k).map fun i => ((cl[ordI i]?.getD 0).toNat, 3)
theorem lenLs_succ (cl : List Int) (k : Nat) : lenLs cl (k + 1) = lenLs cl k ++ [((cl[ordI k]?.getD 0).toNat, 3)] := by simp [lenLs, List.range_succ]
def psF (cl : List Int) (ps : List (Int × Int)) : List Fd := ps.flatMap fun p => [(codesF cl)[p.1.toNat]?.getD (0, 0), (p.2.toNat, bitsN p.1)]
theorem psF_snoc (cl : List Int) (ps : List (Int × Int)) (p : Int × Int) : psF cl (ps ++ [p]) = psF cl ps ++ [(codesF cl)[p.1.toNat]?.getD (0, 0), (p.2.toNat, bitsN p.1)] := by simp [psF]
def head3 (nl nd many : Nat) : List Fd := [(nl - 257, 5), (nd - 1, 5), (many - 4, 4)]
def headL (nl nd : Nat) (cl : List Int) (ps : List (Int × Int)) : List Fd := head3 nl nd (manyN cl 19) ++ lenLs cl (manyN cl 19) ++ psF cl ps
/-- Symbols and extra numbers that tell a row are so. -/
theorem rowT_ok : ∀ {ps : List (Int × Int)} {l l' : List Int}, rowT ps l = some l' → ∀ p ∈ ps, 0 ≤ p.1 ∧ p.1 ≤ 18 ∧ 0 ≤ p.2 ∧ p.2 < 2 ^ bitsN p.1
  | [], _, _, _, p, hp => by cases hp
  | q :: qs, l, l', h, p, hp => by
    rw [rowT] at h
    cases hs : stepT l q with
    | none => rw [hs] at h; cases h
    | some l1 =>
      rw [hs] at h
      rcases List.mem_cons.1 hp with rfl | hp
      · unfold stepT at hs
        unfold bitsN
        split at hs
        · rename_i hc
          rw [if_neg (by omega), if_neg (by omega), if_neg (by omega)]
          omega
        · split at hs
          · rename_i hc
            rw [if_pos hc.1]
            omega
          · split at hs
            · rename_i hc
              rw [if_neg (by omega), if_pos hc.1]
              omega
            · split at hs
              · rename_i hc
                rw [if_neg (by omega), if_neg (by omega), if_pos hc.1]
                omega
              · cases hs
      · exact rowT_ok h p hp
theorem IntsIn.take {S : Nat → Prop} {w : World} {a : Option Addr} {n c : Nat} {zs : List Int} (h : IntsIn S w (.slice a n c) zs) (m : Nat) (hm : m ≤ zs.length) : IntsIn S w (.slice a m c) (zs.take m) := by
  have hl : (zs.take m).length = m := by rw [List.length_take]; omega
  rcases h with ⟨rfl, a', c', e⟩ | ⟨b, off, c', e, hb, hc⟩
  · have : m = 0 := by simpa using hm
    subst this
    exact .inl ⟨rfl, a, c, rfl⟩
  · simp only [Value.slice.injEq] at e
    obtain ⟨rfl, rfl, rfl⟩ := e
    refine .inr ⟨b, off, c, by rw [hl], hb, fun j hj => ?_⟩
    rw [hl] at hj
    rw [hc j (by omega), List.getElem?_take_of_lt hj]
/-- Fields that are being gathered, in a row outside T. -/
def HeadAt (T : Nat → Prop) (base : Nat) (w : World) (v : Value) (fs : List Fd) : Prop := (∃ g c, v = .slice g fs.length c) ∧ w.ownsRow base 79 2 v fs.length (fcells fs) ∧ ∀ k, v.ownBlock = some k → ¬ T k
end Go.Proofs.YtinbilbgipfemaaDoor
