/- The iterator over the entries of an archive that is written. -/
import Derived.Test.YtibnafngkcpafaaGreatDoorZpk
namespace Go.Proofs.YtibnafngkcpafaaGreatDoor
open Go.RowKit Go.Shelf

attribute [local go_sem] Oper.semAt_some

section
variable {P : Program} {ops : Array Oper} {Q : Exit → Act → World → Prop} {S : World → Prop} {E : Nat → Bool}
theorem wpOp_of_M {i : Nat} {o : Oper} {a : Act} {w : World} {fuel : Nat} {listed' : Array Bool} (ho : ops[i]? = some o) (h : wpList P ops (behindM P ops Q S E i fuel listed') [o] a w) :
    wpOp P ops Q i (fun a' w' => (E i = true → S w') ∧ wpX P .any ops Q S E fuel listed' a' w') a w := by
  simp only [wpList] at h
  unfold wpOp
  simp only [ho]
  split
  · rename_i hw
    simp only [hw, if_true] at h
    refine h.imp (fun h2 => ?_) id
    exact Oper.wp_behindM (Oper.wp_mono (K := fun a' w' => behindM P ops Q S E i fuel listed' .normal a' w') (fun a' w' h4 => h4) h2)
  · rename_i hw
    simp only [hw] at h
    exact h
theorem wpM_two (i j : Nat) {o o' : Oper} {listed listed' listed'' : Array Bool} {fuel : Nat} {a : Act} {w : World} (ho : ops[i]? = some o) (ho' : ops[j]? = some o') (hB : (Region.ready .any ops listed == [i, j]) = true)
    (hL : listed.setIfInBounds i true = listed') (hL' : listed.setIfInBounds j true = listed'')
    (h : wpList P ops (behindM P ops Q S E i fuel listed') [o] a w) (h' : wpList P ops (behindM P ops Q S E j fuel listed'') [o'] a w) : wpM P ops Q S E (fuel + 1) listed a w := by
  subst hL hL'
  have hr : Region.ready .any ops listed = [i, j] := by simpa using hB
  refine ⟨fun h0 => (by rw [hr] at h0; cases h0), fun k hk => ?_⟩
  rw [hr] at hk
  simp only [List.mem_cons, List.not_mem_nil, or_false] at hk
  rcases hk with rfl | rfl
  · exact wpOp_of_M ho h
  · exact wpOp_of_M ho' h'
end

theorem FilesIn.at {S : Nat → Prop} {W : World} {a : Option Addr} {n cap : Nat} {fs : List Fil} (h : FilesIn S W (.slice a n cap) fs) (k : Nat) (hk : k < fs.length) :
    ∃ b off, a = some ⟨b, off, none⟩ ∧ S b ∧ W.cell? ⟨b, off + k * 2, none⟩ = some (.string (fs[k]?.getD default).nm) ∧ W.cell? ⟨b, off + k * 2 + 1, none⟩ = some (fs[k]?.getD default).dat := by
  rcases h.2 with ⟨rfl, _⟩ | ⟨b, off, c, e, hb, hc⟩
  · simp at hk
  · simp only [Value.slice.injEq] at e
    obtain ⟨rfl, rfl, rfl⟩ := e
    have h := hc k fs[k] (List.getElem?_eq_getElem hk)
    rw [List.getElem?_eq_getElem hk]
    exact ⟨b, off, rfl, hb, h.1, h.2⟩
theorem FilesIn.ok {S : Nat → Prop} {W : World} {sv : Value} {fs : List Fil} (h : FilesIn S W sv fs) (k : Nat) (hk : k < fs.length) : (fs[k]?.getD default).Ok S W := by
  rw [List.getElem?_eq_getElem hk]
  exact h.1 _ (List.getElem_mem hk)

theorem offN_le {S : Nat → Prop} {W : World} {fs : List Fil} (h : ∀ f ∈ fs, f.Ok S W) : ∀ k, k ≤ fs.length → offN fs k ≤ k * 1200000
  | 0, _ => by simp [offN]
  | k + 1, hk => by
    have ih := offN_le h k (by omega)
    have hf := h fs[k] (List.getElem_mem (by omega))
    have h1 := hf.small
    have h2 := hf.name
    rw [offN, List.getElem?_eq_getElem (by omega)]
    simp only [Option.getD_some]
    omega
theorem offN_le' {S : Nat → Prop} {W : World} {fs : List Fil} (h : ∀ f ∈ fs, f.Ok S W) (hl : fs.length ≤ 64) (k : Nat) (hk : k ≤ fs.length) : offN fs k ≤ 100000000 := by
  have := offN_le h k hk
  omega

set_option maxRecDepth 100000 in
set_option maxHeartbeats 4000000 in
theorem packed_seq (n : Nat) (S : Nat → Prop) (B0 B1 : Nat) (a : Option Addr) (cap : Nat) (fs : List Fil) (w : World) (hS : ∀ k, S k → k < w.heap.size) (hB : B0 < w.heap.size ∧ B1 < w.heap.size) (hF : FilesIn S w (.slice a fs.length cap) fs)
    (c0 : w.cell? ⟨B0, 0, none⟩ = some (.slice a fs.length cap)) (c1 : w.cell? ⟨B1, 0, none⟩ = some (.int .i64 0)) (hl : fs.length ≤ 64) :
    SeqOwn Fence.wide n Tryz.prog 36 #[.pointer (some ⟨B0, 0, none⟩), .pointer (some ⟨B1, 0, none⟩)] (fun k : Nat => #[.agg (pkE fs k), (fs[k]?.getD default).dat]) (fun _ => False) (fun k => S k ∨ k = B0 ∨ k = B1) (fun pre k => k = pre.length ∧ k < fs.length) (fun xs => xs.length = fs.length) w := by
  intro l J W hW hJs hJo hY h0
  have hKW : Kept (fun k => k < w.heap.size) w W := Kept.of_below hW (fun _ h => h)
  have d0 := (hKW.cell (p := ⟨B0, 0, none⟩) hB.1).trans c0
  have d1 := (hKW.cell (p := ⟨B1, 0, none⟩) hB.2).trans c1
  have hFW := hF.kept (hKW.mono hS)
  have HSZ : Hid (w.heap.size ≤ W.heap.size) := hKW.size
  have HJs : Hid _ := hJs
  have HJo : Hid _ := hJo
  have HY : Hid _ := hY
  obtain ⟨own0, h0⟩ := h0
  have HJ0 : Hid (J [] own0 W) := h0
  have HFW : Hid (FilesIn S W (.slice a fs.length cap) fs) := hFW
  clear hW hKW c0 c1 hF hJs hJo hY h0 hFW
  refine callsIn_of_wp Tryz.func36 rfl trivial ?_ rfl
  simp only [Tryz.ntmps36, List.size_toArray, List.length_cons, List.length_nil, Nat.reduceAdd, Nat.reduceSub, Array.replicate_succ, Array.replicate_zero, List.push_toArray, List.append_toArray, List.nil_append, List.cons_append]
  gi_wp2
  gi_loopw [4, 11] (fun v4 v11 wr => ∃ (pre : List Nat) (own : Nat → Prop), v11 = .int .i64 (pre.length : Int) ∧ v4 = .int .i64 (offN fs pre.length : Int) ∧ pre.length ≤ fs.length ∧ Hid (J pre own wr) ∧ Hid (Kept (fun k => S k ∨ k = B0 ∨ k = B1) W wr)) (fun _ v11 _ => fs.length - (intOf v11).toNat)
  case atStart => exact ⟨[], own0, rfl, rfl, Nat.zero_le _, HJ0, Kept.refl _ _⟩
  case round =>
    obtain ⟨pre, own, rfl, rfl, hle, HJ, HK⟩ := hrel
    have g0 := (HK.out.cell (p := ⟨B0, 0, none⟩) (.inr (.inl rfl))).trans d0
    have g1 := (HK.out.cell (p := ⟨B1, 0, none⟩) (.inr (.inr rfl))).trans d1
    by_cases hlt : pre.length < fs.length
    rotate_left
    · have t1 : ¬ ((pre.length : Int) < (fs.length : Int)) := by omega
      gi_wp2
      go_end0
      exact ⟨⟨_, rfl⟩, pre, by omega, own, HJ.out⟩
    · have t1 : (pre.length : Int) < (fs.length : Int) := by omega
      have hFr : FilesIn S wr (.slice a fs.length cap) fs := FilesIn.kept (S := S) (HK.out.mono (fun k h => .inl h)) HFW.out
      -- (HK.out.mono (fun k h => .inl h))
      obtain ⟨b, off, rfl, hSb, e0, e1⟩ := hFr.at pre.length hlt
      have hok := hFr.ok pre.length hlt
      generalize hf : fs[pre.length]?.getD default = f at e0 e1 hok
      obtain ⟨nm, fa, fcap, zs⟩ := f
      simp only [Fil.dat] at e0 e1
      have hBr : B0 < wr.heap.size ∧ B1 < wr.heap.size := by have := HSZ.out; have := HK.out.size; omega
      have HBr : Hid _ := hBr
      have hk1 : Kept (fun k => k < wr.heap.size) wr (wr.alloc (.cells #[.string nm, .slice fa zs.length fcap] 33)) := (Kept.refl _ wr).alloc (fun _ h => h) _
      have g1' := (hk1.cell (p := ⟨B1, 0, none⟩) hBr.2).trans g1
      have hR1 := Row.new wr 33 #[.string nm, .slice fa zs.length fcap]
      have q0 := hR1.cell (i := 0) rfl
      have q1 := hR1.cell (i := 1) rfl
      clear hBr
      gi_wp2_with fail
      refine ⟨trivial, (fun h => by cases h), (callsIn_wide.2 (pack0_any _ _)).mono ?_⟩
      rintro e w1 ⟨rfl, rfl⟩
      generalize wr.alloc (.cells #[.string nm, .slice fa zs.length fcap] 33) = w1 at hk1 g1' hR1 q0 q1 ⊢
      have HS : Hid ((fun wx : World => wx.cell? ⟨wr.heap.size, 0, none⟩ = some (.string nm) ∧ wx.cell? ⟨wr.heap.size, 1, none⟩ = some (.slice fa zs.length fcap) ∧ wx.cell? ⟨B1, 0, none⟩ = some (.int .i64 0)) w1.drew) := ⟨q0, q1, g1'⟩
      have HSW : Hid (∀ wx, Below w1.heap.size w1 wx → (fun wx : World => wx.cell? ⟨wr.heap.size, 0, none⟩ = some (.string nm) ∧ wx.cell? ⟨wr.heap.size, 1, none⟩ = some (.slice fa zs.length fcap) ∧ wx.cell? ⟨B1, 0, none⟩ = some (.int .i64 0)) wx) := fun wx h => ⟨(h.cell (p := ⟨wr.heap.size, 0, none⟩) hR1.lt).trans q0, (h.cell (p := ⟨wr.heap.size, 1, none⟩) hR1.lt).trans q1, (h.cell (p := ⟨B1, 0, none⟩) (Nat.lt_of_lt_of_le HBr.out.2 hk1.size)).trans g1'⟩
      have HIB : Hid (∀ wx, Below w1.heap.size w1 wx → BytesIn S wx (.slice fa zs.length fcap) zs) := fun wx h => hok.bytes.kept ((hk1.mono (fun k hs => by have := hS k hs; have := HSZ.out; have := HK.out.size; show k < _; omega)).trans (Kept.of_below h (fun k hs => by have := hS k hs; have := HSZ.out; have := HK.out.size; have := hk1.size; omega)))
      have HOK : Hid _ := hok
      have HR1 : Hid (Row w1 wr.heap.size 33 #[.string nm, .slice fa zs.length fcap]) := hR1
      have HK1 : Hid _ := hk1
      clear g1' q0 q1 hok hR1 hk1 hFr e0 e1
      have HCW : Hid (IntKind.i64.wrap (crcN zs : Int) = (crcN zs : Int)) := by have := crcN_lt zs; show _ = _; simp [IntKind.wrap, IntKind.bits, IntKind.signed]; omega
      gi_wp2
      refine wpIn_wide.2 (wp_region_M (fun wx : World => wx.cell? ⟨wr.heap.size, 0, none⟩ = some (.string nm) ∧ wx.cell? ⟨wr.heap.size, 1, none⟩ = some (.slice fa zs.length fcap) ∧ wx.cell? ⟨B1, 0, none⟩ = some (.int .i64 0)) (fun i => decide (i ≤ 14)) 16 rfl (by kernel_rfl) ?_)
      refine wpM_held 0 (v := ?_) rfl (by kernel_rfl) (by kernel_rfl) rfl (fun _ _ _ h => h) rfl (by rintro wx ⟨hx1, hx2, hx3⟩; go_simp <;> rfl) HS.out ?_
      refine wpM_held 1 (v := ?_) rfl (by kernel_rfl) (by kernel_rfl) rfl (fun _ _ _ h => h) rfl (by rintro wx ⟨hx1, hx2, hx3⟩; go_simp <;> rfl) HS.out ?_
      refine wpM_held 2 (v := ?_) rfl (by kernel_rfl) (by kernel_rfl) rfl (fun _ _ _ h => h) rfl (by rintro wx ⟨hx1, hx2, hx3⟩; go_simp <;> rfl) HS.out ?_
      refine wpM_held 3 (v := ?_) rfl (by kernel_rfl) (by kernel_rfl) rfl (fun _ _ _ h => h) rfl (by rintro wx ⟨hx1, hx2, hx3⟩; go_simp <;> rfl) HS.out ?_
      refine wpM_held 4 (v := ?_) rfl (by kernel_rfl) (by kernel_rfl) rfl (fun _ _ _ h => h) rfl (by rintro wx ⟨hx1, hx2, hx3⟩; go_simp <;> rfl) HS.out ?_
      refine wpM_held 7 (v := ?_) rfl (by kernel_rfl) (by kernel_rfl) rfl (fun _ _ _ h => h) rfl (by rintro wx ⟨hx1, hx2, hx3⟩; go_simp <;> rfl) HS.out ?_
      refine wpM_held 8 (v := ?_) rfl (by kernel_rfl) (by kernel_rfl) rfl (fun _ _ _ h => h) rfl (by rintro wx ⟨hx1, hx2, hx3⟩; go_simp <;> rfl) HS.out ?_
      refine wpM_held 9 (v := ?_) rfl (by kernel_rfl) (by kernel_rfl) rfl (fun _ _ _ h => h) rfl (by rintro wx ⟨hx1, hx2, hx3⟩; go_simp <;> rfl) HS.out ?_
      refine wpM_held 10 (v := ?_) rfl (by kernel_rfl) (by kernel_rfl) rfl (fun _ _ _ h => h) rfl (by rintro wx ⟨hx1, hx2, hx3⟩; go_simp <;> rfl) HS.out ?_
      refine wpM_held 11 (v := ?_) rfl (by kernel_rfl) (by kernel_rfl) rfl (fun _ _ _ h => h) rfl (by rintro wx ⟨hx1, hx2, hx3⟩; go_simp <;> rfl) HS.out ?_
      refine wpM_held 12 (v := ?_) rfl (by kernel_rfl) (by kernel_rfl) rfl (fun _ _ _ h => h) rfl (by rintro wx ⟨hx1, hx2, hx3⟩; go_simp <;> rfl) HS.out ?_
      refine wpM_two 5 14 rfl rfl (by kernel_rfl) rfl rfl ?o1 ?o2
      case o1 =>
        have HC : Hid (Calls Tryz.prog 38 #[.slice fa zs.length fcap] w1.drew _) := crc_any S fa fcap zs w1.drew HOK.out.are HOK.out.small (HIB.out _ ⟨rfl, rfl, rfl, Nat.le_refl _, fun _ _ => rfl⟩)
        go_wp2_with fail
        refine Calls.mono HC.out ?_
        clear HC
        rintro e w2 ⟨rfl, hb2⟩
        have hb12 : Below w1.heap.size w1 w2 := (Below.drew (Below.refl _ w1)).trans hb2
        go_wp2_with fail
        refine ⟨fun _ => HSW.out _ hb12, ?_⟩
        refine wpM_held 6 (v := .int .i64 (crcN zs : Int)) rfl (by kernel_rfl) (by kernel_rfl) rfl (fun _ _ _ h => h) rfl (by intro wx _; go_simp; rw [HCW.out]) (HSW.out _ hb12) ?_
        refine wpM_held 13 (v := ?_) rfl (by kernel_rfl) (by kernel_rfl) rfl (fun _ _ _ h => h) rfl (by intro wx _; go_simp <;> rfl) (HSW.out _ hb12) ?_
        refine wpM_one 14 rfl (by kernel_rfl) rfl ?_
        go_wp2_with fail
        refine ⟨fun _ => HSW.out _ (hb12.alloc hb12.size _), ?_⟩
        refine wpM_one 15 rfl (by kernel_rfl) rfl ?_
        go_wp2_with fail
        refine ⟨fun h => (by cases h), ?_⟩
        refine wpM_done (by kernel_rfl) ?_
        have hXV := Row.new w2 48 #[.string nm, .int .i64 0, .int .i64 (crcN zs : Int), .int .i64 (zs.length : Int), .int .i64 (zs.length : Int), .int .i64 (offN fs pre.length : Int)]
        have hbV : Below w1.heap.size w1 (w2.alloc (.cells #[.string nm, .int .i64 0, .int .i64 (crcN zs : Int), .int .i64 (zs.length : Int), .int .i64 (zs.length : Int), .int .i64 (offN fs pre.length : Int)] 48)) := hb12.alloc hb12.size _
        have hXl : wr.heap.size < w2.heap.size := by have := HR1.out.lt; have := hb12.size; omega
        generalize w2.alloc (.cells #[.string nm, .int .i64 0, .int .i64 (crcN zs : Int), .int .i64 (zs.length : Int), .int .i64 (zs.length : Int), .int .i64 (offN fs pre.length : Int)] 48) = V at hXV hbV ⊢
        generalize w2.heap.size = X at hXV hXl ⊢
        clear hb2 hb12 w2
        have HXV : Hid (Row V X 48 #[.string nm, .int .i64 0, .int .i64 (crcN zs : Int), .int .i64 (zs.length : Int), .int .i64 (zs.length : Int), .int .i64 (offN fs pre.length : Int)]) := hXV
        have HBV : Hid _ := hbV
        have HXL : Hid _ := hXl
        clear hXV hbV hXl HS
        have hKV : Kept (fun k => k < wr.heap.size) wr V := HK1.out.trans (Kept.of_below HBV.out (fun k (h : k < wr.heap.size) => Nat.lt_of_lt_of_le h HK1.out.size))
        have HKV : Hid _ := hKV
        have HJV : Hid (J pre own V) := HJs.out _ _ _ _ HJ.out (hKV.mono (fun k h => h.1))
        have HON : Hid (∀ k, own k → k < wr.heap.size ∧ ¬ (S k ∨ k = B0 ∨ k = B1)) := fun k h => HJo.out pre own wr k HJ.out h
        have HKW : Hid (Kept (fun k => S k ∨ k = B0 ∨ k = B1) W V) := HK.out.trans (hKV.mono (by
          have h1 := HSZ.out
          have h2 := HK.out.size
          have h3 := HBr.out
          rintro k (h | rfl | rfl)
          · have := hS k h; show k < _; omega
          · exact h3.1
          · exact h3.2))
        have hv0 := HXV.out.cell (i := 0) rfl
        have hv1 := HXV.out.cell (i := 1) rfl
        have hv2 := HXV.out.cell (i := 2) rfl
        have hv3 := HXV.out.cell (i := 3) rfl
        have hv4 := HXV.out.cell (i := 4) rfl
        have hv5 := HXV.out.cell (i := 5) rfl
        obtain ⟨fn, tmps, assign, body, hy, hRd⟩ := HY.out pre pre.length own V HJV.out ⟨rfl, hlt⟩
        simp only [pkE, entA, hf, Fil.dat, Int.natCast_zero] at hy
        clear hKV HJ HK g0 g1
        gi_wp2
        refine ⟨(fun h => by cases h), hRd.mono ?_⟩
        clear hRd hy
        rintro e w9 ⟨rfl, ⟨own', hJ9⟩, hk9⟩
        clear hv0 hv1 hv2 hv3 hv4 hv5
        have hR9 := HXV.out.kept hk9 ⟨HXV.out.lt, fun ho => by have := (HON.out _ ho).1; have := HXL.out; omega⟩
        have HK9 : Hid (Kept (fun k => S k ∨ k = B0 ∨ k = B1) W w9) := HKW.out.trans (hk9.mono (fun k h => ⟨by
          have h1 := HSZ.out
          have h2 := HKW.out.size
          rcases h with h | rfl | rfl
          · have := hS k h; omega
          · omega
          · omega, fun ho => (HON.out k ho).2 h⟩))
        have HJ9 : Hid (J (pre ++ [pre.length]) own' w9) := hJ9
        have hv0 := hR9.cell (i := 0) rfl
        have hv1 := hR9.cell (i := 1) rfl
        have hv2 := hR9.cell (i := 2) rfl
        have hv3 := hR9.cell (i := 3) rfl
        have hv4 := hR9.cell (i := 4) rfl
        have hv5 := hR9.cell (i := 5) rfl
        have HOF : Hid (offN fs pre.length ≤ 100000000) := offN_le' HFW.out.1 hl _ hle
        have HL : Hid (Calls Tryz.prog 19 #[.agg #[.string nm, .int .i64 ((0 : Nat) : Int), .int .i64 (crcN zs : Int), .int .i64 (zs.length : Int), .int .i64 (zs.length : Int), .int .i64 (offN fs pre.length : Int)]] w9 _) := local_any nm 0 (crcN zs) zs.length zs.length (offN fs pre.length) w9 (by omega) (crcN_lt zs) (by have := HOK.out.small; show zs.length < _; simp only at this; omega) (by have := HOK.out.small; simp only at this; omega) (by have := HOK.out.name; simp only at this; omega)
        have HON2 : Hid (offN fs (pre.length + 1) = offN fs pre.length + (30 + nm.size + zs.length)) := by show _ = _; rw [offN, hf]
        have HNM : Hid (nm.size ≤ 65535) := HOK.out.name
        have HZL : Hid (zs.length ≤ 1048576) := HOK.out.small
        clear hk9 hJ9 HXV HBV HKV HJV HON HKW HR1 HK1 HIB HSW HOK hR9
        gi_wp2_with fail
        refine ⟨trivial, (fun h => by cases h), (callsIn_wide.2 HL.out).mono ?_⟩
        clear HL
        rintro e w10 ⟨g', c', rfl, ho10, hb10⟩
        rw [localB_length]
        have HJ10 : Hid (J (pre ++ [pre.length]) own' w10) := HJs.out _ _ _ _ HJ9.out (Kept.of_below hb10 (fun k h => h.1))
        have HK10 : Hid (Kept (fun k => S k ∨ k = B0 ∨ k = B1) W w10) := HK9.out.trans (Kept.of_below hb10 (by
          have h1 := HSZ.out
          have h2 := HK9.out.size
          rintro k (h | rfl | rfl)
          · have := hS k h; omega
          · omega
          · omega))
        have hb1 := HOF.out
        have hb2 := HNM.out
        have hb3 := HZL.out
        clear ho10 hb10 hv0 hv1 hv2 hv3 hv4 hv5 HJ9 HK9
        gi_wp2
        refine ⟨⟨pre ++ [pre.length], own', by simp, ?_, by simp; omega, HJ10, HK10⟩, by simp [intOf]; omega⟩
        rw [List.length_append, List.length_singleton, HON2.out]
        go_num
      case o2 =>
        go_wp2_with fail
        have hb12 : Below w1.heap.size w1 (w1.drew.alloc (.cells #[.string .empty, .int .i64 0, .int .i64 0, .int .i64 0, .int .i64 0, .int .i64 0] 48)) := (Below.drew (Below.refl _ w1)).alloc (Nat.le_refl _) _
        refine ⟨fun _ => HSW.out _ hb12, ?_⟩
        have HC : Hid (Calls Tryz.prog 38 #[.slice fa zs.length fcap] (w1.drew.alloc (.cells #[.string .empty, .int .i64 0, .int .i64 0, .int .i64 0, .int .i64 0, .int .i64 0] 48)) _) := crc_any S fa fcap zs _ HOK.out.are HOK.out.small (HIB.out _ hb12)
        have hX : Row _ w1.heap.size 48 _ := Row.new w1.drew 48 #[.string .empty, .int .i64 0, .int .i64 0, .int .i64 0, .int .i64 0, .int .i64 0]
        refine wpM_one 5 rfl (by kernel_rfl) rfl ?_
        go_wp2_with fail
        refine Calls.mono HC.out ?_
        clear HC
        rintro e w2 ⟨rfl, hb2⟩
        have hb13 : Below w1.heap.size w1 w2 := hb12.trans (hb2.mono hb12.size)
        have hX2 := hX.below hb2 hX.lt
        go_wp2_with fail
        refine ⟨fun _ => HSW.out _ hb13, ?_⟩
        refine wpM_held 6 (v := .int .i64 (crcN zs : Int)) rfl (by kernel_rfl) (by kernel_rfl) rfl (fun _ _ _ h => h) rfl (by intro wx _; go_simp; rw [HCW.out]) (HSW.out _ hb13) ?_
        refine wpM_held 13 (v := ?_) rfl (by kernel_rfl) (by kernel_rfl) rfl (fun _ _ _ h => h) rfl (by intro wx _; go_simp <;> rfl) (HSW.out _ hb13) ?_
        refine wpM_one 15 rfl (by kernel_rfl) rfl ?_
        have x0 := hX2.cell (i := 0) rfl
        have x1 := hX2.cell (i := 1) rfl
        have x2 := hX2.cell (i := 2) rfl
        have x3 := hX2.cell (i := 3) rfl
        have x4 := hX2.cell (i := 4) rfl
        have x5 := hX2.cell (i := 5) rfl
        have y0 := hX2.frozen 0
        have y1 := hX2.frozen 1
        have y2 := hX2.frozen 2
        have y3 := hX2.frozen 3
        have y4 := hX2.frozen 4
        have y5 := hX2.frozen 5
        go_wp2_with fail
        refine ⟨fun h => (by cases h), ?_⟩
        refine wpM_done (by kernel_rfl) ?_
        have hXV := (((((hX2.set 0 (.string nm)).set 1 (.int .i64 0)).set 2 (.int .i64 (crcN zs : Int))).set 3 (.int .i64 (zs.length : Int))).set 4 (.int .i64 (zs.length : Int))).set 5 (.int .i64 (offN fs pre.length : Int))
        have hbV := (((((hb13.setCell (p := ⟨w1.heap.size, 0, none⟩) (Nat.le_refl _) (.string nm)).setCell (p := ⟨w1.heap.size, 1, none⟩) (Nat.le_refl _) (.int .i64 0)).setCell (p := ⟨w1.heap.size, 2, none⟩) (Nat.le_refl _) (.int .i64 (crcN zs : Int))).setCell (p := ⟨w1.heap.size, 3, none⟩) (Nat.le_refl _) (.int .i64 (zs.length : Int))).setCell (p := ⟨w1.heap.size, 4, none⟩) (Nat.le_refl _) (.int .i64 (zs.length : Int))).setCell (p := ⟨w1.heap.size, 5, none⟩) (Nat.le_refl _) (.int .i64 (offN fs pre.length : Int))
        have hXl : wr.heap.size < w1.heap.size := HR1.out.lt
        generalize (((((w2.setCell ⟨w1.heap.size, 0, none⟩ (.string nm)).setCell ⟨w1.heap.size, 1, none⟩ (.int .i64 0)).setCell ⟨w1.heap.size, 2, none⟩ (.int .i64 (crcN zs : Int))).setCell ⟨w1.heap.size, 3, none⟩ (.int .i64 (zs.length : Int))).setCell ⟨w1.heap.size, 4, none⟩ (.int .i64 (zs.length : Int))).setCell ⟨w1.heap.size, 5, none⟩ (.int .i64 (offN fs pre.length : Int)) = V at hXV hbV ⊢
        have HXV : Hid (Row V w1.heap.size 48 #[.string nm, .int .i64 0, .int .i64 (crcN zs : Int), .int .i64 (zs.length : Int), .int .i64 (zs.length : Int), .int .i64 (offN fs pre.length : Int)]) := hXV
        have HBV : Hid (Below w1.heap.size w1 V) := hbV
        clear hXV hbV hX hX2 hb13 hb12 hb2 x0 x1 x2 x3 x4 x5 y0 y1 y2 y3 y4 y5
        generalize hXe : w1.heap.size = X at HXV hXl ⊢
        clear hXe
        have HXL : Hid _ := hXl
        clear hXl HS
        have hKV : Kept (fun k => k < wr.heap.size) wr V := HK1.out.trans (Kept.of_below HBV.out (fun k (h : k < wr.heap.size) => Nat.lt_of_lt_of_le h HK1.out.size))
        have HKV : Hid _ := hKV
        have HJV : Hid (J pre own V) := HJs.out _ _ _ _ HJ.out (hKV.mono (fun k h => h.1))
        have HON : Hid (∀ k, own k → k < wr.heap.size ∧ ¬ (S k ∨ k = B0 ∨ k = B1)) := fun k h => HJo.out pre own wr k HJ.out h
        have HKW : Hid (Kept (fun k => S k ∨ k = B0 ∨ k = B1) W V) := HK.out.trans (hKV.mono (by
          have h1 := HSZ.out
          have h2 := HK.out.size
          have h3 := HBr.out
          rintro k (h | rfl | rfl)
          · have := hS k h; show k < _; omega
          · exact h3.1
          · exact h3.2))
        have hv0 := HXV.out.cell (i := 0) rfl
        have hv1 := HXV.out.cell (i := 1) rfl
        have hv2 := HXV.out.cell (i := 2) rfl
        have hv3 := HXV.out.cell (i := 3) rfl
        have hv4 := HXV.out.cell (i := 4) rfl
        have hv5 := HXV.out.cell (i := 5) rfl
        obtain ⟨fn, tmps, assign, body, hy, hRd⟩ := HY.out pre pre.length own V HJV.out ⟨rfl, hlt⟩
        simp only [pkE, entA, hf, Fil.dat, Int.natCast_zero] at hy
        clear hKV HJ HK g0 g1
        gi_wp2
        refine ⟨(fun h => by cases h), hRd.mono ?_⟩
        clear hRd hy
        rintro e w9 ⟨rfl, ⟨own', hJ9⟩, hk9⟩
        clear hv0 hv1 hv2 hv3 hv4 hv5
        have hR9 := HXV.out.kept hk9 ⟨HXV.out.lt, fun ho => by have := (HON.out _ ho).1; have := HXL.out; omega⟩
        have HK9 : Hid (Kept (fun k => S k ∨ k = B0 ∨ k = B1) W w9) := HKW.out.trans (hk9.mono (fun k h => ⟨by
          have h1 := HSZ.out
          have h2 := HKW.out.size
          rcases h with h | rfl | rfl
          · have := hS k h; omega
          · omega
          · omega, fun ho => (HON.out k ho).2 h⟩))
        have HJ9 : Hid (J (pre ++ [pre.length]) own' w9) := hJ9
        have hv0 := hR9.cell (i := 0) rfl
        have hv1 := hR9.cell (i := 1) rfl
        have hv2 := hR9.cell (i := 2) rfl
        have hv3 := hR9.cell (i := 3) rfl
        have hv4 := hR9.cell (i := 4) rfl
        have hv5 := hR9.cell (i := 5) rfl
        have HOF : Hid (offN fs pre.length ≤ 100000000) := offN_le' HFW.out.1 hl _ hle
        have HL : Hid (Calls Tryz.prog 19 #[.agg #[.string nm, .int .i64 ((0 : Nat) : Int), .int .i64 (crcN zs : Int), .int .i64 (zs.length : Int), .int .i64 (zs.length : Int), .int .i64 (offN fs pre.length : Int)]] w9 _) := local_any nm 0 (crcN zs) zs.length zs.length (offN fs pre.length) w9 (by omega) (crcN_lt zs) (by have := HOK.out.small; show zs.length < _; simp only at this; omega) (by have := HOK.out.small; simp only at this; omega) (by have := HOK.out.name; simp only at this; omega)
        have HON2 : Hid (offN fs (pre.length + 1) = offN fs pre.length + (30 + nm.size + zs.length)) := by show _ = _; rw [offN, hf]
        have HNM : Hid (nm.size ≤ 65535) := HOK.out.name
        have HZL : Hid (zs.length ≤ 1048576) := HOK.out.small
        clear hk9 hJ9 HXV HBV HKV HJV HON HKW HR1 HK1 HIB HSW HOK hR9
        gi_wp2_with fail
        refine ⟨trivial, (fun h => by cases h), (callsIn_wide.2 HL.out).mono ?_⟩
        clear HL
        rintro e w10 ⟨g', c', rfl, ho10, hb10⟩
        rw [localB_length]
        have HJ10 : Hid (J (pre ++ [pre.length]) own' w10) := HJs.out _ _ _ _ HJ9.out (Kept.of_below hb10 (fun k h => h.1))
        have HK10 : Hid (Kept (fun k => S k ∨ k = B0 ∨ k = B1) W w10) := HK9.out.trans (Kept.of_below hb10 (by
          have h1 := HSZ.out
          have h2 := HK9.out.size
          rintro k (h | rfl | rfl)
          · have := hS k h; omega
          · omega
          · omega))
        have hb1 := HOF.out
        have hb2 := HNM.out
        have hb3 := HZL.out
        clear ho10 hb10 hv0 hv1 hv2 hv3 hv4 hv5 HJ9 HK9
        gi_wp2
        refine ⟨⟨pre ++ [pre.length], own', by simp, ?_, by simp; omega, HJ10, HK10⟩, by simp [intOf]; omega⟩
        rw [List.length_append, List.length_singleton, HON2.out]
        go_num
end Go.Proofs.YtibnafngkcpafaaGreatDoor
