import Derived.Test.YtinbilbgipfemaaDoorFxdM
import Derived.Test.YtinbilbgipfemaaDoorLgt
/- The head that tells the codes of a dynamic block, in memory. -/
namespace Go.Proofs.YtinbilbgipfemaaDoor
open Go.RowKit

theorem bitsN_le' (s : Int) : bitsN s ≤ 7 := by unfold bitsN; split; omega; split; omega; split <;> omega
/-- What a head is made of. -/
structure HeadOf (zl zd : List Int) (H : List Fd) : Prop where
  ex : ∃ ps cl c, H = headL (trimN zl 257 zl.length) (trimN zd 1 zd.length) cl ps ∧ rowT ps [] = some ((zl.take (trimN zl 257 zl.length) ++ zd.take (trimN zd 1 zd.length)).map cln) ∧ Best (frq (ps.map (·.1))) cl 7 c

set_option maxRecDepth 100000 in
set_option maxHeartbeats 6000000 in
theorem codesHead_any (S : Nat → Prop) (la da : Option Addr) (lc dc : Nat) (zl zd : List Int) (w : World) (hS : ∀ k, S k → k < w.heap.size) (hL : IntsIn S w (.slice la zl.length lc) zl) (hD : IntsIn S w (.slice da zd.length dc) zd) (hll : zl.length = 286) (hdl : zd.length = 30) (hlc : zl.length ≤ lc) (hdc : zd.length ≤ dc) (hO : OrdAt w) :
    Calls Tryd.prog 60 #[.slice la zl.length lc, .slice da zd.length dc] w fun e w' => ∃ g c H, e = .returned (.slice g H.length c) ∧ HeadOf zl zd H ∧ w'.ownsRow w.heap.size 79 2 (.slice g H.length c) H.length (fcells H) ∧ Below w.heap.size w w' := by
  obtain ⟨i79, hi79, hz0, hz1, hz2⟩ := info_parts Tryd.info79
  obtain ⟨nl, hnl⟩ : ∃ n, trimN zl 257 zl.length = n := ⟨_, rfl⟩
  obtain ⟨nd, hnd⟩ : ∃ n, trimN zd 1 zd.length = n := ⟨_, rfl⟩
  have hnl1 : 257 ≤ nl := hnl ▸ trimN_ge zl 257 zl.length (by omega)
  have hnl2 : nl ≤ 286 := by have := trimN_le zl 257 zl.length; omega
  have hnd1 : 1 ≤ nd := hnd ▸ trimN_ge zd 1 zd.length (by omega)
  have hnd2 : nd ≤ 30 := by have := trimN_le zd 1 zd.length; omega
  have HEND : Hid (∀ H, (∃ ps cl c, H = headL nl nd cl ps ∧ rowT ps [] = some ((zl.take nl ++ zd.take nd).map cln) ∧ Best (frq (ps.map (·.1))) cl 7 c) → HeadOf zl zd H) := fun H h => ⟨by rw [hnl, hnd]; exact h⟩
  have H1 : Hid (Calls Tryd.prog 77 #[.slice la zl.length lc, .int .i64 257] w fun e w' => e = .returned (.slice la nl lc) ∧ w' = w) := by
    have := trim_any S la lc 257 zl w hL (by omega) (by omega) hlc
    rw [hnl] at this
    exact this
  have H2 : Hid (Calls Tryd.prog 77 #[.slice da zd.length dc, .int .i64 1] w fun e w' => e = .returned (.slice da nd dc) ∧ w' = w) := by
    have := trim_any S da dc 1 zd w hD (by omega) (by omega) hdc
    rw [hnd] at this
    exact this
  obtain ⟨bl, ol, rfl, _, _⟩ := hL.at 0 (by omega)
  obtain ⟨bd, od, rfl, _, _⟩ := hD.at 0 (by omega)
  have hcl : (zl.take nl ++ zd.take nd).length = nl + nd := by rw [List.length_append, List.length_take, List.length_take]; omega
  have H3 : Hid (Calls Tryd.prog 74 #[.slice (some ⟨w.heap.size, 0, none⟩) 2 2] (w.alloc (.cells #[.slice (some ⟨bl, ol, none⟩) nl lc, .slice (some ⟨bd, od, none⟩) nd dc] 40)) fun e w' => ∃ g c, e = .returned (.slice g (nl + nd) c) ∧ IntsIn (fun k => w.heap.size ≤ k ∧ k < w'.heap.size) w' (.slice g (nl + nd) c) (zl.take nl ++ zd.take nd) ∧ Below w.heap.size w w') := by
    have hb0 : Below w.heap.size w (w.alloc (.cells #[.slice (some ⟨bl, ol, none⟩) nl lc, .slice (some ⟨bd, od, none⟩) nd dc] 40)) := (Below.refl _ w).alloc (Nat.le_refl _) _
    have hk0 : Kept S w _ := Kept.of_below hb0 hS
    have hc : catL [((.slice (some ⟨bl, ol, none⟩) nl lc : Value), zl.take nl), (.slice (some ⟨bd, od, none⟩) nd dc, zd.take nd)] = zl.take nl ++ zd.take nd := by simp [catL]
    have := concat_any S w.heap.size 2 [((.slice (some ⟨bl, ol, none⟩) nl lc : Value), zl.take nl), (.slice (some ⟨bd, od, none⟩) nd dc, zd.take nd)] (w.alloc (.cells #[.slice (some ⟨bl, ol, none⟩) nl lc, .slice (some ⟨bd, od, none⟩) nd dc] 40)) (fun k h => by simp; have := hS k h; omega) (Row.new w 40 _) (by
      intro p hp
      simp only [List.mem_cons, List.not_mem_nil, or_false] at hp
      rcases hp with rfl | rfl
      · exact ⟨(hL.take nl (by omega)).kept hk0, bl, ol, lc, by rw [List.length_take, Nat.min_eq_left (by omega)]⟩
      · exact ⟨(hD.take nd (by omega)).kept hk0, bd, od, dc, by rw [List.length_take, Nat.min_eq_left (by omega)]⟩) (by rw [hc, hcl]; omega) (by rw [hc, hcl]; omega) (by simp)
    rw [hc, hcl] at this
    refine Calls.mono this ?_
    rintro e w' ⟨g, c, rfl, ho, hb⟩
    rw [World.size_alloc] at hb ho
    refine ⟨g, c, rfl, ?_, hb0.trans (hb.mono (by omega))⟩
    rw [← hcl] at ho ⊢
    exact IntsIn.of_owns _ ho (fun k hk => ⟨by have := (ho.lt k hk).1; omega, (ho.lt k hk).2⟩)
  have HO : Hid (OrdAt w) := hO
  have HLL : Hid (zl.length = 286 ∧ zd.length = 30) := ⟨hll, hdl⟩
  have HCL : Hid ((zl.take nl ++ zd.take nd).length = nl + nd) := hcl
  clear hL hD hlc hdc hO hnl hnd hll hdl hcl
  go_enter Tryd.func60, Tryd.ntmps60
  go_wp2_with fail
  refine H1.out.mono ?_
  clear H1
  rintro e w' ⟨rfl, hww⟩
  obtain rfl := hww.symm
  go_wp2_with fail
  refine H2.out.mono ?_
  clear H2
  rintro e w'' ⟨rfl, hww⟩
  obtain rfl := hww.symm
  go_wp2_with fail
  refine H3.out.mono ?_
  clear H3
  rintro e w2 ⟨g2, c2, rfl, hI2, hb2⟩
  have H4 : Hid (Calls Tryd.prog 14 #[.slice g2 (nl + nd) c2] w2 fun e w' => Below w2.heap.size w2 w' ∧ ∃ (ps : List (Int × Int)) (v1 v2 : Value), e = .returned (.tuple #[v1, v2]) ∧ OwnInts w2.heap.size w' v1 (ps.map (·.1)) ∧ OwnInts w2.heap.size w' v2 (ps.map (·.2)) ∧ rowT ps [] = some ((zl.take nl ++ zd.take nd).map cln)) := by
    have hI2' := hI2
    rw [← HCL.out] at hI2' ⊢
    exact callsIn_wide.1 (lengths_in g2 c2 (zl.take nl ++ zd.take nd) _ w2 (fun k h => h.2) (by rw [HCL.out]; omega) hI2')
  clear hI2
  go_wp2_with fail
  refine H4.out.mono ?_
  clear H4
  rintro e w3 ⟨hb3, ps, v1, v2, rfl, o1, o2, hrow⟩
  obtain ⟨⟨g1, c1, rfl⟩, o1⟩ := o1
  obtain ⟨⟨g3, c3, rfl⟩, o3⟩ := o2
  have hpl : ps.length ≤ nl + nd := by
    have := rowT_more hrow
    rw [List.length_map, HCL.out] at this
    simpa using this
  have HPS : Hid (∀ p ∈ ps, 0 ≤ p.1 ∧ p.1 ≤ 18 ∧ 0 ≤ p.2 ∧ p.2 < 2 ^ bitsN p.1) := rowT_ok hrow
  have HRW : Hid (rowT ps [] = some ((zl.take nl ++ zd.take nd).map cln)) := hrow
  have s2 := hb2.size
  have s3 := hb3.size
  have hB3 : Below w.heap.size w w3 := hb2.trans (hb3.mono s2)
  have HI1 : Hid (IntsIn (fun k => w2.heap.size ≤ k ∧ k < w3.heap.size) w3 (.slice g1 ps.length c1) (ps.map (·.1))) := by
    have := IntsIn.of_owns (fun k => w2.heap.size ≤ k ∧ k < w3.heap.size) o1 (fun k hk => o1.lt k hk)
    rw [List.length_map] at this
    exact this
  have HI3 : Hid (IntsIn (fun k => w2.heap.size ≤ k ∧ k < w3.heap.size) w3 (.slice g3 ps.length c3) (ps.map (·.2))) := by
    have := IntsIn.of_owns (fun k => w2.heap.size ≤ k ∧ k < w3.heap.size) o3 (fun k hk => o3.lt k hk)
    rw [List.length_map] at this
    exact this
  simp only [List.length_map]
  have hmk : ∀ W : World, (Instr.makeSlice 40 (.int .i64 19) (.int .i64 19)).run Tryd.prog W = .ok (.slice (some ⟨W.heap.size, 0, none⟩) 19 19) (W.alloc (.cells (madeCells #[.int .i64 0] 19) 3)) := fun W => run_make_row' (P := Tryd.prog) 40 3 (.int .i64 0) 8 Tryd.underlying40 Tryd.info3' rfl .i64 .i64 19 (by omega) (by omega) W
  generalize hw4 : w3.alloc (.cells (madeCells #[.int .i64 0] 19) 3) = w4
  have r4 : Row w4 w3.heap.size 3 ((frq []).map (Value.int .i64)).toArray := by
    subst hw4
    have e : madeCells #[.int .i64 0] 19 = ((frq []).map (Value.int .i64)).toArray := by rw [made_repC 19 0]; rfl
    rw [e]
    exact Row.new w3 3 _
  have hb4 : Below w3.heap.size w3 w4 := by subst hw4; exact (Below.refl _ w3).alloc (Nat.le_refl _) _
  clear hrow o1 o3
  go_wp2_with fail
  clear hmk hw4
  go_loopw [32] (fun v32 wr => ∃ k : Nat, k ≤ ps.length ∧ v32 = .int .i64 (k : Int) ∧ Row wr w3.heap.size 3 ((frq ((ps.take k).map (·.1))).map (Value.int .i64)).toArray ∧ Below w3.heap.size w3 wr) (fun v32 _ => ps.length - (intOf v32).toNat)
  case atStart => exact ⟨0, by omega, rfl, r4, hb4⟩
  case round =>
    clear r4 hb4
    obtain ⟨k, hk, rfl, hR, hB⟩ := hrel
    by_cases hlt : k < ps.length
    · obtain ⟨⟨s, x⟩, hp⟩ : ∃ p, ps[k]? = some p := ⟨_, List.getElem?_eq_getElem hlt⟩
      have hok := HPS.out (s, x) (List.mem_of_getElem? hp)
      obtain ⟨b, off, rfl, hbS, hc⟩ := (HI1.out.kept (Kept.of_below hB (fun k h => h.2))).at k (by rw [List.length_map]; exact hlt)
      obtain ⟨sn, hsn⟩ : ∃ sn : Nat, s = (sn : Int) := ⟨s.toNat, by have := hok.1; omega⟩
      subst hsn
      have hc' : wr.cell? ⟨b, off + k, none⟩ = some (.int .i64 (sn : Int)) := by rw [hc]; simp [hp]
      have hs18 : sn ≤ 18 := by have := hok.2.1; omega
      have HT : Hid (frq ((ps.take (k + 1)).map (·.1)) = addAt (frq ((ps.take k).map (·.1))) sn 1) := by show _ = _; rw [take_snoc hp, List.map_append, List.map_cons, List.map_nil, frq_snoc]; rfl
      have hup := frq_upto ((ps.take k).map (·.1)) sn
      have hln := frq_length ((ps.take k).map (·.1))
      rw [List.length_map, List.length_take] at hup
      generalize frq ((ps.take k).map (·.1)) = f at HT hR hup hln
      have hcf := row_int_cell hR sn (by omega)
      have hff := hR.frozen sn
      have hRn := row_set_int hR sn (f[sn]?.getD 0 + 1)
      have HRN : Hid (Row (wr.setCell ⟨w3.heap.size, sn, none⟩ (.int .i64 (f[sn]?.getD 0 + 1))) w3.heap.size 3 ((addAt f sn 1).map (Value.int .i64)).toArray ∧ Below w3.heap.size w3 (wr.setCell ⟨w3.heap.size, sn, none⟩ (.int .i64 (f[sn]?.getD 0 + 1)))) := ⟨hRn, hB.setCell (p := ⟨w3.heap.size, sn, none⟩) (Nat.le_refl _) _⟩
      generalize f[sn]?.getD 0 = fv at hcf hup HRN
      have hw1 : IntKind.i64.wrap (fv + 1) = fv + 1 := by simp [IntKind.wrap, IntKind.bits, IntKind.signed]; omega
      have hbF : b ≠ w3.heap.size := by omega
      clear hc hR hB hRn hp hok hup
      go_wp2
      refine ⟨⟨k + 1, by omega, by go_num, ?_, HRN.out.2⟩, by simp [intOf]; omega⟩
      rw [HT.out]
      exact HRN.out.1
    · obtain rfl : k = ps.length := by omega
      rw [List.take_length] at hR
      have hln := frq_length (ps.map (·.1))
      have hup := upto_mem (frq_upto (ps.map (·.1))) (by rw [List.length_map]; omega)
      have s4 := hB.size
      have H5 : Hid (Calls Tryd.prog 59 #[.slice (some ⟨w3.heap.size, 0, none⟩) 19 19, .int .i64 7] wr fun e w' => ∃ GL ls c, e = .returned (.slice (some ⟨GL, 0, none⟩) 19 19) ∧ Best (frq (ps.map (·.1))) ls 7 c ∧ Row w' GL 3 (intsV ls) ∧ Below wr.heap.size wr w' ∧ wr.heap.size ≤ GL) := by
        have := fitting_any (fun k => k = w3.heap.size) (some ⟨w3.heap.size, 0, none⟩) 19 7 (frq (ps.map (·.1))) wr (fun k h => by rw [h]; exact hR.lt) (IntsIn.of_row hR rfl) (by omega) (by omega) (by omega) hup (by omega)
        rw [hln] at this
        exact this
      have hBw : Below w.heap.size w wr := hB3.trans (hB.mono (by omega))
      clear hR hup hln
      go_wp2_with fail
      refine H5.out.mono ?_
      clear H5
      rintro e w5 ⟨GC, cl, cc, rfl, hBest, hRc, hb5, -⟩
      obtain ⟨T, hTdef⟩ : ∃ T : Nat → Prop, T = fun k => k < w.heap.size ∨ (w2.heap.size ≤ k ∧ k < w3.heap.size) ∨ k = GC := ⟨_, rfl⟩
      have hGC := hRc.lt
      have s5 := hb5.size
      have hT5 : ∀ k, T k → k < w5.heap.size := by
        rw [hTdef]
        rintro k (h | h | h)
        · have := hBw.size; omega
        · omega
        · omega
      have hB5 : Below w.heap.size w w5 := hBw.trans (hb5.mono hBw.size)
      have hk35 : Kept (fun k => w2.heap.size ≤ k ∧ k < w3.heap.size) w3 w5 := (Kept.of_below hB (fun k h => h.2)).trans (Kept.of_below hb5 (fun k h => by omega))
      have HT1 : Hid (IntsIn T w5 (.slice g1 ps.length c1) (ps.map (·.1))) := (HI1.out.kept hk35).mono (fun k h => by rw [hTdef]; exact .inr (.inl h))
      have HT3 : Hid (IntsIn T w5 (.slice g3 ps.length c3) (ps.map (·.2))) := (HI3.out.kept hk35).mono (fun k h => by rw [hTdef]; exact .inr (.inl h))
      have hT0 : T 0 := by rw [hTdef]; exact .inl HO.out.1
      have hTG : T GC := by rw [hTdef]; exact .inr (.inr rfl)
      have hTw : ∀ k, k < w.heap.size → T k := fun k h => by rw [hTdef]; exact .inl h
      have HO5 : Hid (OrdAt w5) := HO.out.kept (Kept.of_below (S := fun k => k < w.heap.size) hB5 (fun _ h => h)) HO.out.1
      have hclen : cl.length = 19 := by have := hBest.len; rw [frq_length] at this; exact this
      have hctop : ∀ i : Nat, 0 ≤ cl[i]?.getD 0 ∧ cl[i]?.getD 0 ≤ 7 := fun i => by
        by_cases h : i < 19
        · have := hBest.top i (by rw [frq_length]; exact h)
          omega
        · rw [List.getElem?_eq_none (by omega)]
          simp
      have HBest : Hid (Best (frq (ps.map (·.1))) cl 7 cc) := hBest
      have HRC : Hid (Row w5 GC 3 (cl.map (Value.int .i64)).toArray) := hRc
      have HB5 : Hid (Below w.heap.size w w5) := hB5
      have HTd : Hid (T = fun k => k < w.heap.size ∨ (w2.heap.size ≤ k ∧ k < w3.heap.size) ∨ k = GC) := hTdef
      have HCLN : Hid (cl.length = 19) := hclen
      have HCTP : Hid (∀ i : Nat, 0 ≤ cl[i]?.getD 0 ∧ cl[i]?.getD 0 ≤ 7) := hctop
      have HS2 : Hid (w.heap.size ≤ w2.heap.size ∧ w3.heap.size ≤ w5.heap.size) := ⟨s2, by show _ ≤ _; omega⟩
      obtain ⟨M, HM⟩ : ∃ M, Hid (manyN cl 19 = M) := ⟨_, rfl⟩
      have hM1 : M ≤ 19 := by have := manyN_le cl 19; have := HM.out; omega
      have hM2 : 4 ≤ M := by have := manyN_ge cl 19 (by omega); have := HM.out; omega
      clear hTdef hRc hb5 hB hBw hB5 hk35 hBest hclen hctop HI1 HI3 HO hlt hk hB3 s2 s3 s4 s5 hb2 hb3 hGC
      clear wr
      go_wp2
      go_loopw [11] (fun v11 wr => ∃ m : Nat, m ≤ 19 ∧ v11 = .int .i64 (m : Int) ∧ Hid (manyN cl m = M) ∧ wr = w5) (fun v11 _ => (intOf v11).toNat)
      case atStart => exact ⟨19, Nat.le_refl _, rfl, HM, rfl⟩
      case round =>
        obtain ⟨m, hm, rfl, HE, hwr⟩ := hrel
        rw [hwr]
        clear hwr
        by_cases h4 : 4 < m
        · obtain ⟨k, rfl⟩ : ∃ k, m = k + 1 := ⟨m - 1, by omega⟩
          have cO := HO5.out.2 k (by omega)
          have ho := ordI_lt k
          have cG := row_int_cell HRC.out (ordI k) (by rw [HCLN.out]; exact ho)
          have HT : Hid (manyN cl (k + 1) = if 4 < k + 1 ∧ cl[ordI k]?.getD 0 = 0 then manyN cl k else k + 1) := rfl
          generalize cl[ordI k]?.getD 0 = z at cG HT
          generalize ordI k = o at cO ho cG
          have t1 : (4 : Int) < ((k + 1 : Nat) : Int) := by omega
          have hsub : IntKind.i64.wrap (((k + 1 : Nat) : Int) - 1) = (k : Int) := by simp [IntKind.wrap, IntKind.bits, IntKind.signed]; omega
          by_cases hz : z = 0
          · have HE2 : Hid (manyN cl k = M) := by show _ = _; rw [← HE.out, HT.out, if_pos ⟨h4, hz⟩]
            have t2 : (z == 0) = true := by simpa using hz
            clear HE HT hz
            go_wp2
            exact ⟨⟨k, by omega, by go_num, HE2, by first | rfl | trivial⟩, by simp [intOf]⟩
          · have HE2 : Hid (k + 1 = M) := by show _ = _; rw [← HE.out, HT.out, if_neg (fun h => hz h.2)]
            have t2 : (z == 0) = false := by simpa using hz
            clear HE HT hz
            rw [HE2.out] at t1 hsub ⊢
            clear HE2
            have hcA : (nl : Int) - 257 = ((nl - 257 : Nat) : Int) := by omega
            have hcB : (nd : Int) - 1 = ((nd - 1 : Nat) : Int) := by omega
            have hcC : (M : Int) - 4 = ((M - 4 : Nat) : Int) := by omega
            generalize hw6 : w5.alloc (.cells #[.int .u32 ((nl - 257 : Nat) : Int), .int .i64 5, .int .u32 ((nd - 1 : Nat) : Int), .int .i64 5, .int .u32 ((M - 4 : Nat) : Int), .int .i64 4] 79) = w6
            have r6 : Row w6 w5.heap.size 79 (fcells (head3 nl nd M)).toArray := by subst hw6; exact Row.new w5 79 _
            have hk6 : Kept T w5 w6 := by subst hw6; exact (Kept.refl _ w5).alloc hT5 _
            have hH6 : HeadAt T w.heap.size w6 (.slice (some ⟨w5.heap.size, 0, none⟩) 3 3) (head3 nl nd M ++ lenLs cl 0) := ⟨⟨_, _, rfl⟩, ⟨rfl, .inr ⟨w5.heap.size, 3, _, rfl, HB5.out.size, r6, by simp [head3, lenLs], by unfold maxLen; omega, rfl, rfl⟩⟩, fun k hk ht => by
              have := hT5 k ht
              simp [Value.ownBlock] at hk
              omega⟩
            clear r6
            go_wp2_with fail
            clear hw6 hcA hcB hcC
            go_loopw [12, 75] (fun v12 v75 wr => ∃ k : Nat, k ≤ M ∧ v75 = .int .i64 (k : Int) ∧ HeadAt T w.heap.size wr v12 (head3 nl nd M ++ lenLs cl k) ∧ Kept T w5 wr) (fun _ v75 _ => M - (intOf v75).toNat)
            case atStart => exact ⟨0, by omega, rfl, hH6, hk6⟩
            case round =>
              clear hH6 hk6
              obtain ⟨k, hk, rfl, hH, hK⟩ := hrel
              by_cases hlt : k < M
              · have cO := (hK.cell (p := ⟨0, k, none⟩) hT0).trans (HO5.out.2 k (by omega))
                have ho := ordI_lt k
                have cG := (hK.cell (p := ⟨GC, ordI k, none⟩) hTG).trans (row_int_cell HRC.out (ordI k) (by rw [HCLN.out]; exact ho))
                have hz := HCTP.out (ordI k)
                have HL : Hid (lenLs cl (k + 1) = lenLs cl k ++ [((cl[ordI k]?.getD 0).toNat, 3)]) := lenLs_succ cl k
                obtain ⟨z, hzz⟩ : ∃ z : Nat, cl[ordI k]?.getD 0 = (z : Int) := ⟨(cl[ordI k]?.getD 0).toNat, by omega⟩
                rw [hzz] at cG hz HL
                rw [Int.toNat_natCast] at HL
                generalize ordI k = o at cO ho cG
                obtain ⟨⟨gv, cv, rfl⟩, hown, hnT⟩ := hH
                have hll : (head3 nl nd M ++ lenLs cl k).length ≤ 22 := by simp [head3, lenLs]; omega
                have HE : Hid (head3 nl nd M ++ lenLs cl (k + 1) = (head3 nl nd M ++ lenLs cl k) ++ [(z, 3)]) := by show _ = _; rw [HL.out, List.append_assoc]
                generalize head3 nl nd M ++ lenLs cl k = fs at hown hll hnT HE
                have hTr : ∀ q, T q → q < wr.heap.size := fun q h => Nat.lt_of_lt_of_le (hT5 q h) hK.size
                have hbw : w.heap.size ≤ wr.heap.size := Nat.le_trans HB5.out.size hK.size
                have HNW : Hid (∀ (j : Nat) (u : Value), (fcells [(z, 3)])[j]? = some u → (wr.alloc (.cells #[.int .u32 (z : Int), .int .i64 3] 79)).cell? ((⟨wr.heap.size, 0, none⟩ : Addr).add j) = some u) := by
                  intro j u hu
                  have hR := Row.new wr 79 #[.int .u32 (z : Int), .int .i64 3]
                  have h := hR.cell (i := j) (v := u) (by simpa [fcells] using hu)
                  rw [Go.WideShapes.add_plain]
                  simpa using h
                clear hzz HL
                go_wp2_with (at_builtin; refine wpList_append_own2 _ rfl (.tmp 78) (.tmp 87) 104 rfl w.heap.size 79 i79 (.agg #[.int .u32 0, .int .i64 0]) 2 16 Tryd.underlying104 hi79 hz0 hz1 hz2 rfl (by decide) _ _ _ rfl (hown.alloc _) ⟨wr.heap.size, 0, none⟩ 1 1 (fcells [(z, 3)]) rfl rfl HNW.out (by simp [fcells, Value.oneCell']) (by unfold maxLen; omega) (by omega) (by simp; omega) ?_)
                intro v' w3' hown' hgrow hblk
                have hK3 : Kept T w5 w3' := hK.trans (((Kept.refl T wr).alloc hTr _).grown hgrow (fun q h => by simp; have := hTr q h; omega) hnT)
                have hnT' : ∀ q, v'.ownBlock = some q → ¬ T q := fun q hq ht => by
                  rcases hblk q hq with h | h
                  · exact hnT q h ht
                  · have := hTr q ht; first | omega | (simp at h; omega)
                obtain ⟨g', c', rfl⟩ := owns_form hown'
                clear HNW hown hgrow hblk hK
                go_wp2
                refine ⟨⟨k + 1, by omega, by go_num, ?_, hK3⟩, by simp [intOf]; omega⟩
                rw [HE.out]
                refine ⟨⟨g', c', by simp⟩, ?_, hnT'⟩
                rw [List.length_append, fcells_append]
                exact hown'
              · obtain rfl : k = M := by omega
                have hTr : ∀ q, T q → q < wr.heap.size := fun q h => Nat.lt_of_lt_of_le (hT5 q h) hK.size
                have hrC : Row wr GC 3 (cl.map (Value.int .i64)).toArray := HRC.out.kept hK hTG
                have H7 : Hid (Calls Tryd.prog 73 #[.slice (some ⟨GC, 0, none⟩) 19 19] wr fun e w' => ∃ G, e = .returned (.slice (some ⟨G, 0, none⟩) 19 19) ∧ wr.heap.size ≤ G ∧ Row w' G 79 (fcells (codesF cl)).toArray ∧ Below wr.heap.size wr w') := by
                  have := newCodes_any T (some ⟨GC, 0, none⟩) 19 cl wr hTr (IntsIn.of_row hrC hTG) HBest.out.right (by rw [HCLN.out]; omega) (fun i => by have := HCTP.out i; omega)
                  rw [HCLN.out] at this
                  exact this
                clear hrC
                go_wp2_with fail
                refine H7.out.mono ?_
                clear H7
                rintro e w8 ⟨GW, rfl, hGW, hRW, hb8⟩
                obtain ⟨T4, hT4def⟩ : ∃ T4 : Nat → Prop, T4 = fun q => T q ∨ q = GW := ⟨_, rfl⟩
                have hH8 : HeadAt T4 w.heap.size w8 u12 (head3 nl nd k ++ lenLs cl k ++ psF cl []) := by
                  obtain ⟨h1, h2, h3⟩ := hH
                  have e : head3 nl nd k ++ lenLs cl k ++ psF cl [] = head3 nl nd k ++ lenLs cl k := by simp [psF]
                  rw [e]
                  refine ⟨h1, owns_kept (S := fun q => q < wr.heap.size) h2 (Kept.of_below hb8 (fun _ h => h)) (fun q hq => (h2.lt q hq).2), fun q hq => ?_⟩
                  rw [hT4def]
                  rintro (h | h)
                  · exact h3 q hq h
                  · have := (h2.lt q hq).2; omega
                have hK8 : Kept T w5 w8 := hK.trans (Kept.of_below hb8 hTr)
                have hT48 : ∀ q, T4 q → q < w8.heap.size := by
                  rw [hT4def]
                  rintro q (h | h)
                  · exact Nat.lt_of_lt_of_le (hT5 q h) hK8.size
                  · rw [h]; exact hRW.lt
                have hTT : ∀ q, T q → T4 q := fun q h => by rw [hT4def]; exact .inl h
                have hTW : T4 GW := by rw [hT4def]; exact .inr rfl
                have HJ1 : Hid (IntsIn T4 w8 (.slice g1 ps.length c1) (ps.map (·.1))) := (HT1.out.kept hK8).mono hTT
                have HJ3 : Hid (IntsIn T4 w8 (.slice g3 ps.length c3) (ps.map (·.2))) := (HT3.out.kept hK8).mono hTT
                have HRW8 : Hid (Row w8 GW 79 (fcells (codesF cl)).toArray) := hRW
                have HB8 : Hid (Below w.heap.size w w8) := HB5.out.trans ((hK8.mono (fun q h => hTw q h)).below (fun _ h => h))
                clear hT4def hH hK hRW hb8 hTr hK8 hGW
                clear wr
                go_wp2
                go_loopw [12, 94] (fun v12 v94 wr => ∃ j : Nat, j ≤ ps.length ∧ v94 = .int .i64 (j : Int) ∧ HeadAt T4 w.heap.size wr v12 (head3 nl nd k ++ lenLs cl k ++ psF cl (ps.take j)) ∧ Kept T4 w8 wr) (fun _ v94 _ => ps.length - (intOf v94).toNat)
                case atStart => exact ⟨0, by omega, rfl, hH8, Kept.refl _ _⟩
                case round =>
                  clear hH8
                  obtain ⟨j, hj, rfl, hH, hK⟩ := hrel
                  by_cases hlt : j < ps.length
                  · obtain ⟨⟨s, x⟩, hp⟩ : ∃ p, ps[j]? = some p := ⟨_, List.getElem?_eq_getElem hlt⟩
                    have hok := HPS.out (s, x) (List.mem_of_getElem? hp)
                    obtain ⟨b1, o1, rfl, hb1, e1⟩ := (HJ1.out.kept hK).at j (by rw [List.length_map]; exact hlt)
                    obtain ⟨b3, o3, rfl, hb3, e3⟩ := (HJ3.out.kept hK).at j (by rw [List.length_map]; exact hlt)
                    obtain ⟨sn, rfl⟩ : ∃ sn : Nat, s = (sn : Int) := ⟨s.toNat, by have := hok.1; simp only at this; omega⟩
                    obtain ⟨xn, rfl⟩ : ∃ xn : Nat, x = (xn : Int) := ⟨x.toNat, by have := hok.2.2.1; simp only at this; omega⟩
                    have hs18 : sn ≤ 18 := by have := hok.2.1; simp only at this; omega
                    have hbN := bitsN_le' (sn : Int)
                    have hx128 : xn < 128 := by
                      have h1 := hok.2.2.2
                      simp only at h1
                      have h2 : (2 : Int) ^ bitsN (sn : Int) ≤ 2 ^ 7 := by
                        have := Nat.pow_le_pow_right (n := 2) (by omega) hbN
                        exact_mod_cast this
                      omega
                    replace e1 : wr.cell? ⟨b1, o1 + j, none⟩ = some (.int .i64 (sn : Int)) := by rw [e1]; simp [hp]
                    replace e3 : wr.cell? ⟨b3, o3 + j, none⟩ = some (.int .i64 (xn : Int)) := by rw [e3]; simp [hp]
                    obtain ⟨⟨cd, cw⟩, hcf⟩ : ∃ f, (codesF cl)[sn]?.getD (0, 0) = f := ⟨_, rfl⟩
                    have hcfl : sn < (codesF cl).length := by rw [codesF_length, HCLN.out]; omega
                    have gW := fcells_at (codesF cl) sn (cd, cw) (by rw [← hcf, List.getElem?_eq_getElem hcfl]; rfl)
                    have gw0 : wr.cell? ⟨GW, sn * 2, none⟩ = some (.int .u32 (cd : Int)) := (hK.cell (p := ⟨GW, sn * 2, none⟩) hTW).trans (HRW8.out.cell (by simpa using gW.1))
                    have gw1 : wr.cell? ⟨GW, sn * 2 + 1, none⟩ = some (.int .i64 (cw : Int)) := (hK.cell (p := ⟨GW, sn * 2 + 1, none⟩) hTW).trans (HRW8.out.cell (by simpa using gW.2))
                    have HRB : Hid (Calls Tryd.prog 28 #[.int .i64 (sn : Int)] wr.drew fun e w' => e = .returned (.int .i64 (bitsN (sn : Int) : Int)) ∧ w' = wr.drew) := runBits_any (sn : Int) wr.drew
                    have HE : Hid (head3 nl nd k ++ lenLs cl k ++ psF cl (ps.take (j + 1)) = (head3 nl nd k ++ lenLs cl k ++ psF cl (ps.take j)) ++ [(cd, cw), (xn, bitsN (sn : Int))]) := by
                      show _ = _
                      rw [take_snoc hp, psF_snoc, ← hcf]
                      simp only [Int.toNat_natCast, List.append_assoc]
                    obtain ⟨⟨gv, cv, rfl⟩, hown, hnT⟩ := hH
                    have hll : (head3 nl nd k ++ lenLs cl k ++ psF cl (ps.take j)).length ≤ 22 + 2 * ps.length := by
                      have : ∀ l : List (Int × Int), (psF cl l).length = 2 * l.length := by
                        intro l
                        induction l with
                        | nil => rfl
                        | cons y ys ih =>
                          have e : psF cl (y :: ys) = [(codesF cl)[y.1.toNat]?.getD (0, 0), (y.2.toNat, bitsN y.1)] ++ psF cl ys := rfl
                          rw [e, List.length_append, ih]
                          simp only [List.length_cons, List.length_nil]
                          omega
                      rw [List.length_append, List.length_append, this, List.length_take]
                      simp only [head3, lenLs, List.length_cons, List.length_nil, List.length_map, List.length_range]
                      omega
                    generalize head3 nl nd k ++ lenLs cl k ++ psF cl (ps.take j) = fs at hown hll hnT HE
                    generalize bitsN (sn : Int) = bn at HRB HE hbN
                    have hTr : ∀ q, T4 q → q < wr.heap.size := fun q h => Nat.lt_of_lt_of_le (hT48 q h) hK.size
                    have hbw : w.heap.size ≤ wr.heap.size := Nat.le_trans HB8.out.size hK.size
                    have HNW : Hid (∀ (i : Nat) (u : Value), (fcells [(cd, cw), (xn, bn)])[i]? = some u → (wr.drew.alloc (.cells #[.int .u32 (cd : Int), .int .i64 (cw : Int), .int .u32 (xn : Int), .int .i64 (bn : Int)] 79)).cell? ((⟨wr.heap.size, 0, none⟩ : Addr).add i) = some u) := by
                      intro i u hu
                      have hR := Row.new wr.drew 79 #[.int .u32 (cd : Int), .int .i64 (cw : Int), .int .u32 (xn : Int), .int .i64 (bn : Int)]
                      have h := hR.cell (i := i) (v := u) (by simpa [fcells] using hu)
                      rw [Go.WideShapes.add_plain]
                      simpa using h
                    have t19 : (sn : Int) < 19 := by omega
                    have hwx : IntKind.u32.wrap (xn : Int) = (xn : Int) := by simp [IntKind.wrap, IntKind.bits, IntKind.signed]; omega
                    clear hcf gW hok hp hcfl
                    go_wp2_with fail
                    refine wp_region_M (fun wx : World => wx = wr.drew) (fun j => decide (0 < j ∧ j < 13)) 16 rfl (by kernel_rfl) ?_
                    have HD : wr.drew = wr.drew := rfl
                    refine wpM_free 0 (v := ?_) rfl (by kernel_rfl) (by kernel_rfl) rfl (fun _ _ _ h => h) rfl (by intro wx; go_simp <;> rfl) ?_
                    refine wpM_held 1 (v := ?_) rfl (by kernel_rfl) (by kernel_rfl) rfl (fun _ _ _ h => h) rfl (by rintro wx rfl; go_simp <;> rfl) HD ?_
                    refine wpM_held 2 (v := ?_) rfl (by kernel_rfl) (by kernel_rfl) rfl (fun _ _ _ h => h) rfl (by rintro wx rfl; go_simp <;> rfl) HD ?_
                    refine wpM_held 3 (v := .pointer (some ⟨GW, sn * 2, none⟩)) rfl (by kernel_rfl) (by kernel_rfl) rfl (fun _ _ _ h => h) rfl (by rintro wx rfl; go_simp <;> rfl) HD ?_
                    refine wpM_held 4 (v := .agg #[.int .u32 (cd : Int), .int .i64 (cw : Int)]) rfl (by kernel_rfl) (by kernel_rfl) rfl (fun _ _ _ h => h) rfl (by rintro wx rfl; go_simp <;> rfl) HD ?_
                    refine wpM_held 5 (v := ?_) rfl (by kernel_rfl) (by kernel_rfl) rfl (fun _ _ _ h => h) rfl (by rintro wx rfl; go_simp <;> rfl) HD ?_
                    refine wpM_held 6 (v := ?_) rfl (by kernel_rfl) (by kernel_rfl) rfl (fun _ _ _ h => h) rfl (by rintro wx rfl; go_simp <;> rfl) HD ?_
                    refine wpM_held 7 (v := .pointer (some ⟨b3, o3 + j, none⟩)) rfl (by kernel_rfl) (by kernel_rfl) rfl (fun _ _ _ h => h) rfl (by rintro wx rfl; go_simp <;> rfl) HD ?_
                    refine wpM_held 8 (v := .int .i64 (xn : Int)) rfl (by kernel_rfl) (by kernel_rfl) rfl (fun _ _ _ h => h) rfl (by rintro wx rfl; go_simp <;> rfl) HD ?_
                    refine wpM_held 9 (v := .int .u32 (xn : Int)) rfl (by kernel_rfl) (by kernel_rfl) rfl (fun _ _ _ h => h) rfl (by rintro wx rfl; go_simp <;> rfl) HD ?_
                    refine wpM_held 10 (v := ?_) rfl (by kernel_rfl) (by kernel_rfl) rfl (fun _ _ _ h => h) rfl (by rintro wx rfl; go_simp <;> rfl) HD ?_
                    refine wpM_one 11 rfl (by kernel_rfl) rfl ?_
                    go_wp2_with fail
                    refine HRB.out.mono ?_
                    clear HRB
                    rintro e w' ⟨rfl, hww⟩
                    obtain rfl := hww.symm
                    go_wp2_with fail
                    refine ⟨fun _ => rfl, ?_⟩
                    refine wpM_one 12 rfl (by kernel_rfl) rfl ?_
                    go_wp2_with fail
                    refine ⟨fun _ => rfl, ?_⟩
                    refine wpM_one 13 rfl (by kernel_rfl) rfl ?_
                    go_wp2_with fail
                    refine ⟨(fun h => by simp at h), ?_⟩
                    refine wpM_one 14 rfl (by kernel_rfl) rfl ?_
                    refine wpList_append_own2 _ rfl (.tmp 99) (.tmp 112) 104 rfl w.heap.size 79 i79 (.agg #[.int .u32 0, .int .i64 0]) 2 16 Tryd.underlying104 hi79 hz0 hz1 hz2 rfl (by decide) _ _ _ rfl (hown.alloc _) ⟨wr.heap.size, 0, none⟩ 2 2 (fcells [(cd, cw), (xn, bn)]) rfl rfl HNW.out (by simp [fcells, Value.oneCell']) (by unfold maxLen; omega) (by omega) (by simp; omega) ?_
                    intro v' w9 hown' hgrow hblk
                    have hK3 : Kept T4 w8 w9 := hK.trans (((Kept.refl T4 wr).drew.alloc hTr _).grown hgrow (fun q h => by simp; have := hTr q h; omega) hnT)
                    have hnT' : ∀ q, v'.ownBlock = some q → ¬ T4 q := fun q hq ht => by
                      rcases hblk q hq with h | h
                      · exact hnT q h ht
                      · have := hTr q ht; first | omega | (simp at h; omega)
                    obtain ⟨g', c', rfl⟩ := owns_form hown'
                    clear HNW hown hgrow hblk hK
                    go_wp2_with fail
                    refine ⟨(fun h => by simp at h), ?_⟩
                    refine wpM_one 15 rfl (by kernel_rfl) rfl ?_
                    go_wp2_with fail
                    refine ⟨(fun h => by simp at h), ?_⟩
                    refine wpM_done (by kernel_rfl) ?_
                    go_wp2
                    refine ⟨⟨j + 1, by omega, by go_num, ?_, hK3⟩, by simp [intOf]; omega⟩
                    rw [HE.out]
                    refine ⟨⟨g', c', by simp⟩, ?_, hnT'⟩
                    rw [List.length_append, fcells_append]
                    exact hown'
                  · obtain rfl : j = ps.length := by omega
                    rw [List.take_length] at hH
                    obtain ⟨⟨gv, cv, rfl⟩, hown, hnT⟩ := hH
                    have HF : Hid (HeadOf zl zd (head3 nl nd k ++ lenLs cl k ++ psF cl ps)) := HEND.out _ ⟨ps, cl, cc, by rw [headL, HM.out], HRW.out, HBest.out⟩
                    have HG : Hid (wr.ownsRow w.heap.size 79 2 (.slice gv (head3 nl nd k ++ lenLs cl k ++ psF cl ps).length cv) (head3 nl nd k ++ lenLs cl k ++ psF cl ps).length (fcells (head3 nl nd k ++ lenLs cl k ++ psF cl ps)) ∧ Below w.heap.size w wr) := ⟨hown, HB8.out.trans ((hK.mono (fun q h => hTT q (hTw q h))).below (fun _ h => h))⟩
                    generalize head3 nl nd k ++ lenLs cl k ++ psF cl ps = fs at HF HG ⊢
                    clear hown hK hnT
                    go_wp2
                    go_ret
                    exact ⟨gv, cv, fs, rfl, HF.out, HG.out.1, HG.out.2⟩

        · have hmM : m = M := by
            rw [← HE.out]
            cases m with
            | zero => rfl
            | succ m => rw [manyN, if_neg (fun h => h4 h.1)]
          have t1 : ¬ (4 : Int) < (M : Int) := by omega
          rw [hmM]
          clear HE hmM h4 hm
          have hcA : (nl : Int) - 257 = ((nl - 257 : Nat) : Int) := by omega
          have hcB : (nd : Int) - 1 = ((nd - 1 : Nat) : Int) := by omega
          have hcC : (M : Int) - 4 = ((M - 4 : Nat) : Int) := by omega
          generalize hw6 : w5.alloc (.cells #[.int .u32 ((nl - 257 : Nat) : Int), .int .i64 5, .int .u32 ((nd - 1 : Nat) : Int), .int .i64 5, .int .u32 ((M - 4 : Nat) : Int), .int .i64 4] 79) = w6
          have r6 : Row w6 w5.heap.size 79 (fcells (head3 nl nd M)).toArray := by subst hw6; exact Row.new w5 79 _
          have hk6 : Kept T w5 w6 := by subst hw6; exact (Kept.refl _ w5).alloc hT5 _
          have hH6 : HeadAt T w.heap.size w6 (.slice (some ⟨w5.heap.size, 0, none⟩) 3 3) (head3 nl nd M ++ lenLs cl 0) := ⟨⟨_, _, rfl⟩, ⟨rfl, .inr ⟨w5.heap.size, 3, _, rfl, HB5.out.size, r6, by simp [head3, lenLs], by unfold maxLen; omega, rfl, rfl⟩⟩, fun k hk ht => by
            have := hT5 k ht
            simp [Value.ownBlock] at hk
            omega⟩
          clear r6
          go_wp2_with fail
          clear hw6 hcA hcB hcC
          go_loopw [12, 75] (fun v12 v75 wr => ∃ k : Nat, k ≤ M ∧ v75 = .int .i64 (k : Int) ∧ HeadAt T w.heap.size wr v12 (head3 nl nd M ++ lenLs cl k) ∧ Kept T w5 wr) (fun _ v75 _ => M - (intOf v75).toNat)
          case atStart => exact ⟨0, by omega, rfl, hH6, hk6⟩
          case round =>
            clear hH6 hk6
            obtain ⟨k, hk, rfl, hH, hK⟩ := hrel
            by_cases hlt : k < M
            · have cO := (hK.cell (p := ⟨0, k, none⟩) hT0).trans (HO5.out.2 k (by omega))
              have ho := ordI_lt k
              have cG := (hK.cell (p := ⟨GC, ordI k, none⟩) hTG).trans (row_int_cell HRC.out (ordI k) (by rw [HCLN.out]; exact ho))
              have hz := HCTP.out (ordI k)
              have HL : Hid (lenLs cl (k + 1) = lenLs cl k ++ [((cl[ordI k]?.getD 0).toNat, 3)]) := lenLs_succ cl k
              obtain ⟨z, hzz⟩ : ∃ z : Nat, cl[ordI k]?.getD 0 = (z : Int) := ⟨(cl[ordI k]?.getD 0).toNat, by omega⟩
              rw [hzz] at cG hz HL
              rw [Int.toNat_natCast] at HL
              generalize ordI k = o at cO ho cG
              obtain ⟨⟨gv, cv, rfl⟩, hown, hnT⟩ := hH
              have hll : (head3 nl nd M ++ lenLs cl k).length ≤ 22 := by simp [head3, lenLs]; omega
              have HE : Hid (head3 nl nd M ++ lenLs cl (k + 1) = (head3 nl nd M ++ lenLs cl k) ++ [(z, 3)]) := by show _ = _; rw [HL.out, List.append_assoc]
              generalize head3 nl nd M ++ lenLs cl k = fs at hown hll hnT HE
              have hTr : ∀ q, T q → q < wr.heap.size := fun q h => Nat.lt_of_lt_of_le (hT5 q h) hK.size
              have hbw : w.heap.size ≤ wr.heap.size := Nat.le_trans HB5.out.size hK.size
              have HNW : Hid (∀ (j : Nat) (u : Value), (fcells [(z, 3)])[j]? = some u → (wr.alloc (.cells #[.int .u32 (z : Int), .int .i64 3] 79)).cell? ((⟨wr.heap.size, 0, none⟩ : Addr).add j) = some u) := by
                intro j u hu
                have hR := Row.new wr 79 #[.int .u32 (z : Int), .int .i64 3]
                have h := hR.cell (i := j) (v := u) (by simpa [fcells] using hu)
                rw [Go.WideShapes.add_plain]
                simpa using h
              clear hzz HL
              go_wp2_with (at_builtin; refine wpList_append_own2 _ rfl (.tmp 78) (.tmp 87) 104 rfl w.heap.size 79 i79 (.agg #[.int .u32 0, .int .i64 0]) 2 16 Tryd.underlying104 hi79 hz0 hz1 hz2 rfl (by decide) _ _ _ rfl (hown.alloc _) ⟨wr.heap.size, 0, none⟩ 1 1 (fcells [(z, 3)]) rfl rfl HNW.out (by simp [fcells, Value.oneCell']) (by unfold maxLen; omega) (by omega) (by simp; omega) ?_)
              intro v' w3' hown' hgrow hblk
              have hK3 : Kept T w5 w3' := hK.trans (((Kept.refl T wr).alloc hTr _).grown hgrow (fun q h => by simp; have := hTr q h; omega) hnT)
              have hnT' : ∀ q, v'.ownBlock = some q → ¬ T q := fun q hq ht => by
                rcases hblk q hq with h | h
                · exact hnT q h ht
                · have := hTr q ht; first | omega | (simp at h; omega)
              obtain ⟨g', c', rfl⟩ := owns_form hown'
              clear HNW hown hgrow hblk hK
              go_wp2
              refine ⟨⟨k + 1, by omega, by go_num, ?_, hK3⟩, by simp [intOf]; omega⟩
              rw [HE.out]
              refine ⟨⟨g', c', by simp⟩, ?_, hnT'⟩
              rw [List.length_append, fcells_append]
              exact hown'
            · obtain rfl : k = M := by omega
              have hTr : ∀ q, T q → q < wr.heap.size := fun q h => Nat.lt_of_lt_of_le (hT5 q h) hK.size
              have hrC : Row wr GC 3 (cl.map (Value.int .i64)).toArray := HRC.out.kept hK hTG
              have H7 : Hid (Calls Tryd.prog 73 #[.slice (some ⟨GC, 0, none⟩) 19 19] wr fun e w' => ∃ G, e = .returned (.slice (some ⟨G, 0, none⟩) 19 19) ∧ wr.heap.size ≤ G ∧ Row w' G 79 (fcells (codesF cl)).toArray ∧ Below wr.heap.size wr w') := by
                have := newCodes_any T (some ⟨GC, 0, none⟩) 19 cl wr hTr (IntsIn.of_row hrC hTG) HBest.out.right (by rw [HCLN.out]; omega) (fun i => by have := HCTP.out i; omega)
                rw [HCLN.out] at this
                exact this
              clear hrC
              go_wp2_with fail
              refine H7.out.mono ?_
              clear H7
              rintro e w8 ⟨GW, rfl, hGW, hRW, hb8⟩
              obtain ⟨T4, hT4def⟩ : ∃ T4 : Nat → Prop, T4 = fun q => T q ∨ q = GW := ⟨_, rfl⟩
              have hH8 : HeadAt T4 w.heap.size w8 u12 (head3 nl nd k ++ lenLs cl k ++ psF cl []) := by
                obtain ⟨h1, h2, h3⟩ := hH
                have e : head3 nl nd k ++ lenLs cl k ++ psF cl [] = head3 nl nd k ++ lenLs cl k := by simp [psF]
                rw [e]
                refine ⟨h1, owns_kept (S := fun q => q < wr.heap.size) h2 (Kept.of_below hb8 (fun _ h => h)) (fun q hq => (h2.lt q hq).2), fun q hq => ?_⟩
                rw [hT4def]
                rintro (h | h)
                · exact h3 q hq h
                · have := (h2.lt q hq).2; omega
              have hK8 : Kept T w5 w8 := hK.trans (Kept.of_below hb8 hTr)
              have hT48 : ∀ q, T4 q → q < w8.heap.size := by
                rw [hT4def]
                rintro q (h | h)
                · exact Nat.lt_of_lt_of_le (hT5 q h) hK8.size
                · rw [h]; exact hRW.lt
              have hTT : ∀ q, T q → T4 q := fun q h => by rw [hT4def]; exact .inl h
              have hTW : T4 GW := by rw [hT4def]; exact .inr rfl
              have HJ1 : Hid (IntsIn T4 w8 (.slice g1 ps.length c1) (ps.map (·.1))) := (HT1.out.kept hK8).mono hTT
              have HJ3 : Hid (IntsIn T4 w8 (.slice g3 ps.length c3) (ps.map (·.2))) := (HT3.out.kept hK8).mono hTT
              have HRW8 : Hid (Row w8 GW 79 (fcells (codesF cl)).toArray) := hRW
              have HB8 : Hid (Below w.heap.size w w8) := HB5.out.trans ((hK8.mono (fun q h => hTw q h)).below (fun _ h => h))
              clear hT4def hH hK hRW hb8 hTr hK8 hGW
              clear wr
              go_wp2
              go_loopw [12, 94] (fun v12 v94 wr => ∃ j : Nat, j ≤ ps.length ∧ v94 = .int .i64 (j : Int) ∧ HeadAt T4 w.heap.size wr v12 (head3 nl nd k ++ lenLs cl k ++ psF cl (ps.take j)) ∧ Kept T4 w8 wr) (fun _ v94 _ => ps.length - (intOf v94).toNat)
              case atStart => exact ⟨0, by omega, rfl, hH8, Kept.refl _ _⟩
              case round =>
                clear hH8
                obtain ⟨j, hj, rfl, hH, hK⟩ := hrel
                by_cases hlt : j < ps.length
                · obtain ⟨⟨s, x⟩, hp⟩ : ∃ p, ps[j]? = some p := ⟨_, List.getElem?_eq_getElem hlt⟩
                  have hok := HPS.out (s, x) (List.mem_of_getElem? hp)
                  obtain ⟨b1, o1, rfl, hb1, e1⟩ := (HJ1.out.kept hK).at j (by rw [List.length_map]; exact hlt)
                  obtain ⟨b3, o3, rfl, hb3, e3⟩ := (HJ3.out.kept hK).at j (by rw [List.length_map]; exact hlt)
                  obtain ⟨sn, rfl⟩ : ∃ sn : Nat, s = (sn : Int) := ⟨s.toNat, by have := hok.1; simp only at this; omega⟩
                  obtain ⟨xn, rfl⟩ : ∃ xn : Nat, x = (xn : Int) := ⟨x.toNat, by have := hok.2.2.1; simp only at this; omega⟩
                  have hs18 : sn ≤ 18 := by have := hok.2.1; simp only at this; omega
                  have hbN := bitsN_le' (sn : Int)
                  have hx128 : xn < 128 := by
                    have h1 := hok.2.2.2
                    simp only at h1
                    have h2 : (2 : Int) ^ bitsN (sn : Int) ≤ 2 ^ 7 := by
                      have := Nat.pow_le_pow_right (n := 2) (by omega) hbN
                      exact_mod_cast this
                    omega
                  replace e1 : wr.cell? ⟨b1, o1 + j, none⟩ = some (.int .i64 (sn : Int)) := by rw [e1]; simp [hp]
                  replace e3 : wr.cell? ⟨b3, o3 + j, none⟩ = some (.int .i64 (xn : Int)) := by rw [e3]; simp [hp]
                  obtain ⟨⟨cd, cw⟩, hcf⟩ : ∃ f, (codesF cl)[sn]?.getD (0, 0) = f := ⟨_, rfl⟩
                  have hcfl : sn < (codesF cl).length := by rw [codesF_length, HCLN.out]; omega
                  have gW := fcells_at (codesF cl) sn (cd, cw) (by rw [← hcf, List.getElem?_eq_getElem hcfl]; rfl)
                  have gw0 : wr.cell? ⟨GW, sn * 2, none⟩ = some (.int .u32 (cd : Int)) := (hK.cell (p := ⟨GW, sn * 2, none⟩) hTW).trans (HRW8.out.cell (by simpa using gW.1))
                  have gw1 : wr.cell? ⟨GW, sn * 2 + 1, none⟩ = some (.int .i64 (cw : Int)) := (hK.cell (p := ⟨GW, sn * 2 + 1, none⟩) hTW).trans (HRW8.out.cell (by simpa using gW.2))
                  have HRB : Hid (Calls Tryd.prog 28 #[.int .i64 (sn : Int)] wr.drew fun e w' => e = .returned (.int .i64 (bitsN (sn : Int) : Int)) ∧ w' = wr.drew) := runBits_any (sn : Int) wr.drew
                  have HE : Hid (head3 nl nd k ++ lenLs cl k ++ psF cl (ps.take (j + 1)) = (head3 nl nd k ++ lenLs cl k ++ psF cl (ps.take j)) ++ [(cd, cw), (xn, bitsN (sn : Int))]) := by
                    show _ = _
                    rw [take_snoc hp, psF_snoc, ← hcf]
                    simp only [Int.toNat_natCast, List.append_assoc]
                  obtain ⟨⟨gv, cv, rfl⟩, hown, hnT⟩ := hH
                  have hll : (head3 nl nd k ++ lenLs cl k ++ psF cl (ps.take j)).length ≤ 22 + 2 * ps.length := by
                    have : ∀ l : List (Int × Int), (psF cl l).length = 2 * l.length := by
                      intro l
                      induction l with
                      | nil => rfl
                      | cons y ys ih =>
                        have e : psF cl (y :: ys) = [(codesF cl)[y.1.toNat]?.getD (0, 0), (y.2.toNat, bitsN y.1)] ++ psF cl ys := rfl
                        rw [e, List.length_append, ih]
                        simp only [List.length_cons, List.length_nil]
                        omega
                    rw [List.length_append, List.length_append, this, List.length_take]
                    simp only [head3, lenLs, List.length_cons, List.length_nil, List.length_map, List.length_range]
                    omega
                  generalize head3 nl nd k ++ lenLs cl k ++ psF cl (ps.take j) = fs at hown hll hnT HE
                  generalize bitsN (sn : Int) = bn at HRB HE hbN
                  have hTr : ∀ q, T4 q → q < wr.heap.size := fun q h => Nat.lt_of_lt_of_le (hT48 q h) hK.size
                  have hbw : w.heap.size ≤ wr.heap.size := Nat.le_trans HB8.out.size hK.size
                  have HNW : Hid (∀ (i : Nat) (u : Value), (fcells [(cd, cw), (xn, bn)])[i]? = some u → (wr.drew.alloc (.cells #[.int .u32 (cd : Int), .int .i64 (cw : Int), .int .u32 (xn : Int), .int .i64 (bn : Int)] 79)).cell? ((⟨wr.heap.size, 0, none⟩ : Addr).add i) = some u) := by
                    intro i u hu
                    have hR := Row.new wr.drew 79 #[.int .u32 (cd : Int), .int .i64 (cw : Int), .int .u32 (xn : Int), .int .i64 (bn : Int)]
                    have h := hR.cell (i := i) (v := u) (by simpa [fcells] using hu)
                    rw [Go.WideShapes.add_plain]
                    simpa using h
                  have t19 : (sn : Int) < 19 := by omega
                  have hwx : IntKind.u32.wrap (xn : Int) = (xn : Int) := by simp [IntKind.wrap, IntKind.bits, IntKind.signed]; omega
                  clear hcf gW hok hp hcfl
                  go_wp2_with fail
                  refine wp_region_M (fun wx : World => wx = wr.drew) (fun j => decide (0 < j ∧ j < 13)) 16 rfl (by kernel_rfl) ?_
                  have HD : wr.drew = wr.drew := rfl
                  refine wpM_free 0 (v := ?_) rfl (by kernel_rfl) (by kernel_rfl) rfl (fun _ _ _ h => h) rfl (by intro wx; go_simp <;> rfl) ?_
                  refine wpM_held 1 (v := ?_) rfl (by kernel_rfl) (by kernel_rfl) rfl (fun _ _ _ h => h) rfl (by rintro wx rfl; go_simp <;> rfl) HD ?_
                  refine wpM_held 2 (v := ?_) rfl (by kernel_rfl) (by kernel_rfl) rfl (fun _ _ _ h => h) rfl (by rintro wx rfl; go_simp <;> rfl) HD ?_
                  refine wpM_held 3 (v := .pointer (some ⟨GW, sn * 2, none⟩)) rfl (by kernel_rfl) (by kernel_rfl) rfl (fun _ _ _ h => h) rfl (by rintro wx rfl; go_simp <;> rfl) HD ?_
                  refine wpM_held 4 (v := .agg #[.int .u32 (cd : Int), .int .i64 (cw : Int)]) rfl (by kernel_rfl) (by kernel_rfl) rfl (fun _ _ _ h => h) rfl (by rintro wx rfl; go_simp <;> rfl) HD ?_
                  refine wpM_held 5 (v := ?_) rfl (by kernel_rfl) (by kernel_rfl) rfl (fun _ _ _ h => h) rfl (by rintro wx rfl; go_simp <;> rfl) HD ?_
                  refine wpM_held 6 (v := ?_) rfl (by kernel_rfl) (by kernel_rfl) rfl (fun _ _ _ h => h) rfl (by rintro wx rfl; go_simp <;> rfl) HD ?_
                  refine wpM_held 7 (v := .pointer (some ⟨b3, o3 + j, none⟩)) rfl (by kernel_rfl) (by kernel_rfl) rfl (fun _ _ _ h => h) rfl (by rintro wx rfl; go_simp <;> rfl) HD ?_
                  refine wpM_held 8 (v := .int .i64 (xn : Int)) rfl (by kernel_rfl) (by kernel_rfl) rfl (fun _ _ _ h => h) rfl (by rintro wx rfl; go_simp <;> rfl) HD ?_
                  refine wpM_held 9 (v := .int .u32 (xn : Int)) rfl (by kernel_rfl) (by kernel_rfl) rfl (fun _ _ _ h => h) rfl (by rintro wx rfl; go_simp <;> rfl) HD ?_
                  refine wpM_held 10 (v := ?_) rfl (by kernel_rfl) (by kernel_rfl) rfl (fun _ _ _ h => h) rfl (by rintro wx rfl; go_simp <;> rfl) HD ?_
                  refine wpM_one 11 rfl (by kernel_rfl) rfl ?_
                  go_wp2_with fail
                  refine HRB.out.mono ?_
                  clear HRB
                  rintro e w' ⟨rfl, hww⟩
                  obtain rfl := hww.symm
                  go_wp2_with fail
                  refine ⟨fun _ => rfl, ?_⟩
                  refine wpM_one 12 rfl (by kernel_rfl) rfl ?_
                  go_wp2_with fail
                  refine ⟨fun _ => rfl, ?_⟩
                  refine wpM_one 13 rfl (by kernel_rfl) rfl ?_
                  go_wp2_with fail
                  refine ⟨(fun h => by simp at h), ?_⟩
                  refine wpM_one 14 rfl (by kernel_rfl) rfl ?_
                  refine wpList_append_own2 _ rfl (.tmp 99) (.tmp 112) 104 rfl w.heap.size 79 i79 (.agg #[.int .u32 0, .int .i64 0]) 2 16 Tryd.underlying104 hi79 hz0 hz1 hz2 rfl (by decide) _ _ _ rfl (hown.alloc _) ⟨wr.heap.size, 0, none⟩ 2 2 (fcells [(cd, cw), (xn, bn)]) rfl rfl HNW.out (by simp [fcells, Value.oneCell']) (by unfold maxLen; omega) (by omega) (by simp; omega) ?_
                  intro v' w9 hown' hgrow hblk
                  have hK3 : Kept T4 w8 w9 := hK.trans (((Kept.refl T4 wr).drew.alloc hTr _).grown hgrow (fun q h => by simp; have := hTr q h; omega) hnT)
                  have hnT' : ∀ q, v'.ownBlock = some q → ¬ T4 q := fun q hq ht => by
                    rcases hblk q hq with h | h
                    · exact hnT q h ht
                    · have := hTr q ht; first | omega | (simp at h; omega)
                  obtain ⟨g', c', rfl⟩ := owns_form hown'
                  clear HNW hown hgrow hblk hK
                  go_wp2_with fail
                  refine ⟨(fun h => by simp at h), ?_⟩
                  refine wpM_one 15 rfl (by kernel_rfl) rfl ?_
                  go_wp2_with fail
                  refine ⟨(fun h => by simp at h), ?_⟩
                  refine wpM_done (by kernel_rfl) ?_
                  go_wp2
                  refine ⟨⟨j + 1, by omega, by go_num, ?_, hK3⟩, by simp [intOf]; omega⟩
                  rw [HE.out]
                  refine ⟨⟨g', c', by simp⟩, ?_, hnT'⟩
                  rw [List.length_append, fcells_append]
                  exact hown'
                · obtain rfl : j = ps.length := by omega
                  rw [List.take_length] at hH
                  obtain ⟨⟨gv, cv, rfl⟩, hown, hnT⟩ := hH
                  have HF : Hid (HeadOf zl zd (head3 nl nd k ++ lenLs cl k ++ psF cl ps)) := HEND.out _ ⟨ps, cl, cc, by rw [headL, HM.out], HRW.out, HBest.out⟩
                  have HG : Hid (wr.ownsRow w.heap.size 79 2 (.slice gv (head3 nl nd k ++ lenLs cl k ++ psF cl ps).length cv) (head3 nl nd k ++ lenLs cl k ++ psF cl ps).length (fcells (head3 nl nd k ++ lenLs cl k ++ psF cl ps)) ∧ Below w.heap.size w wr) := ⟨hown, HB8.out.trans ((hK.mono (fun q h => hTT q (hTw q h))).below (fun _ h => h))⟩
                  generalize head3 nl nd k ++ lenLs cl k ++ psF cl ps = fs at HF HG ⊢
                  clear hown hK hnT
                  go_wp2
                  go_ret
                  exact ⟨gv, cv, fs, rfl, HF.out, HG.out.1, HG.out.2⟩

end Go.Proofs.YtinbilbgipfemaaDoor
