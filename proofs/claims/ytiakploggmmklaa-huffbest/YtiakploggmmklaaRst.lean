/- The document's sorted, in memory. -/
import Derived.Test.YtiakploggmmklaaRsp
import Derived.BigQuiet
namespace Go.Proofs.Ytiakploggmmklaa
open Go.RowKit

theorem Try.info45 : (Try.prog.info? 45).map (fun i => (i.zero, i.size, i.bytes)) = some (some (.agg #[.int .i64 0, .slice none 0 0]), 2, 32) := by kernel_rfl
section
variable {P : Program} (w : World)
/-- Nothing is appended: nothing changes. -/
theorem run_append_srcnil (t ty e : TypeId) (i : TypeInfo) (ht : P.underlying t = some (.slice e)) (hi : P.info? e = some i) (b : Option Addr) (n c : Nat) (hn : n ≤ c) : (Builtin.append_ #[t, t] ty #[.slice b n c, .slice none 0 0]).run P w = .ok (.slice b n c) w := by
  cases b <;> simp [Builtin.append_, run_underlying ht, sizeOf, typeInfo, hi, Builtin.lenOf, hn, run_firstCells_none, storeCells]
end
def C2In (S : Nat → Prop) (W : World) (v : Value) (l : List CP) : Prop :=
  (l = [] ∧ v = .slice none 0 0) ∨ ∃ b off cap, v = .slice (some ⟨b, off, none⟩) l.length cap ∧ l.length ≤ cap ∧ S b ∧ ∀ j u, (cellsP l)[j]? = some u → W.cell? ⟨b, off + j, none⟩ = some u
def OneC (l : List CP) : Prop := ∀ c ∈ l, c.2.oneCell' = true
theorem C2In.kept {S : Nat → Prop} {A B : World} (h : Kept S A B) {v : Value} {l : List CP} : C2In S A v l → C2In S B v l
  | .inl e => .inl e
  | .inr ⟨b, off, cap, e, h1, hb, hc⟩ => .inr ⟨b, off, cap, e, h1, hb, fun j u hj => (h.cell (p := ⟨b, off + j, none⟩) hb).trans (hc j u hj)⟩
theorem C2In.mono {S T : Nat → Prop} {A : World} (hT : ∀ k, S k → T k) {v : Value} {l : List CP} : C2In S A v l → C2In T A v l
  | .inl e => .inl e
  | .inr ⟨b, off, cap, e, h1, hb, hc⟩ => .inr ⟨b, off, cap, e, h1, hT _ hb, hc⟩
theorem cells_one {l : List CP} (h : OneC l) : ∀ u ∈ cellsP l, u.oneCell' = true := by
  intro u hu
  unfold cellsP at hu
  obtain ⟨c, hc, hu⟩ := List.mem_flatMap.1 hu
  simp at hu
  rcases hu with rfl | rfl
  · rfl
  · exact h c hc
theorem posK_step (l : List CP) (f : Int) (p : Nat) (hp : p < l.length) : (f < l[p].1 → posK l f (p + 1) = posK l f p) ∧ (¬ f < l[p].1 → posK l f (p + 1) = p + 1) := by
  have e : l[p]?.getD (0, undef) = l[p] := by rw [List.getElem?_eq_getElem hp]; rfl
  constructor
  · intro h
    rw [posK, e, if_pos h]
  · intro h
    rw [posK, e, if_neg h]
/-- A row of coins that the call owns. -/
def OwnC (base : Nat) (W : World) (v : Value) (l : List CP) : Prop := W.ownsRow base 45 2 v l.length (cellsP l)
theorem OwnC.in_ {base : Nat} {W : World} {v : Value} {l : List CP} (h : OwnC base W v l) : C2In (· < W.heap.size) W v l := by
  rcases h.2 with ⟨rfl, h9⟩ | ⟨gb, cap, cur, rfl, hbg, hgg, hnc, _⟩
  · exact .inl ⟨List.eq_nil_of_length_eq_zero h9, rfl⟩
  · refine .inr ⟨gb, 0, cap, rfl, hnc, (Array.getElem?_eq_some_iff.1 hgg).1, fun j u hj => ?_⟩
    have := World.ownsRow.cells h (g := gb) rfl j u hj
    rwa [Go.WideShapes.add_plain] at this

theorem take_cells {W : World} {g : Nat} {o : List CP} (h : ∀ j u, (cellsP o)[j]? = some u → W.cell? ⟨g, j, none⟩ = some u) (q : Nat) : ∀ j u, (cellsP (o.take q))[j]? = some u → W.cell? ((⟨g, 0, none⟩ : Addr).add j) = some u := by
  intro j u hj
  rw [Go.WideShapes.add_plain, Nat.zero_add]
  rw [cellsP_take, List.getElem?_take] at hj
  split at hj
  · exact h j u hj
  · cases hj
theorem drop_cells {W : World} {g : Nat} {o : List CP} (h : ∀ j u, (cellsP o)[j]? = some u → W.cell? ⟨g, j, none⟩ = some u) (q : Nat) : ∀ j u, (cellsP (o.drop q))[j]? = some u → W.cell? ((⟨g, q * 2, none⟩ : Addr).add j) = some u := by
  intro j u hj
  rw [Go.WideShapes.add_plain, Nat.mul_comm]
  rw [cellsP_drop, List.getElem?_drop] at hj
  exact h _ u hj
theorem below_drewN' {B : Nat} {a w : World} (h : Below B a w) (n : Nat) : Below B a (w.drewN n) := h.trans ⟨rfl, rfl, rfl, Nat.le_refl _, fun _ _ => rfl⟩
theorem drewN_twice (w : World) (n m : Nat) : (w.drewN n).drewN m = w.drewN (n + m) := by
  simp [World.drewN, Nat.add_assoc]
theorem cell_two_new' (w : World) (a b : Value) (t : TypeId) : ∀ j u, [a, b][j]? = some u → (w.alloc (.cells #[a, b] t)).cell? ((⟨w.heap.size, 0, none⟩ : Addr).add j) = some u := by
  intro j u hj
  match j, hj with
  | 0, hj => simp at hj; subst hj; simp [Addr.add]
  | 1, hj => simp at hj; subst hj; simp [Addr.add]
  | j + 2, hj => simp at hj
set_option maxRecDepth 100000 in
set_option maxHeartbeats 8000000 in
theorem sorted_any (v : Value) (l : List CP) (w : World) (hI : C2In (· < w.heap.size) w v l) (h1 : OneC l) (hl : l.length ≤ 100000) :
    Calls Try.prog 16 #[v] w fun e w' => ∃ v', e = .returned v' ∧ OwnC w.heap.size w' v' (srtL l) ∧ Below w.heap.size w w' := by
  obtain ⟨i0, hi0, hz0, hz1, hz2⟩ := info_parts Try.info45
  obtain ⟨va, vc, rfl⟩ : ∃ a c, v = .slice a l.length c := by
    rcases hI with ⟨rfl, rfl⟩ | ⟨b, off, cap, rfl, _⟩
    · exact ⟨_, _, rfl⟩
    · exact ⟨_, _, rfl⟩
  obtain ⟨L, hL⟩ : ∃ L, l.length = L := ⟨_, rfl⟩
  rw [hL] at hI hl ⊢
  go_enter Try.func16, Try.ntmps16
  go_wp2_with fail
  go_loopw [3, 4] (fun v3 v4 wr => ∃ (k : Nat) (o : List CP), k ≤ L ∧ v4 = .int .i64 (k : Int) ∧ o.length = k ∧ (k = 0 → v3 = .slice none 0 0) ∧ Hid (srtL (l.take k) = o) ∧ Hid (OneC o) ∧ Hid (OwnC w.heap.size wr v3 o) ∧ Below w.heap.size w wr) (fun _ v4 _ => L - (intOf v4).toNat)
  case atStart => exact ⟨0, [], by omega, rfl, rfl, fun _ => rfl, rfl, (fun c hc => by simp at hc), World.ownsRow_nil _ _ _ _, Below.refl _ _⟩
  case round =>
    obtain ⟨k, o, hk, rfl, ho, hnil, HS, H1, HO, hB⟩ := hrel
    have hsz := hB.size
    by_cases hlt : k < L
    · obtain ⟨b, off, rfl, hbw, hcl⟩ : ∃ b off, va = some ⟨b, off, none⟩ ∧ b < w.heap.size ∧ ∀ j u, (cellsP l)[j]? = some u → w.cell? ⟨b, off + j, none⟩ = some u := by
        rcases hI with ⟨e, _⟩ | ⟨b, off, cap, e, _, hb, hc⟩
        · rw [e] at hL; simp at hL; omega
        · simp only [Value.slice.injEq] at e
          exact ⟨b, off, e.1, hb, hc⟩
      have hat := cellsP_at l k (by omega)
      have cf0 := hcl _ _ hat.1
      have cs0 := hcl _ _ hat.2
      have HST : Hid (srtL (l.take (k + 1)) = insC o l[k]) := by show _ = _; rw [srtL_take l k (by omega), HS.out]
      have h1k : l[k].2.oneCell' = true := h1 _ (List.getElem_mem (by omega))
      obtain ⟨ck, hck⟩ : ∃ ck, l[k] = ck := ⟨_, rfl⟩
      rw [hck] at cf0 cs0 HST h1k
      obtain ⟨f, sv⟩ := ck
      simp only at cf0 cs0 h1k
      rw [Nat.mul_comm 2 k] at cf0 cs0
      clear hat hck hcl HS
      have HC : Hid (∀ W, Below w.heap.size w W → W.cell? ⟨b, off + k * 2, none⟩ = some (.int .i64 f) ∧ W.cell? ⟨b, off + (k * 2 + 1), none⟩ = some sv) := fun W h => ⟨(h.cell (p := ⟨b, off + k * 2, none⟩) hbw).trans cf0, (h.cell (p := ⟨b, off + (k * 2 + 1), none⟩) hbw).trans cs0⟩
      have hcw := HC.out wr hB
      have cf := hcw.1
      clear hI cf0 cs0 hcw
      by_cases hk0 : k = 0
      · have hu3 := hnil hk0
        subst hu3
        have hoe : o = [] := List.eq_nil_of_length_eq_zero (by omega)
        subst hoe
        have HK0 : Hid (k = 0) := hk0
        obtain ⟨wo, hwo⟩ : ∃ wo, wo = wr := ⟨_, rfl⟩
        subst hwo
        clear hk0 ho hnil HO H1
        go_wp2_with fail
        go_loopw [5] (fun v5 wi => v5 = .int .i64 0 ∧ wi = wo) (fun _ _ => 0)
        case atStart => exact ⟨rfl, rfl⟩
        case round =>
          obtain ⟨rfl, rfl⟩ := hrel
          go_wp2_with fail
          go_quiet (fail)
          have HBW : Hid (Below w.heap.size w (wr.drewN nq)) := below_drewN' hB nq
          generalize wr.drewN nq = wx at HBW ⊢
          have hwsz := HBW.out.size
          obtain ⟨c1, c2⟩ := HC.out wx HBW.out
          have c2' : wx.cell? ⟨b, off + k * 2 + 1, none⟩ = some sv := c2
          have hap := fun ty => run_append_srcnil (P := Try.prog) wx 43 ty 45 i0 Try.underlying43 hi0 none 0 0 (Nat.le_refl _)
          clear hB cf
          go_wp2_with (at_builtin; first | refine wpList_append_eq rfl (.tmp 33) (.tmp 36) 43 rfl _ _ _ _ rfl rfl (hap _) ?_ | refine wpList_append_own2 _ rfl (.tmp 38) (.tmp 43) 43 rfl w.heap.size 45 i0 (.agg #[.int .i64 0, .slice none 0 0]) 2 32 Try.underlying43 hi0 hz0 hz1 hz2 rfl (by decide) _ _ _ rfl (World.ownsRow_nil _ _ _ _) ⟨wx.heap.size, 0, none⟩ 1 1 [.int .i64 f, sv] rfl rfl (cell_two_new' _ _ _ _) (by intro u hu; simp at hu; rcases hu with rfl | rfl <;> first | rfl | exact h1k) (by unfold maxLen; omega) (by omega) (by simp; omega) ?_)
          clear hap
          intro v2 w2 hO2 hG2 hN2
          have HB2 : Hid (Below w.heap.size w w2) := (HBW.out.alloc (by omega) _).grown hG2 (by rw [World.size_alloc]; omega) (fun r e => by simp [Value.ownBlock] at e)
          have HO2 : Hid (w2.ownsRow w.heap.size 45 2 v2 1 [.int .i64 f, sv]) := hO2
          clear hO2 hG2 hN2 c1 c2 c2'
          obtain ⟨a2, k2, rfl, hk2⟩ : ∃ a2 k2, v2 = .slice a2 1 k2 ∧ 1 ≤ k2 := by
            rcases HO2.out.2 with ⟨_, h9⟩ | ⟨_, _, _, rfl, _, _, hnc, _⟩
            · omega
            · exact ⟨_, _, rfl, hnc⟩
          have hap := fun ty => run_append_srcnil (P := Try.prog) w2 43 ty 45 i0 Try.underlying43 hi0 a2 1 k2 hk2
          go_wp2_with (at_builtin; refine wpList_append_eq rfl (.tmp 45) (.tmp 48) 43 rfl _ _ _ _ rfl rfl (hap _) ?_)
          clear hap
          go_wp2
          have hk0 := HK0.out
          exact ⟨⟨k + 1, [(f, sv)], by omega, by simp, by simp; omega, fun e => by omega, HST, (fun c hc => by simp at hc; subst hc; exact h1k), HO2.out, HB2.out⟩, by simp [intOf]; omega⟩
      · obtain ⟨g, cu, rfl, hgB, hkc⟩ : ∃ g cu, u3 = .slice (some ⟨g, 0, none⟩) k cu ∧ w.heap.size ≤ g ∧ k ≤ cu := by
          rcases HO.out.2 with ⟨_, h9⟩ | ⟨g, cap, cur, rfl, hbg, _, hnc, _⟩
          · omega
          · rw [ho] at hnc
            exact ⟨g, cap, by rw [ho], hbg, hnc⟩
        have HOC : Hid (∀ j u, (cellsP o)[j]? = some u → wr.cell? ⟨g, j, none⟩ = some u) := fun j u hj => by
          have := World.ownsRow.cells HO.out (g := g) rfl j u hj
          rwa [Go.WideShapes.add_plain, Nat.zero_add] at this
        obtain ⟨wo, hwo⟩ : ∃ wo, wo = wr := ⟨_, rfl⟩
        subst hwo
        have hkz : (0 : Int) < (k : Int) := by omega
        go_wp2_with fail
        go_loopw [5] (fun v5 wi => ∃ q : Nat, q ≤ k ∧ v5 = .int .i64 (q : Int) ∧ Hid (posK o f q = posK o f k) ∧ Hid (∃ n, wi = wo.drewN n)) (fun v5 _ => (intOf v5).toNat)
        case atStart => exact ⟨k, Nat.le_refl _, rfl, rfl, 0, rfl⟩
        case round =>
          obtain ⟨q, hq, rfl, HQ, HW⟩ := hrel
          have HCF : Hid (wr.cell? ⟨b, off + k * 2, none⟩ = some (.int .i64 f)) := by obtain ⟨n, hn⟩ := HW.out; rw [hn]; exact cf
          clear cf
          by_cases hq0 : q = 0
          · have hqd : decide ((0 : Int) < (q : Int)) = false := decide_eq_false (by omega)
            have HQQ : Hid (posK o f k = q) := by show _ = _; rw [← HQ.out, hq0]; rfl
            clear HCF
            go_wp2_with fail
            go_quiet (fail)
            clear hq0 hqd
            have HW2 : Hid (∃ n, wr.drewN nq = wo.drewN n) := by obtain ⟨n, hn⟩ := HW.out; exact ⟨n + nq, by rw [hn]; exact drewN_twice wo n nq⟩
            generalize wr.drewN nq = wx at HW2 ⊢
            clear HW
            have HP : Hid (posK o f k = q) := HQQ
            have HOW : Hid (OwnC w.heap.size wx (.slice (some ⟨g, 0, none⟩) k cu) o) := by obtain ⟨n, hn⟩ := HW2.out; rw [hn]; exact HO.out
            have HBW : Hid (Below w.heap.size w wx) := by obtain ⟨n, hn⟩ := HW2.out; rw [hn]; exact below_drewN' hB n
            have HCO : Hid (∀ j u, (cellsP o)[j]? = some u → wx.cell? ⟨g, j, none⟩ = some u) := by obtain ⟨n, hn⟩ := HW2.out; rw [hn]; exact HOC.out
            have hgw : g < wx.heap.size := (World.ownsRow.lt HOW.out g rfl).2
            have hwsz := HBW.out.size
            have hqc : (q : Int) ≤ (cu : Int) := by omega
            clear HOC HW2 HQ hB
            go_wp2_with (at_builtin; refine wpList_append_own2 _ rfl (.tmp 33) (.tmp 36) 43 rfl w.heap.size 45 i0 (.agg #[.int .i64 0, .slice none 0 0]) 2 32 Try.underlying43 hi0 hz0 hz1 hz2 rfl (by decide) _ _ _ rfl (World.ownsRow_nil _ _ _ _) ⟨g, 0, none⟩ q cu (cellsP (o.take q)) rfl (by rw [cellsP_length, List.length_take]; omega) (take_cells HCO.out q) (cells_one (fun c hc => H1.out c (List.mem_of_mem_take hc))) (by unfold maxLen; omega) (by omega) (by omega) ?_)
            intro v1 w1 hO1 hG1 hN1
            have HB1 : Hid (Below w.heap.size w w1) := HBW.out.grown hG1 (by omega) (fun r e => by simp [Value.ownBlock] at e)
            have HCO1 : Hid (∀ j u, (cellsP o)[j]? = some u → w1.cell? ⟨g, j, none⟩ = some u) := fun j u hj => (World.cell?_of_block (w := wx) (a := ⟨g, j, none⟩) (hG1.block g hgw (fun e => by simp [Value.ownBlock] at e))).trans (HCO.out j u hj)
            have HN1 : Hid (∀ r, v1.ownBlock = some r → wx.heap.size ≤ r) := fun r e => (hN1 r e).elim (fun h => by simp [Value.ownBlock] at h) id
            have HO1 : Hid (w1.ownsRow w.heap.size 45 2 v1 q (cellsP (o.take q))) := hO1
            have hs1 := hG1.size
            obtain ⟨c1, c2⟩ := HC.out w1 HB1.out
            have c2' : w1.cell? ⟨b, off + k * 2 + 1, none⟩ = some sv := c2
            clear hO1 hG1 hN1 HCO HBW HOW
            obtain ⟨a1, n1, k1, rfl⟩ : ∃ a1 n1 k1, v1 = .slice a1 n1 k1 := by
              rcases HO1.out.2 with ⟨rfl, _⟩ | ⟨_, _, _, rfl, _⟩
              · exact ⟨_, _, _, rfl⟩
              · exact ⟨_, _, _, rfl⟩
            go_wp2_with (at_builtin; refine wpList_append_own2 _ rfl (.tmp 38) (.tmp 43) 43 rfl w.heap.size 45 i0 (.agg #[.int .i64 0, .slice none 0 0]) 2 32 Try.underlying43 hi0 hz0 hz1 hz2 rfl (by decide) _ _ _ rfl (HO1.out.alloc _) ⟨w1.heap.size, 0, none⟩ 1 1 [.int .i64 f, sv] rfl rfl (cell_two_new' _ _ _ _) (by intro u hu; simp at hu; rcases hu with rfl | rfl <;> first | rfl | exact h1k) (by unfold maxLen; omega) (by omega) (by simp; omega) ?_)
            intro v2 w2 hO2 hG2 hN2
            have HB2 : Hid (Below w.heap.size w w2) := (HB1.out.alloc (by omega) _).grown hG2 (by rw [World.size_alloc]; omega) (fun r e => (World.ownsRow.lt HO1.out r e).1)
            have HCO2 : Hid (∀ j u, (cellsP o)[j]? = some u → w2.cell? ⟨g, j, none⟩ = some u) := fun j u hj => by
              have h3 := hG2.block g (by rw [World.size_alloc]; omega) (fun e => by have := HN1.out g e.symm; omega)
              have h4 : (w1.alloc (.cells #[.int .i64 f, sv] 45)).heap[g]? = w1.heap[g]? := Below.heap_alloc w1 _ g (by omega)
              exact (World.cell?_of_block (w := w1) (a := ⟨g, j, none⟩) (h3.trans h4)).trans (HCO1.out j u hj)
            have HO2 : Hid (w2.ownsRow w.heap.size 45 2 v2 (q + 1) (cellsP (o.take q) ++ [.int .i64 f, sv])) := hO2
            have hs2 := hG2.size
            rw [World.size_alloc] at hs2
            clear hO2 hG2 hN2 HCO1 HN1 HO1 c1 c2 c2'
            obtain ⟨a2, n2, k2, rfl⟩ : ∃ a2 n2 k2, v2 = .slice a2 n2 k2 := by
              rcases HO2.out.2 with ⟨rfl, _⟩ | ⟨_, _, _, rfl, _⟩
              · exact ⟨_, _, _, rfl⟩
              · exact ⟨_, _, _, rfl⟩
            have HFIN : Hid (∀ v3 w3, w3.ownsRow w.heap.size 45 2 v3 (q + 1 + (k - q)) (cellsP (o.take q) ++ [.int .i64 f, sv] ++ cellsP (o.drop q)) → OwnC w.heap.size w3 v3 (insC o (f, sv)) ∧ (insC o (f, sv)).length = k + 1) := fun v3 w3 h3 => by
              have e1 : insC o (f, sv) = o.take q ++ (f, sv) :: o.drop q := by unfold insC; rw [ho]; show o.take (posK o f k) ++ _ = _; rw [HP.out]
              have e2 : (insC o (f, sv)).length = k + 1 := by rw [(insC_perm o (f, sv)).length_eq, List.length_cons, ho]
              refine ⟨?_, e2⟩
              unfold OwnC
              rw [e2, e1, cellsP_append]
              have e3 : cellsP ((f, sv) :: o.drop q) = [.int .i64 f, sv] ++ cellsP (o.drop q) := rfl
              rw [e3, ← List.append_assoc]
              rw [show q + 1 + (k - q) = k + 1 by omega] at h3
              exact h3
            have H1N : Hid (OneC (insC o (f, sv))) := fun c hc => by
              rcases List.mem_cons.1 ((insC_perm o (f, sv)).mem_iff.1 hc) with rfl | hc
              · exact h1k
              · exact H1.out c hc
            have hqk : (q : Int) ≤ (k : Int) := by omega
            by_cases hcu : cu = q
            · obtain rfl : q = k := by omega
              subst hcu
              go_wp2_with (at_builtin; refine wpList_append_own2 _ rfl (.tmp 45) (.tmp 48) 43 rfl w.heap.size 45 i0 (.agg #[.int .i64 0, .slice none 0 0]) 2 32 Try.underlying43 hi0 hz0 hz1 hz2 rfl (by decide) _ _ _ rfl HO2.out ⟨g, 0, none⟩ 0 0 [] rfl rfl (fun j u hj => by simp at hj) (fun u hu => by simp at hu) (by unfold maxLen; omega) (by omega) (by omega) ?_)
              intro v3 w3 hO3 hG3 hN3
              have HF : Hid _ := HFIN.out v3 w3 (by rw [List.drop_eq_nil_of_le (by omega), Nat.sub_self]; simpa [cellsP] using hO3)
              have HB3 : Hid (Below w.heap.size w w3) := HB2.out.grown hG3 (by omega) (fun r e => (World.ownsRow.lt HO2.out r e).1)
              clear hO3 hG3 hN3 HFIN HO2 HB2 HCO2
              go_wp2
              exact ⟨⟨cu + 1, _, by omega, by simp, HF.out.2, fun e => by omega, HST, H1N, HF.out.1, HB3.out⟩, by simp [intOf]; omega⟩
            · go_wp2_with (at_builtin; refine wpList_append_own2 _ rfl (.tmp 45) (.tmp 48) 43 rfl w.heap.size 45 i0 (.agg #[.int .i64 0, .slice none 0 0]) 2 32 Try.underlying43 hi0 hz0 hz1 hz2 rfl (by decide) _ _ _ rfl HO2.out ⟨g, q * 2, none⟩ (k - q) (cu - q) (cellsP (o.drop q)) rfl (by rw [cellsP_length, List.length_drop, ho]) (drop_cells HCO2.out q) (cells_one (fun c hc => H1.out c (List.mem_of_mem_drop hc))) (by unfold maxLen; omega) (by omega) (by omega) ?_)
              intro v3 w3 hO3 hG3 hN3
              have HF : Hid _ := HFIN.out v3 w3 (by simpa using hO3)
              have HB3 : Hid (Below w.heap.size w w3) := HB2.out.grown hG3 (by omega) (fun r e => (World.ownsRow.lt HO2.out r e).1)
              clear hO3 hG3 hN3 HFIN HO2 HB2 HCO2
              go_wp2
              exact ⟨⟨k + 1, _, by omega, by simp, HF.out.2, fun e => by omega, HST, H1N, HF.out.1, HB3.out⟩, by simp [intOf]; omega⟩
          · obtain ⟨p, rfl⟩ : ∃ p, q = p + 1 := ⟨q - 1, by omega⟩
            have hpl : p < o.length := by omega
            have cp0 := HOC.out _ _ (cellsP_at o p hpl).1
            rw [Nat.mul_comm 2 p] at cp0
            have HCP : Hid (wr.cell? ⟨g, p * 2, none⟩ = some (.int .i64 (o[p]'hpl).1)) := by obtain ⟨n, hn⟩ := HW.out; rw [hn]; exact cp0
            clear cp0
            have cf := HCF.out
            have cp := HCP.out
            have HPK := posK_step o f p hpl
            obtain ⟨y, hy0⟩ : ∃ y, (o[p]'hpl).1 = y := ⟨_, rfl⟩
            rw [hy0] at cp HPK
            clear hy0 HCF HCP
            have HPK : Hid _ := HPK
            have hpz : (0 : Int) < ((p + 1 : Nat) : Int) := by omega
            have hpk : (p : Int) < (k : Int) := by omega
            by_cases hy : f < y
            · go_wp2_with fail
              go_quiet (fail)
              go_wp2
              refine ⟨⟨p, by omega, rfl, ?_, ?_⟩, by simp [intOf]⟩
              · show _ = _
                rw [← HQ.out, HPK.out.1 hy]
              · obtain ⟨n, hn⟩ := HW.out
                exact ⟨n + nq, by rw [hn]; exact drewN_twice wo n nq⟩
            · have hyd : decide (f < y) = false := decide_eq_false hy
              have HQQ0 : Hid (posK o f k = p + 1) := by
                show _ = _
                rw [← HQ.out, HPK.out.2 hy]
              go_wp2_with fail
              go_quiet (fail)
              obtain ⟨q, hqe⟩ : ∃ q, p + 1 = q := ⟨_, rfl⟩
              have HQQ : Hid (posK o f k = q) := by show _ = _; rw [HQQ0.out, hqe]
              try rw [show ((p + 1 : Nat) : Int) = (q : Int) by omega]
              try rw [show (p : Int) + 1 = (q : Int) by omega]
              rw [hqe] at hq
              clear HQQ0 hqe cp HPK hpz hpk hpl hq0
              have HW2 : Hid (∃ n, wr.drewN nq = wo.drewN n) := by obtain ⟨n, hn⟩ := HW.out; exact ⟨n + nq, by rw [hn]; exact drewN_twice wo n nq⟩
              generalize wr.drewN nq = wx at HW2 ⊢
              clear HW
              have HP : Hid (posK o f k = q) := HQQ
              have HOW : Hid (OwnC w.heap.size wx (.slice (some ⟨g, 0, none⟩) k cu) o) := by obtain ⟨n, hn⟩ := HW2.out; rw [hn]; exact HO.out
              have HBW : Hid (Below w.heap.size w wx) := by obtain ⟨n, hn⟩ := HW2.out; rw [hn]; exact below_drewN' hB n
              have HCO : Hid (∀ j u, (cellsP o)[j]? = some u → wx.cell? ⟨g, j, none⟩ = some u) := by obtain ⟨n, hn⟩ := HW2.out; rw [hn]; exact HOC.out
              have hgw : g < wx.heap.size := (World.ownsRow.lt HOW.out g rfl).2
              have hwsz := HBW.out.size
              have hqc : (q : Int) ≤ (cu : Int) := by omega
              clear HOC HW2 HQ hB
              go_wp2_with (at_builtin; refine wpList_append_own2 _ rfl (.tmp 33) (.tmp 36) 43 rfl w.heap.size 45 i0 (.agg #[.int .i64 0, .slice none 0 0]) 2 32 Try.underlying43 hi0 hz0 hz1 hz2 rfl (by decide) _ _ _ rfl (World.ownsRow_nil _ _ _ _) ⟨g, 0, none⟩ q cu (cellsP (o.take q)) rfl (by rw [cellsP_length, List.length_take]; omega) (take_cells HCO.out q) (cells_one (fun c hc => H1.out c (List.mem_of_mem_take hc))) (by unfold maxLen; omega) (by omega) (by omega) ?_)
              intro v1 w1 hO1 hG1 hN1
              have HB1 : Hid (Below w.heap.size w w1) := HBW.out.grown hG1 (by omega) (fun r e => by simp [Value.ownBlock] at e)
              have HCO1 : Hid (∀ j u, (cellsP o)[j]? = some u → w1.cell? ⟨g, j, none⟩ = some u) := fun j u hj => (World.cell?_of_block (w := wx) (a := ⟨g, j, none⟩) (hG1.block g hgw (fun e => by simp [Value.ownBlock] at e))).trans (HCO.out j u hj)
              have HN1 : Hid (∀ r, v1.ownBlock = some r → wx.heap.size ≤ r) := fun r e => (hN1 r e).elim (fun h => by simp [Value.ownBlock] at h) id
              have HO1 : Hid (w1.ownsRow w.heap.size 45 2 v1 q (cellsP (o.take q))) := hO1
              have hs1 := hG1.size
              obtain ⟨c1, c2⟩ := HC.out w1 HB1.out
              have c2' : w1.cell? ⟨b, off + k * 2 + 1, none⟩ = some sv := c2
              clear hO1 hG1 hN1 HCO HBW HOW
              obtain ⟨a1, n1, k1, rfl⟩ : ∃ a1 n1 k1, v1 = .slice a1 n1 k1 := by
                rcases HO1.out.2 with ⟨rfl, _⟩ | ⟨_, _, _, rfl, _⟩
                · exact ⟨_, _, _, rfl⟩
                · exact ⟨_, _, _, rfl⟩
              go_wp2_with (at_builtin; refine wpList_append_own2 _ rfl (.tmp 38) (.tmp 43) 43 rfl w.heap.size 45 i0 (.agg #[.int .i64 0, .slice none 0 0]) 2 32 Try.underlying43 hi0 hz0 hz1 hz2 rfl (by decide) _ _ _ rfl (HO1.out.alloc _) ⟨w1.heap.size, 0, none⟩ 1 1 [.int .i64 f, sv] rfl rfl (cell_two_new' _ _ _ _) (by intro u hu; simp at hu; rcases hu with rfl | rfl <;> first | rfl | exact h1k) (by unfold maxLen; omega) (by omega) (by simp; omega) ?_)
              intro v2 w2 hO2 hG2 hN2
              have HB2 : Hid (Below w.heap.size w w2) := (HB1.out.alloc (by omega) _).grown hG2 (by rw [World.size_alloc]; omega) (fun r e => (World.ownsRow.lt HO1.out r e).1)
              have HCO2 : Hid (∀ j u, (cellsP o)[j]? = some u → w2.cell? ⟨g, j, none⟩ = some u) := fun j u hj => by
                have h3 := hG2.block g (by rw [World.size_alloc]; omega) (fun e => by have := HN1.out g e.symm; omega)
                have h4 : (w1.alloc (.cells #[.int .i64 f, sv] 45)).heap[g]? = w1.heap[g]? := Below.heap_alloc w1 _ g (by omega)
                exact (World.cell?_of_block (w := w1) (a := ⟨g, j, none⟩) (h3.trans h4)).trans (HCO1.out j u hj)
              have HO2 : Hid (w2.ownsRow w.heap.size 45 2 v2 (q + 1) (cellsP (o.take q) ++ [.int .i64 f, sv])) := hO2
              have hs2 := hG2.size
              rw [World.size_alloc] at hs2
              clear hO2 hG2 hN2 HCO1 HN1 HO1 c1 c2 c2'
              obtain ⟨a2, n2, k2, rfl⟩ : ∃ a2 n2 k2, v2 = .slice a2 n2 k2 := by
                rcases HO2.out.2 with ⟨rfl, _⟩ | ⟨_, _, _, rfl, _⟩
                · exact ⟨_, _, _, rfl⟩
                · exact ⟨_, _, _, rfl⟩
              have HFIN : Hid (∀ v3 w3, w3.ownsRow w.heap.size 45 2 v3 (q + 1 + (k - q)) (cellsP (o.take q) ++ [.int .i64 f, sv] ++ cellsP (o.drop q)) → OwnC w.heap.size w3 v3 (insC o (f, sv)) ∧ (insC o (f, sv)).length = k + 1) := fun v3 w3 h3 => by
                have e1 : insC o (f, sv) = o.take q ++ (f, sv) :: o.drop q := by unfold insC; rw [ho]; show o.take (posK o f k) ++ _ = _; rw [HP.out]
                have e2 : (insC o (f, sv)).length = k + 1 := by rw [(insC_perm o (f, sv)).length_eq, List.length_cons, ho]
                refine ⟨?_, e2⟩
                unfold OwnC
                rw [e2, e1, cellsP_append]
                have e3 : cellsP ((f, sv) :: o.drop q) = [.int .i64 f, sv] ++ cellsP (o.drop q) := rfl
                rw [e3, ← List.append_assoc]
                rw [show q + 1 + (k - q) = k + 1 by omega] at h3
                exact h3
              have H1N : Hid (OneC (insC o (f, sv))) := fun c hc => by
                rcases List.mem_cons.1 ((insC_perm o (f, sv)).mem_iff.1 hc) with rfl | hc
                · exact h1k
                · exact H1.out c hc
              have hqk : (q : Int) ≤ (k : Int) := by omega
              by_cases hcu : cu = q
              · obtain rfl : q = k := by omega
                subst hcu
                go_wp2_with (at_builtin; refine wpList_append_own2 _ rfl (.tmp 45) (.tmp 48) 43 rfl w.heap.size 45 i0 (.agg #[.int .i64 0, .slice none 0 0]) 2 32 Try.underlying43 hi0 hz0 hz1 hz2 rfl (by decide) _ _ _ rfl HO2.out ⟨g, 0, none⟩ 0 0 [] rfl rfl (fun j u hj => by simp at hj) (fun u hu => by simp at hu) (by unfold maxLen; omega) (by omega) (by omega) ?_)
                intro v3 w3 hO3 hG3 hN3
                have HF : Hid _ := HFIN.out v3 w3 (by rw [List.drop_eq_nil_of_le (by omega), Nat.sub_self]; simpa [cellsP] using hO3)
                have HB3 : Hid (Below w.heap.size w w3) := HB2.out.grown hG3 (by omega) (fun r e => (World.ownsRow.lt HO2.out r e).1)
                clear hO3 hG3 hN3 HFIN HO2 HB2 HCO2
                go_wp2
                exact ⟨⟨cu + 1, _, by omega, by simp, HF.out.2, fun e => by omega, HST, H1N, HF.out.1, HB3.out⟩, by simp [intOf]; omega⟩
              · go_wp2_with (at_builtin; refine wpList_append_own2 _ rfl (.tmp 45) (.tmp 48) 43 rfl w.heap.size 45 i0 (.agg #[.int .i64 0, .slice none 0 0]) 2 32 Try.underlying43 hi0 hz0 hz1 hz2 rfl (by decide) _ _ _ rfl HO2.out ⟨g, q * 2, none⟩ (k - q) (cu - q) (cellsP (o.drop q)) rfl (by rw [cellsP_length, List.length_drop, ho]) (drop_cells HCO2.out q) (cells_one (fun c hc => H1.out c (List.mem_of_mem_drop hc))) (by unfold maxLen; omega) (by omega) (by omega) ?_)
                intro v3 w3 hO3 hG3 hN3
                have HF : Hid _ := HFIN.out v3 w3 (by simpa using hO3)
                have HB3 : Hid (Below w.heap.size w w3) := HB2.out.grown hG3 (by omega) (fun r e => (World.ownsRow.lt HO2.out r e).1)
                clear hO3 hG3 hN3 HFIN HO2 HB2 HCO2
                go_wp2
                exact ⟨⟨k + 1, _, by omega, by simp, HF.out.2, fun e => by omega, HST, H1N, HF.out.1, HB3.out⟩, by simp [intOf]; omega⟩
    · obtain rfl : k = L := by omega
      have HE : Hid (srtL l = o) := by show _ = _; rw [← HS.out, List.take_of_length_le (by omega)]
      have HB : Hid _ := hB
      clear hI hB
      go_wp2
      go_ret
      exact ⟨_, rfl, by rw [HE.out]; exact HO.out, HB.out⟩
end Go.Proofs.Ytiakploggmmklaa
