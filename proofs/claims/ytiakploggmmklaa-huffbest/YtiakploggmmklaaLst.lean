/- The document's Least. -/
import Derived.Test.YtiakploggmmklaaLsp
import Derived.Test.YtiakploggmmklaaOrm
namespace Go.Proofs.Ytiakploggmmklaa
open Go.RowKit

/-- What Least tells. -/
def LeastIs (fs : List Int) (limit : Nat) (R : Int) : Prop :=
  ((ordL fs fs.length).length = 0 → R = 0) ∧ ((ordL fs fs.length).length = 1 → R = keyF fs (gt (ordL fs fs.length) 0)) ∧
  (2 ≤ (ordL fs fs.length).length → ∃ os : List Int, os.Perm (ordL fs fs.length) ∧ Srt (keyF fs) os 0 os.length ∧ R = wsum ((rowN (singlesL fs os) (limit - 1)).take (2 * os.length - 2)))
theorem ord_one_new (w : World) (x : Int) : OrdIn (w.alloc (.cells #[.int .i64 x] 3)) w.heap.size [x] :=
  ⟨_, Row.new _ _ _, Nat.le_refl _, fun i h => by
    obtain rfl : i = 0 := by simp at h; omega
    rfl⟩

theorem row_bd (sl : List Coin) (h2 : 2 ≤ sl.length) : ∀ k, 2 ≤ (rowN sl k).length ∧ (rowN sl k).length ≤ 2 * sl.length
  | 0 => by rw [rowN]; omega
  | k + 1 => by
    have := row_bd sl h2 k
    rw [row_len]
    omega
/-- The list of coins at row k. -/
structure LAt (fs : List Int) (W : World) (sl : List Coin) (k g L : Nat) (ll : List CP) : Prop where
  wts : ll.map (·.1) = (rowN sl k).map (·.1)
  ok : CoinsOk fs W (2 ^ k) ll
  len : ll.length = L
  lt : g < W.heap.size
  cells : ∀ j u, (cellsP ll)[j]? = some u → W.cell? ⟨g, j, none⟩ = some u
theorem LAt.below {fs : List Int} {W W' : World} {sl : List Coin} {k g L N : Nat} {ll : List CP} (h : LAt fs W sl k g L ll) (hB : Below N W W') (hN : W.heap.size ≤ N) : LAt fs W' sl k g L ll :=
  ⟨h.wts, h.ok.below hB hN, h.len, by have := h.lt; have := hB.size; omega, fun j u hj => (hB.cell (p := ⟨g, j, none⟩) (by have := h.lt; simp; omega)).trans (h.cells j u hj)⟩
theorem LAt.bd {fs : List Int} {W : World} {sl : List Coin} {k g L : Nat} {ll : List CP} (h : LAt fs W sl k g L ll) (h2 : 2 ≤ sl.length) : 2 ≤ L ∧ L ≤ 2 * sl.length := by
  have h1 : ll.length = (rowN sl k).length := by simpa using congrArg List.length h.wts
  have := row_bd sl h2 k
  have := h.len
  omega
theorem OwnC.below {base N : Nat} {W W' : World} {v : Value} {l : List CP} (h : OwnC base W v l) (hB : Below N W W') (hN : W.heap.size ≤ N) : OwnC base W' v l := by
  refine ⟨h.1, ?_⟩
  rcases h.2 with h9 | ⟨g, cap, cur, e, h1, h2, h3⟩
  · exact .inl h9
  · have hlt : g < W.heap.size := (Array.getElem?_eq_some_iff.1 h2).1
    exact .inr ⟨g, cap, cur, e, h1, (hB.block g (by omega)).trans h2, h3⟩
theorem ord_src {W : World} {G : Nat} {ss : List Int} (h : OrdIn W G ss) : ∀ j u, (ss.map (Value.int .i64))[j]? = some u → W.cell? ((⟨G, 0, none⟩ : Addr).add j) = some u := by
  intro j u hj
  rw [List.getElem?_map] at hj
  by_cases hl : j < ss.length
  · rw [Go.WideShapes.add_plain, Nat.zero_add, h.cell j hl]
    rw [List.getElem?_eq_getElem hl] at hj ⊢
    exact hj
  · rw [List.getElem?_eq_none (by omega)] at hj
    cases hj
theorem ints_one {ss : List Int} : ∀ u ∈ ss.map (Value.int .i64), u.oneCell' = true := fun u hu => by
  obtain ⟨z, _, rfl⟩ := List.mem_map.1 hu
  rfl
/-- One coin of the list: its two cells, and its symbols. -/
theorem LAt.at {fs : List Int} {W : World} {sl : List Coin} {k g L : Nat} {ll : List CP} (h : LAt fs W sl k g L ll) (i : Nat) (hi : i < L) :
    ∃ f G cap ss, 0 < ss.length ∧ ss.length ≤ 2 ^ k ∧ OrdIn W G ss ∧ InB fs ss ∧ f = keySum fs ss ∧ (∀ h9 : i < ll.length, ll[i].1 = f) ∧ W.cell? ⟨g, i * 2, none⟩ = some (.int .i64 f) ∧ W.cell? ⟨g, i * 2 + 1, none⟩ = some (.slice (some ⟨G, 0, none⟩) (List.length ss) cap) := by
  have hil : i < ll.length := by have := h.len; omega
  obtain ⟨G, cap, ss, e1, e2, e3, e4, e5, e6⟩ := h.ok ll[i] (List.getElem_mem hil)
  have hat := cellsP_at ll i hil
  rw [Nat.mul_comm 2 i] at hat
  refine ⟨ll[i].1, G, cap, ss, e2, e3, e4, e5, e6, fun _ => rfl, h.cells _ _ hat.1, ?_⟩
  rw [h.cells _ _ hat.2, e1]

set_option maxRecDepth 100000 in
set_option maxHeartbeats 8000000 in
theorem least_any (S : Nat → Prop) (a : Option Addr) (cap limit : Nat) (fs : List Int) (w : World) (hS : ∀ k, S k → k < w.heap.size) (hF : IntsIn S w (.slice a fs.length cap) fs) (h1 : 1 ≤ limit) (h15 : limit ≤ 15) (hl : fs.length ≤ 320) (hfs : ∀ z ∈ fs, 0 ≤ z ∧ z ≤ 1073741824)
    (hlim : (ordL fs fs.length).length ≤ 2 ^ limit) (R : Int) (HR : Hid (LeastIs fs limit R)) :
    Calls Try.prog 8 #[.slice a fs.length cap, .int .i64 limit] w fun e w' => e = .returned (.int .i64 R) ∧ Below w.heap.size w w' := by
  obtain ⟨i0, hi0, hz0, hz1, hz2⟩ := info_parts Try.info45
  obtain ⟨j0, hj0, hj1, hj2, hj3⟩ := info_parts Try.info3
  go_enter Try.func8, Try.ntmps8
  go_wp2_with fail
  go_loopw [5, 6] (fun v5 v6 wr => ∃ (k : Nat) (l : List CP), k ≤ fs.length ∧ v6 = .int .i64 (k : Int) ∧ Hid (l.map (·.1) = (ordL fs k).map (keyF fs)) ∧ Hid (CoinsOk fs wr 1 l) ∧ Hid (OwnC w.heap.size wr v5 l) ∧ Below w.heap.size w wr) (fun _ v6 _ => fs.length - (intOf v6).toNat)
  case atStart => exact ⟨0, [], by omega, rfl, rfl, CoinsOk.nil _ _ _, World.ownsRow_nil _ _ _ _, Below.refl _ _⟩
  case round =>
    obtain ⟨k, l, hk, rfl, HW, HC, HO, hB⟩ := hrel
    have hsz := hB.size
    have hll : l.length = (ordL fs k).length := by simpa using congrArg List.length HW.out
    by_cases hlt : k < fs.length
    · obtain ⟨bf, of, rfl, hbf, ef⟩ := hF.at k hlt
      have hwl := hS bf hbf
      have cf : wr.cell? ⟨bf, of + k, none⟩ = some (.int .i64 (fs[k]?.getD 0)) := (hB.cell (p := ⟨bf, of + k, none⟩) hwl).trans ef
      have HO1 : Hid (ordL fs (k + 1) = if 0 < fs[k]?.getD 0 then ordL fs k ++ [(k : Int)] else ordL fs k) := rfl
      have holen := ordL_length fs k
      have HKF : Hid (keyF fs (k : Int) = fs[k]?.getD 0) := by show keyF fs _ = _; unfold keyF; rw [Int.toNat_natCast]
      clear ef hF
      generalize fs[k]?.getD 0 = f at cf HO1 HKF
      by_cases hf0 : 0 < f
      · have HE1 : Hid (ordL fs (k + 1) = ordL fs k ++ [(k : Int)]) := by show _ = _; rw [show ordL fs (k + 1) = _ from HO1.out, if_pos hf0]
        have HRC : Hid (CoinsOk fs wr 1 l ∧ OrdIn (wr.alloc (.cells #[.int .i64 (k : Int)] 3)) wr.heap.size [(k : Int)]) := ⟨HC.out, ord_one_new wr k⟩
        have cf2 : (wr.alloc (.cells #[.int .i64 (k : Int)] 3)).cell? ⟨bf, of + k, none⟩ = some (.int .i64 f) := (((Below.refl wr.heap.size wr).alloc (Nat.le_refl _) _).cell (p := ⟨bf, of + k, none⟩) (show bf < wr.heap.size by omega)).trans cf
        clear HO1
        go_wp2_with (at_builtin; refine wpList_append_own2 _ rfl (.tmp 25) (.tmp 33) 43 rfl w.heap.size 45 i0 (.agg #[.int .i64 0, .slice none 0 0]) 2 32 Try.underlying43 hi0 hz0 hz1 hz2 rfl (by decide) _ _ _ rfl ((HO.out.alloc _).alloc _) ⟨wr.heap.size + 1, 0, none⟩ 1 1 [.int .i64 f, .slice (some ⟨wr.heap.size, 0, none⟩) 1 1] rfl rfl (by have h9 := cell_two_new' (wr.alloc (.cells #[.int .i64 (k : Int)] 3)) (.int .i64 f) (.slice (some ⟨wr.heap.size, 0, none⟩) 1 1) 45; rw [World.size_alloc] at h9; exact h9) (by intro u hu; simp at hu; rcases hu with rfl | rfl <;> rfl) (by unfold maxLen; omega) (by omega) (by simp; omega) ?_)
        intro v2 w2 hO2 hG2 hN2
        have HC2 : Hid (CoinsOk fs w2 1 (l ++ [(f, .slice (some ⟨wr.heap.size, 0, none⟩) 1 1)])) := by
          refine CoinsOk.append (((HC.out.alloc _).alloc _).grown ((HO.out.alloc _).alloc _) hG2) (fun c hc => ?_)
          simp at hc
          subst hc
          refine ⟨_, _, [(k : Int)], rfl, Nat.one_pos, Nat.le_refl _, ?_, fun z hz => by simp at hz; omega, ?_⟩
          · exact ((ord_one_new wr k).below ((Below.refl _ _).alloc (Nat.le_refl _) _) (by rw [World.size_alloc]; omega)).grown ((HO.out.alloc _).alloc _) hG2
          · simp [keySum, HKF.out]
        have HB2 : Hid (Below w.heap.size w w2) := ((hB.alloc (by omega) _).alloc (by rw [World.size_alloc]; omega) _).grown hG2 (by rw [World.size_alloc, World.size_alloc]; omega) (fun r e => by
          rcases HO.out.2 with ⟨rfl, _⟩ | ⟨g, c, cur, rfl, hb, _⟩
          · simp [Value.ownBlock] at e
          · simp [Value.ownBlock] at e; omega)
        have HO2 : Hid (OwnC w.heap.size w2 v2 (l ++ [(f, .slice (some ⟨wr.heap.size, 0, none⟩) 1 1)])) := by
          show World.ownsRow _ _ _ _ _ _ _
          rw [cellsP_append, List.length_append, hll]
          exact hO2
        have HW2 : Hid ((l ++ [(f, Value.slice (some ⟨wr.heap.size, 0, none⟩) 1 1)]).map (·.1) = (ordL fs (k + 1)).map (keyF fs)) := by
          show _ = _
          rw [HE1.out, List.map_append, List.map_append, HW.out]
          simp [HKF.out]
        clear hO2 hG2 hN2 HC HO HW HRC
        go_wp2
        go_roundw
        case rel => exact ⟨k + 1, _, by omega, by simp, HW2, HC2, HO2, HB2.out⟩
        case measure => simp [intOf]; omega
      · have HE1 : Hid (ordL fs (k + 1) = ordL fs k) := by show _ = _; rw [show ordL fs (k + 1) = _ from HO1.out, if_neg hf0]
        have HW2 : Hid (l.map (·.1) = (ordL fs (k + 1)).map (keyF fs)) := by show _ = _; rw [HE1.out]; exact HW.out
        clear HO1
        go_wp2
        go_roundw
        case rel => exact ⟨k + 1, l, by omega, by simp, HW2, HC, HO, hB⟩
        case measure => simp [intOf]; omega
    · obtain rfl : k = fs.length := by omega
      obtain ⟨va, vc, rfl⟩ : ∃ va vc, u5 = .slice va l.length vc := by
        rcases HO.out.2 with ⟨rfl, h9⟩ | ⟨g, c, cur, rfl, hb, _⟩
        · exact ⟨_, _, by rw [h9]⟩
        · exact ⟨_, _, rfl⟩
      have holen := ordL_length fs fs.length
      obtain ⟨n, hn⟩ : ∃ n, l.length = n := ⟨_, rfl⟩
      have HLM : Hid (n ≤ 2 ^ limit) := by show _ ≤ _; rw [← hn, hll]; exact hlim
      have HRN : Hid ((n = 0 → R = 0) ∧ (n = 1 → R = keyF fs (gt (ordL fs fs.length) 0)) ∧
        (2 ≤ n → ∃ os : List Int, os.Perm (ordL fs fs.length) ∧ Srt (keyF fs) os 0 os.length ∧ R = wsum ((rowN (singlesL fs os) (limit - 1)).take (2 * os.length - 2)))) := by
        rw [← hn, hll]; exact HR.out
      have hn3 : n ≤ 320 := by omega
      clear hlim HR
      rw [hn]
      by_cases hn0 : n = 0
      · subst hn0
        have e0 := HRN.out.1 rfl
        subst e0
        have HB : Hid _ := hB
        clear HO HC HW HRN HLM hB hll holen hF hn
        go_wp2
        go_ret
        exact ⟨rfl, HB.out⟩
      by_cases hn1 : n = 1
      · subst hn1
        have e0 := HRN.out.2.1 rfl
        obtain ⟨g, rfl, c0⟩ : ∃ g, va = some ⟨g, 0, none⟩ ∧ wr.cell? ⟨g, 0, none⟩ = some (.int .i64 (keyF fs (gt (ordL fs fs.length) 0))) := by
          obtain ⟨x, hx⟩ : ∃ x, l = [x] := List.length_eq_one_iff.1 hn
          have hx1 : x.1 = keyF fs (gt (ordL fs fs.length) 0) := by
            have h9 := congrArg (fun q : List Int => q[0]?) HW.out
            have h8 : 0 < (ordL fs fs.length).length := by omega
            rw [hx] at h9
            simp [h8] at h9
            rw [h9]
            simp [gt, h8]
          rcases HO.out.2 with ⟨e, h9⟩ | ⟨g, c, cur, e, _⟩
          · omega
          · have h8 := World.ownsRow.cells HO.out (g := g) (by rw [e]; rfl) 0 (.int .i64 x.1) (by rw [hx]; rfl)
            simp only [Value.slice.injEq] at e
            rw [Go.WideShapes.add_plain, hx1] at h8
            exact ⟨g, e.1, h8⟩
        have HB : Hid _ := hB
        rw [← e0] at c0
        clear HO HC HW HRN HLM hB hll holen hF hn e0
        go_wp2
        go_ret
        exact ⟨rfl, HB.out⟩
      obtain ⟨os, hp, hs, hRR⟩ := HRN.out.2.2 (by omega)
      have hosl : os.length = n := by rw [hp.length_eq, ← hll, hn]
      have HSO : Hid _ := sorted_any (.slice va l.length vc) l wr HO.out.in_ HC.out.one (by omega)
      rw [hn] at HSO
      have t0 : ((n : Int) == 0) = false := by simp; omega
      have t1 : ((n : Int) == 1) = false := by simp; omega
      have HBW : Hid ((srtL l).map (·.1) = (singlesL fs os).map (·.1)) := base_wts hp hs HW.out hfs
      have HSI : Hid (Sing (singlesL fs os)) := singles_sing hfs hs
      have HPM : Hid ((srtL l).Perm l) := (srtL_ok l).2
      have HLB : Hid ((srtL l).length = n) := by show _ = n; rw [HPM.out.length_eq, hn]
      have HRR : Hid (R = wsum ((rowN (singlesL fs os) (limit - 1)).take (2 * n - 2))) := by show _ = _; rw [hRR, hosl]
      clear hRR HW HRN hll holen hp hs hosl
      go_wp2_with fail
      refine Calls.mono HSO.out ?_
      rintro e w1 ⟨vb, rfl, hO1, hB1⟩
      have HC1 : Hid (CoinsOk fs w1 1 (srtL l)) := (HC.out.below hB1 (Nat.le_refl _)).perm HPM.out
      have HO1 : Hid (OwnC wr.heap.size w1 vb (srtL l)) := hO1
      generalize srtL l = lb at HBW HPM HLB HC1 HO1
      generalize singlesL fs os = sl at HBW HSI HRR
      obtain ⟨gb, cb, rfl, hcb⟩ : ∃ gb cb, vb = .slice (some ⟨gb, 0, none⟩) n cb ∧ n ≤ cb := by
        rcases HO1.out.2 with ⟨rfl, h9⟩ | ⟨g, c, cur, rfl, hb, _, hc, _⟩
        · have := HLB.out; omega
        · exact ⟨_, _, by rw [HLB.out], by rw [← HLB.out]; exact hc⟩
      have hB1' : Below w.heap.size w w1 := hB.trans (hB1.mono hsz)
      have HB1 : Hid _ := hB1'
      have HF1 : Hid (IntsIn (fun k => k < w.heap.size) w1 (.slice a fs.length cap) fs) := (hF.kept (Kept.of_below hB1' hS)).mono hS
      have hs1 := hB1'.size
      have HCB : Hid (gb < w1.heap.size ∧ ∀ j u, (cellsP lb)[j]? = some u → w1.cell? ⟨gb, j, none⟩ = some u) := by
        have h9 := HO1.out
        rcases h9.2 with ⟨e, _⟩ | ⟨g, c, cur, e, _, hh, _⟩
        · simp at e
        · simp only [Value.slice.injEq, Option.some.injEq, Addr.mk.injEq] at e
          obtain rfl : gb = g := e.1.1
          refine ⟨(Array.getElem?_eq_some_iff.1 hh).1, fun j u hj => ?_⟩
          have h8 := World.ownsRow.cells h9 (g := gb) rfl j u hj
          rwa [Go.WideShapes.add_plain, Nat.zero_add] at h8
      have HSL : Hid (sl.length = n) := by
        show _ = n
        have h9 := congrArg List.length HBW.out
        simp at h9
        rw [← h9, HLB.out]
      have HLA : Hid (LAt fs w1 sl 0 gb n lb) := ⟨HBW.out, HC1.out, HLB.out, HCB.out.1, HCB.out.2⟩
      clear hB1 hB1' hB hO1 HO HC hsz HSO HPM hn hF hk hlt HO1
      go_wp2_with fail
      go_loopw [7, 8] (fun v7 v8 wm => ∃ (m q gl L cl : Nat) (ll : List CP), Hid (q = m + 1) ∧ q ≤ limit ∧ v8 = .int .i64 (q : Int) ∧ v7 = .slice (some ⟨gl, 0, none⟩) L cl ∧ Hid (LAt fs wm sl m gl L ll) ∧ Below w1.heap.size w1 wm) (fun _ v8 _ => limit - (intOf v8).toNat)
      case atStart => exact ⟨0, 1, gb, n, cb, lb, rfl, h1, rfl, rfl, HLA, Below.refl _ _⟩
      case round =>
        obtain ⟨m, q, gl, L, cl, ll, HQ, hm, rfl, rfl, HL, hBm⟩ := hrel
        obtain ⟨wm, hwm⟩ : ∃ wm, wm = wr := ⟨_, rfl⟩
        subst hwm
        have hsm := hBm.size
        have hLb := HL.out.bd (by have := HSL.out; omega)
        rw [HSL.out] at hLb
        by_cases hlt : q < limit
        · go_wp2_with fail
          go_loopw [9, 10] (fun v9 v10 wi => ∃ (i p : Nat) (pk : List CP), i ≤ L ∧ Hid (i = 2 * p) ∧ v10 = .int .i64 (i : Int) ∧ Hid (pk.map (·.1) = ((pairsL (rowN sl m)).take p).map (·.1)) ∧ Hid (CoinsOk fs wi (2 ^ (m + 1)) pk) ∧ Hid (OwnC wm.heap.size wi v9 pk) ∧ Below wm.heap.size wm wi) (fun _ v10 _ => L - (intOf v10).toNat)
          case atStart => exact ⟨0, 0, [], by omega, rfl, rfl, rfl, CoinsOk.nil _ _ _, World.ownsRow_nil _ _ _ _, Below.refl _ _⟩
          case round =>
            obtain ⟨i, p, pk, hi, HIP, rfl, HPW, HPC, HPO, hBi⟩ := hrel
            obtain ⟨wi, hwi⟩ : ∃ wi, wi = wr := ⟨_, rfl⟩
            subst hwi
            have hsi := hBi.size
            by_cases hlt2 : i + 1 < L
            · have hLi := HL.out.below hBi (Nat.le_refl _)
              obtain ⟨f1, G1, p1, ss1, a1, a2, a3, a4, a5, a6, x1, x2⟩ := hLi.at i (by omega)
              obtain ⟨f2, G2, p2, ss2, b1, b2, b3, b4, b5, b6, y1, y2⟩ := hLi.at (i + 1) hlt2
              have k1 := keySum_bd hfs ss1
              have k2 := keySum_bd hfs ss2
              have h2m : 2 ^ m ≤ 2 ^ 15 := Nat.pow_le_pow_right (by omega) (by have := HQ.out; omega)
              rw [← a5] at k1
              rw [← b5] at k2
              have kf1 : 0 ≤ f1 ∧ f1 ≤ 35184372088832 := by omega
              have kf2 : 0 ≤ f2 ∧ f2 ≤ 35184372088832 := by omega
              have HSS : Hid (ss1.length ≤ 32768 ∧ ss2.length ≤ 32768) := ⟨by omega, by omega⟩
              have HA : Hid (0 < ss1.length ∧ ss1.length ≤ 2 ^ m ∧ OrdIn wi G1 ss1 ∧ InB fs ss1 ∧ f1 = keySum fs ss1 ∧ ∀ h9 : i < ll.length, ll[i].1 = f1) := ⟨a1, a2, a3, a4, a5, a6⟩
              have HB : Hid (0 < ss2.length ∧ ss2.length ≤ 2 ^ m ∧ OrdIn wi G2 ss2 ∧ InB fs ss2 ∧ f2 = keySum fs ss2 ∧ ∀ h9 : i + 1 < ll.length, ll[i + 1].1 = f2) := ⟨b1, b2, b3, b4, b5, b6⟩
              clear hLi k1 k2 h2m a1 a2 a3 a4 a5 a6 b1 b2 b3 b4 b5 b6
              have HS4 : Hid (wi.drew.cell? ⟨gl, i * 2, none⟩ = some (.int .i64 f1) ∧ wi.drew.cell? ⟨gl, i * 2 + 1, none⟩ = some (.slice (some ⟨G1, 0, none⟩) ss1.length p1) ∧ wi.drew.cell? ⟨gl, (i + 1) * 2, none⟩ = some (.int .i64 f2) ∧ wi.drew.cell? ⟨gl, (i + 1) * 2 + 1, none⟩ = some (.slice (some ⟨G2, 0, none⟩) ss2.length p2)) := ⟨x1, x2, y1, y2⟩
              clear x1 x2 y1 y2
              have hltA : i < L := by omega
              have hwr1 : IntKind.i64.wrap ((i : Int) + 1) = ((i + 1 : Nat) : Int) := by rw [IntKind.wrap_i64]; omega
              have hwr2 : IntKind.i64.wrap (f1 + f2) = f1 + f2 := by rw [IntKind.wrap_i64]; omega
              obtain ⟨s1, hs1'⟩ : ∃ s1, ss1.length = s1 := ⟨_, rfl⟩
              obtain ⟨s2, hs2'⟩ : ∃ s2, ss2.length = s2 := ⟨_, rfl⟩
              rw [hs1'] at HA HS4 HSS
              rw [hs2'] at HB HS4 HSS
              have HS1 : Hid _ := hs1'
              have HS2 : Hid _ := hs2'
              have HSB : Hid (s1 ≤ 32768 ∧ s2 ≤ 32768 ∧ 0 < s1) := ⟨HSS.out.1, HSS.out.2, HA.out.1⟩
              clear hs1' hs2' HSS
              have HSW : Hid (∀ W, Below wi.heap.size wi W → W.cell? ⟨gl, i * 2, none⟩ = some (.int .i64 f1) ∧ W.cell? ⟨gl, i * 2 + 1, none⟩ = some (.slice (some ⟨G1, 0, none⟩) s1 p1) ∧ W.cell? ⟨gl, (i + 1) * 2, none⟩ = some (.int .i64 f2) ∧ W.cell? ⟨gl, (i + 1) * 2 + 1, none⟩ = some (.slice (some ⟨G2, 0, none⟩) s2 p2)) := by
                intro W hW
                have hgl : gl < wi.heap.size := by have := HL.out.lt; omega
                obtain ⟨z1, z2, z3, z4⟩ := HS4.out
                exact ⟨(hW.cell (p := ⟨gl, i * 2, none⟩) hgl).trans z1, (hW.cell (p := ⟨gl, i * 2 + 1, none⟩) hgl).trans z2, (hW.cell (p := ⟨gl, (i + 1) * 2, none⟩) hgl).trans z3, (hW.cell (p := ⟨gl, (i + 1) * 2 + 1, none⟩) hgl).trans z4⟩
              go_wp2_with fail
              refine wp_region_M (fun wx => wx.cell? ⟨gl, i * 2, none⟩ = some (.int .i64 f1) ∧ wx.cell? ⟨gl, i * 2 + 1, none⟩ = some (.slice (some ⟨G1, 0, none⟩) s1 p1) ∧ wx.cell? ⟨gl, (i + 1) * 2, none⟩ = some (.int .i64 f2) ∧ wx.cell? ⟨gl, (i + 1) * 2 + 1, none⟩ = some (.slice (some ⟨G2, 0, none⟩) s2 p2)) (fun j => decide (1 ≤ j) && decide (j ≤ 26)) 31 rfl (by kernel_rfl) ?_
              refine wpM_free 0 (v := ?_) rfl (by kernel_rfl) (by kernel_rfl) rfl (fun _ _ _ h => h) rfl (by intro wx; go_simp <;> rfl) ?_
              refine wpM_held 1 (v := ?_) rfl (by kernel_rfl) (by kernel_rfl) rfl (fun _ _ _ h => h) rfl (by rintro wx ⟨hx1, hx2, hx3, hx4⟩; go_simp <;> first | rfl | rw [if_pos hltA] | rw [if_pos hlt2] | rw [if_pos (by omega)]) HS4.out ?_
              refine wpM_held 2 (v := ?_) rfl (by kernel_rfl) (by kernel_rfl) rfl (fun _ _ _ h => h) rfl (by rintro wx ⟨hx1, hx2, hx3, hx4⟩; go_simp <;> first | rfl | rw [if_pos hltA] | rw [if_pos hlt2] | rw [if_pos (by omega)]) HS4.out ?_
              refine wpM_held 3 (v := ?_) rfl (by kernel_rfl) (by kernel_rfl) rfl (fun _ _ _ h => h) rfl (by rintro wx ⟨hx1, hx2, hx3, hx4⟩; go_simp <;> first | rfl | rw [if_pos hltA] | rw [if_pos hlt2] | rw [if_pos (by omega)]) HS4.out ?_
              refine wpM_held 4 (v := ?_) rfl (by kernel_rfl) (by kernel_rfl) rfl (fun _ _ _ h => h) rfl (by rintro wx ⟨hx1, hx2, hx3, hx4⟩; go_simp <;> first | rfl | rw [if_pos hltA] | rw [if_pos hlt2] | rw [if_pos (by omega)]) HS4.out ?_
              refine wpM_held 5 (v := ?_) rfl (by kernel_rfl) (by kernel_rfl) rfl (fun _ _ _ h => h) rfl (by rintro wx ⟨hx1, hx2, hx3, hx4⟩; go_simp <;> first | rfl | rw [if_pos hltA] | rw [if_pos hlt2] | rw [if_pos (by omega)]) HS4.out ?_
              refine wpM_held 6 (v := ?_) rfl (by kernel_rfl) (by kernel_rfl) rfl (fun _ _ _ h => h) rfl (by rintro wx ⟨hx1, hx2, hx3, hx4⟩; go_simp <;> first | rfl | rw [if_pos hltA] | rw [if_pos hlt2] | rw [if_pos (by omega)]) HS4.out ?_
              refine wpM_held 7 (v := ?_) rfl (by kernel_rfl) (by kernel_rfl) rfl (fun _ _ _ h => h) rfl (by rintro wx ⟨hx1, hx2, hx3, hx4⟩; go_simp <;> first | rfl | rw [if_pos hltA] | rw [if_pos hlt2] | rw [if_pos (by omega)]) HS4.out ?_
              refine wpM_held 8 (v := .int .i64 ((i + 1 : Nat) : Int)) rfl (by kernel_rfl) (by kernel_rfl) rfl (fun _ _ _ h => h) rfl (by rintro wx ⟨hx1, hx2, hx3, hx4⟩; go_simp; first | rw [hwr1] | rw [hwr2] | skip) HS4.out ?_
              refine wpM_held 9 (v := ?_) rfl (by kernel_rfl) (by kernel_rfl) rfl (fun _ _ _ h => h) rfl (by rintro wx ⟨hx1, hx2, hx3, hx4⟩; go_simp <;> first | rfl | rw [if_pos hltA] | rw [if_pos hlt2] | rw [if_pos (by omega)]) HS4.out ?_
              refine wpM_held 10 (v := ?_) rfl (by kernel_rfl) (by kernel_rfl) rfl (fun _ _ _ h => h) rfl (by rintro wx ⟨hx1, hx2, hx3, hx4⟩; go_simp <;> first | rfl | rw [if_pos hltA] | rw [if_pos hlt2] | rw [if_pos (by omega)]) HS4.out ?_
              refine wpM_held 11 (v := ?_) rfl (by kernel_rfl) (by kernel_rfl) rfl (fun _ _ _ h => h) rfl (by rintro wx ⟨hx1, hx2, hx3, hx4⟩; go_simp <;> first | rfl | rw [if_pos hltA] | rw [if_pos hlt2] | rw [if_pos (by omega)]) HS4.out ?_
              refine wpM_held 12 (v := .int .i64 (f1 + f2)) rfl (by kernel_rfl) (by kernel_rfl) rfl (fun _ _ _ h => h) rfl (by rintro wx ⟨hx1, hx2, hx3, hx4⟩; go_simp; first | rw [hwr1] | rw [hwr2] | skip) HS4.out ?_
              refine wpM_held 14 (v := ?_) rfl (by kernel_rfl) (by kernel_rfl) rfl (fun _ _ _ h => h) rfl (by rintro wx ⟨hx1, hx2, hx3, hx4⟩; go_simp <;> first | rfl | rw [if_pos hltA] | rw [if_pos hlt2] | rw [if_pos (by omega)]) HS4.out ?_
              refine wpM_held 15 (v := ?_) rfl (by kernel_rfl) (by kernel_rfl) rfl (fun _ _ _ h => h) rfl (by rintro wx ⟨hx1, hx2, hx3, hx4⟩; go_simp <;> first | rfl | rw [if_pos hltA] | rw [if_pos hlt2] | rw [if_pos (by omega)]) HS4.out ?_
              refine wpM_held 16 (v := ?_) rfl (by kernel_rfl) (by kernel_rfl) rfl (fun _ _ _ h => h) rfl (by rintro wx ⟨hx1, hx2, hx3, hx4⟩; go_simp <;> first | rfl | rw [if_pos hltA] | rw [if_pos hlt2] | rw [if_pos (by omega)]) HS4.out ?_
              refine wpM_held 17 (v := ?_) rfl (by kernel_rfl) (by kernel_rfl) rfl (fun _ _ _ h => h) rfl (by rintro wx ⟨hx1, hx2, hx3, hx4⟩; go_simp <;> first | rfl | rw [if_pos hltA] | rw [if_pos hlt2] | rw [if_pos (by omega)]) HS4.out ?_
              refine wpM_held 18 (v := ?_) rfl (by kernel_rfl) (by kernel_rfl) rfl (fun _ _ _ h => h) rfl (by rintro wx ⟨hx1, hx2, hx3, hx4⟩; go_simp <;> first | rfl | rw [if_pos hltA] | rw [if_pos hlt2] | rw [if_pos (by omega)]) HS4.out ?_
              refine wpM_held 20 (v := ?_) rfl (by kernel_rfl) (by kernel_rfl) rfl (fun _ _ _ h => h) rfl (by rintro wx ⟨hx1, hx2, hx3, hx4⟩; go_simp <;> first | rfl | rw [if_pos hltA] | rw [if_pos hlt2] | rw [if_pos (by omega)]) HS4.out ?_
              refine wpM_held 21 (v := ?_) rfl (by kernel_rfl) (by kernel_rfl) rfl (fun _ _ _ h => h) rfl (by rintro wx ⟨hx1, hx2, hx3, hx4⟩; go_simp <;> first | rfl | rw [if_pos hltA] | rw [if_pos hlt2] | rw [if_pos (by omega)]) HS4.out ?_
              refine wpM_held 22 (v := .int .i64 ((i + 1 : Nat) : Int)) rfl (by kernel_rfl) (by kernel_rfl) rfl (fun _ _ _ h => h) rfl (by rintro wx ⟨hx1, hx2, hx3, hx4⟩; go_simp; first | rw [hwr1] | rw [hwr2] | skip) HS4.out ?_
              refine wpM_held 23 (v := ?_) rfl (by kernel_rfl) (by kernel_rfl) rfl (fun _ _ _ h => h) rfl (by rintro wx ⟨hx1, hx2, hx3, hx4⟩; go_simp <;> first | rfl | rw [if_pos hltA] | rw [if_pos hlt2] | rw [if_pos (by omega)]) HS4.out ?_
              refine wpM_held 24 (v := ?_) rfl (by kernel_rfl) (by kernel_rfl) rfl (fun _ _ _ h => h) rfl (by rintro wx ⟨hx1, hx2, hx3, hx4⟩; go_simp <;> first | rfl | rw [if_pos hltA] | rw [if_pos hlt2] | rw [if_pos (by omega)]) HS4.out ?_
              refine wpM_held 25 (v := ?_) rfl (by kernel_rfl) (by kernel_rfl) rfl (fun _ _ _ h => h) rfl (by rintro wx ⟨hx1, hx2, hx3, hx4⟩; go_simp <;> first | rfl | rw [if_pos hltA] | rw [if_pos hlt2] | rw [if_pos (by omega)]) HS4.out ?_
              clear hwr1 hwr2 HS4
              refine wpM_one 13 rfl (by kernel_rfl) rfl ?_
              go_wp2_with fail
              have hBx : Below wi.heap.size wi (wi.alloc (.cells #[] 3)).drew := (Below.alloc (Below.refl wi.heap.size wi) (Nat.le_refl _) _).trans ⟨rfl, rfl, rfl, Nat.le_refl _, fun _ _ => rfl⟩
              have hOx : World.ownsRow (wi.alloc (.cells #[] 3)).drew wi.heap.size 3 1 (.slice (some ⟨wi.heap.size, 0, none⟩) 0 0) 0 [] := World.ownsRow_made wi #[] 0 (Nat.le_refl _) (Nat.zero_le _) rfl
              refine ⟨fun _ => HSW.out _ hBx, ?_⟩
              have HBX : Hid (Below wi.heap.size wi (wi.alloc (.cells #[] 3)).drew) := hBx
              have HOX : Hid (World.ownsRow (wi.alloc (.cells #[] 3)).drew wi.heap.size 3 1 (.slice (some ⟨wi.heap.size, 0, none⟩) 0 0) 0 []) := hOx
              clear hBx hOx
              generalize (wi.alloc (.cells #[] 3)).drew = wx at HBX HOX ⊢
              have hwxs := HBX.out.size
              have hA3 := HA.out.2.2.1
              have hB3 := HB.out.2.2.1
              have hG1 := hA3.lt
              have hG2 := hB3.lt
              have HN1 : Hid _ := ord_src (hA3.below HBX.out hG1)
              clear hA3 hB3
              refine wpM_one 19 rfl (by kernel_rfl) rfl ?_
              refine wpList_append_own2 _ rfl (.tmp 73) (.tmp 78) 22 rfl wi.heap.size 3 j0 (.int .i64 0) 1 8 Try.underlying22 hj0 hj1 hj2 hj3 rfl (by decide) (.slice (some ⟨wi.heap.size, 0, none⟩) 0 0) 0 [] rfl HOX.out ⟨G1, 0, none⟩ s1 p1 (ss1.map (Value.int .i64)) rfl (by rw [List.length_map, HS1.out]; omega) HN1.out ints_one (by have := HSB.out; unfold maxLen; omega) (by have := HSB.out; omega) (by omega) ?_
              intro v3 w3 hO3 hG3 hK3
              have HB3 : Hid (Below wi.heap.size wi w3) := HBX.out.grown hG3 (by omega) (fun r e => by simp [Value.ownBlock] at e; omega)
              have HO3 : Hid (w3.ownsRow wi.heap.size 3 1 v3 (0 + s1) ([] ++ ss1.map (Value.int .i64))) := hO3
              clear hO3 hG3 hK3 HN1 HOX HBX
              go_wp2_with fail
              refine ⟨fun _ => HSW.out _ HB3.out, ?_⟩
              have hw3s := HB3.out.size
              have HN2 : Hid _ := ord_src (HB.out.2.2.1.below HB3.out hG2)
              refine wpM_one 26 rfl (by kernel_rfl) rfl ?_
              refine wpList_append_own2 _ rfl (.tmp 79) (.tmp 85) 22 rfl wi.heap.size 3 j0 (.int .i64 0) 1 8 Try.underlying22 hj0 hj1 hj2 hj3 rfl (by decide) v3 (0 + s1) ([] ++ ss1.map (Value.int .i64)) rfl HO3.out ⟨G2, 0, none⟩ s2 p2 (ss2.map (Value.int .i64)) rfl (by rw [List.length_map, HS2.out]; omega) HN2.out ints_one (by have := HSB.out; unfold maxLen; omega) (by have := HSB.out; omega) (by omega) ?_
              intro v4 w4 hO4 hG4 hK4
              have HB4 : Hid (Below wi.heap.size wi w4) := HB3.out.grown hG4 (by omega) (fun r e => by
                rcases HO3.out.2 with ⟨rfl, _⟩ | ⟨g, c, cur, rfl, hb, _⟩
                · simp [Value.ownBlock] at e
                · simp [Value.ownBlock] at e; omega)
              have h4 : w4.ownsRow wi.heap.size 3 1 v4 (ss1 ++ ss2).length ((ss1 ++ ss2).map (Value.int .i64)) := by
                rw [List.length_append, HS1.out, HS2.out, List.map_append]
                simpa using hO4
              obtain ⟨G4, c4, rfl, hG4b, hO4'⟩ := ordIn_of_owns h4 (by rw [List.length_append, HS1.out]; have := HSB.out; omega)
              have HO4 : Hid (OrdIn w4 G4 (ss1 ++ ss2)) := hO4'
              have HL4 : Hid ((ss1 ++ ss2).length = s1 + s2) := by show _ = _; rw [List.length_append, HS1.out, HS2.out]
              rw [HL4.out]
              have hw4s := HB4.out.size
              clear hO4 hG4 hK4 HN2 HO3 HB3 h4 hO4'
              go_wp2_with fail
              refine ⟨fun _ => HSW.out _ HB4.out, ?_⟩
              clear HSW
              refine wpM_one 27 rfl (by kernel_rfl) rfl ?_
              go_wp2_with fail
              refine ⟨(fun h => by cases h), ?_⟩
              refine wpM_one 28 rfl (by kernel_rfl) rfl ?_
              go_wp2_with fail
              refine ⟨(fun h => by cases h), ?_⟩
              have hP4 : OwnC wm.heap.size w4 u9 pk := HPO.out.below HB4.out (Nat.le_refl _)
              have HP4 : Hid _ := hP4
              have hpkl : pk.length ≤ 1000 := by
                have h9 := congrArg List.length HPW.out
                have h8 : (pairsL (rowN sl m)).length = (rowN sl m).length / 2 := upto_length _ _
                have h7 : ll.length = (rowN sl m).length := by simpa using congrArg List.length HL.out.wts
                have h6 := HL.out.len
                simp at h9
                omega
              refine wpM_one 29 rfl (by kernel_rfl) rfl ?_
              clear hP4
              refine wpList_append_own2 _ rfl (.tmp 60) (.tmp 88) 43 rfl wm.heap.size 45 i0 (.agg #[.int .i64 0, .slice none 0 0]) 2 32 Try.underlying43 hi0 hz0 hz1 hz2 rfl (by decide) u9 pk.length (cellsP pk) rfl (HP4.out.alloc _) ⟨w4.heap.size, 0, none⟩ 1 1 [.int .i64 (f1 + f2), .slice (some ⟨G4, 0, none⟩) (s1 + s2) c4] rfl rfl (cell_two_new' _ _ _ _) (by intro u hu; simp at hu; rcases hu with rfl | rfl <;> rfl) (by unfold maxLen; omega) (by omega) (by simp; omega) ?_
              intro v5 w5 hO5 hG5 hK5
              have HP5 : Hid (OwnC wm.heap.size w5 v5 (pk ++ [(f1 + f2, .slice (some ⟨G4, 0, none⟩) (s1 + s2) c4)])) := by
                show World.ownsRow _ _ _ _ _ _ _
                rw [cellsP_append, List.length_append]
                exact hO5
              have HC5 : Hid (CoinsOk fs w5 (2 ^ (m + 1)) (pk ++ [(f1 + f2, .slice (some ⟨G4, 0, none⟩) (s1 + s2) c4)])) := by
                refine CoinsOk.append (((HPC.out.below HB4.out (Nat.le_refl _)).alloc _).grown (HP4.out.alloc _) hG5) (fun c hc => ?_)
                rw [List.mem_singleton] at hc
                subst hc
                have q1 := HA.out
                have q2 := HB.out
                refine ⟨G4, c4, ss1 ++ ss2, by rw [HL4.out], by rw [HL4.out]; omega, by rw [HL4.out, Nat.pow_succ]; omega, ?_, ?_, ?_⟩
                · exact (HO4.out.below ((Below.refl _ _).alloc (Nat.le_refl _) _) HO4.out.lt).grown (HP4.out.alloc _) hG5
                · intro z hz
                  rcases List.mem_append.1 hz with h | h
                  · exact q1.2.2.2.1 z h
                  · exact q2.2.2.2.1 z h
                · rw [keySum_append, ← q1.2.2.2.2.1, ← q2.2.2.2.2.1]
              have HB5 : Hid (Below wm.heap.size wm w5) := (((hBi.trans (HB4.out.mono hsi))).alloc (by omega) _).grown hG5 (by rw [World.size_alloc]; omega) (fun r e => by
                rcases HPO.out.2 with ⟨rfl, _⟩ | ⟨g, c, cur, rfl, hb, _⟩
                · simp [Value.ownBlock] at e
                · simp [Value.ownBlock] at e; omega)
              have HW5 : Hid ((pk ++ [(f1 + f2, Value.slice (some ⟨G4, 0, none⟩) (s1 + s2) c4)]).map (·.1) = ((pairsL (rowN sl m)).take (p + 1)).map (·.1)) := by
                have hip := HIP.out
                have hll := HL.out.len
                subst hip
                have q := pair_wts HL.out.wts (by omega) HPW.out (Value.slice (some ⟨G4, 0, none⟩) (s1 + s2) c4)
                rw [HA.out.2.2.2.2.2 (by omega), HB.out.2.2.2.2.2 (by omega)] at q
                exact q
              have HI5 : Hid (i + 2 = 2 * (p + 1)) := by show _ = _; have := HIP.out; omega
              clear hO5 hG5 hK5 HP4 HPC HPO HPW HB4 HO4 HL4 HA HB HS1 HS2 HSB HIP
              go_wp2_with fail
              refine ⟨(fun h => by cases h), ?_⟩
              refine wpM_one 30 rfl (by kernel_rfl) rfl ?_
              go_wp2_with fail
              refine ⟨(fun h => by cases h), ?_⟩
              refine wpM_done (by kernel_rfl) ?_
              go_wp2
              go_roundw
              case rel => exact ⟨i + 2, p + 1, _, by omega, HI5, by simp, HW5, HC5, HP5, HB5.out⟩
              case measure => simp [intOf]; omega
            · have HPA : Hid (pk.map (·.1) = (pairsL (rowN sl m)).map (·.1)) := by
                have h8 : (pairsL (rowN sl m)).length = (rowN sl m).length / 2 := upto_length _ _
                have h7 : ll.length = (rowN sl m).length := by simpa using congrArg List.length HL.out.wts
                have h6 := HL.out.len
                have h5 := HIP.out
                have h9 := HPW.out
                rw [List.take_of_length_le (by omega)] at h9
                exact h9
              have hpk : 0 < pk.length ∧ pk.length ≤ 1000 := by
                have h8 : (pairsL (rowN sl m)).length = (rowN sl m).length / 2 := upto_length _ _
                have h7 : ll.length = (rowN sl m).length := by simpa using congrArg List.length HL.out.wts
                have h6 := HL.out.len
                have h9 : pk.length = (pairsL (rowN sl m)).length := by simpa using congrArg List.length HPA.out
                omega
              obtain ⟨gp, cp, rfl, hgp, hpc⟩ : ∃ gp cp, u9 = .slice (some ⟨gp, 0, none⟩) pk.length cp ∧ gp < wi.heap.size ∧ ∀ j u, (cellsP pk)[j]? = some u → wi.cell? ⟨gp, j, none⟩ = some u := by
                have h9 := HPO.out
                rcases h9.2 with ⟨rfl, h8⟩ | ⟨g, c, cur, rfl, _, hh, _⟩
                · omega
                · refine ⟨g, c, rfl, (Array.getElem?_eq_some_iff.1 hh).1, fun j u hj => ?_⟩
                  have h8 := World.ownsRow.cells h9 (g := g) rfl j u hj
                  rwa [Go.WideShapes.add_plain, Nat.zero_add] at h8
              obtain ⟨np, hnp⟩ : ∃ np, pk.length = np := ⟨_, rfl⟩
              rw [hnp] at hpk
              rw [hnp]
              have HNP : Hid _ := hnp
              have hB1i : Below w1.heap.size w1 wi := hBm.trans (hBi.mono hsm)
              have hgb := HCB.out.1
              have HOX : Hid (World.ownsRow (wi.alloc (.cells #[] 45)) wi.heap.size 45 2 (.slice (some ⟨wi.heap.size, 0, none⟩) 0 0) 0 []) := World.ownsRow_made wi #[] 0 (Nat.le_refl _) (Nat.zero_le _) rfl
              have hBx : Below wi.heap.size wi (wi.alloc (.cells #[] 45)) := (Below.refl _ _).alloc (Nat.le_refl _) _
              have HNB : Hid (∀ j u, (cellsP lb)[j]? = some u → (wi.alloc (.cells #[] 45)).cell? ((⟨gb, 0, none⟩ : Addr).add j) = some u) := fun j u hj => by
                rw [Go.WideShapes.add_plain, Nat.zero_add]
                exact (hBx.cell (p := ⟨gb, j, none⟩) (show gb < wi.heap.size by omega)).trans ((hB1i.cell (p := ⟨gb, j, none⟩) hgb).trans (HCB.out.2 j u hj))
              have HNQ : Hid (∀ W, Below wi.heap.size wi W → ∀ j u, (cellsP pk)[j]? = some u → W.cell? ((⟨gp, 0, none⟩ : Addr).add j) = some u) := fun W hW j u hj => by
                rw [Go.WideShapes.add_plain, Nat.zero_add]
                exact (hW.cell (p := ⟨gp, j, none⟩) hgp).trans (hpc j u hj)
              have HCW : Hid (CoinsOk fs wi (2 ^ (m + 1)) (lb ++ pk)) := CoinsOk.append ((HC1.out.below hB1i (Nat.le_refl _)).more Nat.one_le_two_pow) HPC.out
              have HO45 : Hid (OneC lb ∧ OneC pk) := ⟨HC1.out.one, HPC.out.one⟩
              have HB1I : Hid _ := hB1i
              have HBX : Hid _ := hBx
              clear hnp hB1i hBx hpc HPO HPC HPW HIP
              have hw8 := HB1I.out.size
              go_wp2_with (at_builtin; refine wpList_append_own2 _ rfl (.tmp 90) (.tmp 91) 43 rfl wi.heap.size 45 i0 (.agg #[.int .i64 0, .slice none 0 0]) 2 32 Try.underlying43 hi0 hz0 hz1 hz2 rfl (by decide) _ _ _ rfl HOX.out ⟨gb, 0, none⟩ n cb (cellsP lb) rfl (by rw [cellsP_length, HLB.out]) HNB.out (cells_one HO45.out.1) (by unfold maxLen; omega) (by omega) (by simp) ?_)
              intro v2 w2 hO2 hG2 hK2
              have HB2 : Hid (Below wi.heap.size wi w2) := HBX.out.grown hG2 (by rw [World.size_alloc]; omega) (fun r e => by simp [Value.ownBlock] at e; omega)
              have HO2 : Hid (w2.ownsRow wi.heap.size 45 2 v2 n (cellsP lb)) := hO2
              have HNP2 : Hid _ := HNQ.out w2 HB2.out
              have hw2s := HB2.out.size
              clear hO2 hG2 hK2 HNB HOX
              go_wp2_with (at_builtin; refine wpList_append_own2 _ rfl (.tmp 92) (.tmp 93) 43 rfl wi.heap.size 45 i0 (.agg #[.int .i64 0, .slice none 0 0]) 2 32 Try.underlying43 hi0 hz0 hz1 hz2 rfl (by decide) _ _ _ rfl HO2.out ⟨gp, 0, none⟩ np cp (cellsP pk) rfl (by rw [cellsP_length, HNP.out]) HNP2.out (cells_one HO45.out.2) (by unfold maxLen; omega) (by omega) (by omega) ?_)
              intro v3 w3 hO3 hG3 hK3
              have hB3 : Below wi.heap.size wi w3 := HB2.out.grown hG3 (by omega) (fun r e => by
                rcases HO2.out.2 with ⟨rfl, _⟩ | ⟨g, c, cur, rfl, hb, _⟩
                · simp [Value.ownBlock] at e
                · simp [Value.ownBlock] at e; omega)
              have hO3' : OwnC wi.heap.size w3 v3 (lb ++ pk) := by
                show World.ownsRow _ _ _ _ _ _ _
                rw [cellsP_append, List.length_append, HLB.out, HNP.out]
                simpa using hO3
              have hC3 : CoinsOk fs w3 (2 ^ (m + 1)) (lb ++ pk) := HCW.out.below hB3 (Nat.le_refl _)
              have HSO : Hid _ := sorted_any v3 (lb ++ pk) w3 hO3'.in_ hC3.one (by rw [List.length_append, HLB.out, HNP.out]; omega)
              have HB3 : Hid _ := hB3
              have HC3 : Hid (CoinsOk fs w3 (2 ^ (m + 1)) (lb ++ pk)) := hC3
              clear hO3 hG3 hK3 hO3' hC3 HO2 HB2 HNP2 hB3 HBX HNQ
              go_wp2_with fail
              refine Calls.mono HSO.out ?_
              rintro e w4 ⟨v4, rfl, hO4, hB4⟩
              have hs3 := HB3.out.size
              have hB14 : Below w1.heap.size w1 w4 := (HB1I.out.trans (HB3.out.mono (by omega))).trans (hB4.mono (by omega))
              have hL0 : 0 < (srtL (lb ++ pk)).length := by rw [(srtL_ok (lb ++ pk)).2.length_eq, List.length_append, HLB.out]; omega
              obtain ⟨g4, c4, rfl, hL4⟩ : ∃ g4 c4, v4 = .slice (some ⟨g4, 0, none⟩) (srtL (lb ++ pk)).length c4 ∧ LAt fs w4 sl (m + 1) g4 (srtL (lb ++ pk)).length (srtL (lb ++ pk)) := by
                have hok : CoinsOk fs w4 (2 ^ (m + 1)) (srtL (lb ++ pk)) := (HC3.out.below hB4 (Nat.le_refl _)).perm (srtL_ok _).2
                have hwt : (srtL (lb ++ pk)).map (·.1) = (rowN sl (m + 1)).map (·.1) := next_wts HSI.out.srt (row_sorted HSI.out.srt m) HBW.out HPA.out
                rcases hO4.2 with ⟨_, h9⟩ | ⟨g, c, cur, rfl, _, hh, _⟩
                · omega
                · refine ⟨g, c, rfl, hwt, hok, rfl, (Array.getElem?_eq_some_iff.1 hh).1, fun j u hj => ?_⟩
                  have h8 := World.ownsRow.cells hO4 (g := g) rfl j u hj
                  rwa [Go.WideShapes.add_plain, Nat.zero_add] at h8
              have HL4 : Hid _ := hL4
              have HB14 : Hid _ := hB14
              generalize srtL (lb ++ pk) = l4 at HL4
              have HQ2 : Hid (q + 1 = m + 1 + 1) := by show _ = _; rw [HQ.out]
              clear hO4 hB4 hL0 hL4 hB14 HSO HB3 HC3 HCW HO45 HB1I HPA HNP
              go_wp2
              go_roundw
              case rel => exact ⟨m + 1, q + 1, g4, l4.length, c4, l4, HQ2, by omega, by simp, rfl, HL4, HB14.out⟩
              case measure => simp [intOf]; omega
        · have hml : m = limit - 1 := by have := HQ.out; omega
          have HQL : Hid (q = limit) := by show _ = _; omega
          have h2n : 2 * n ≤ L + 2 := by
            have h8 : ll.length = (rowN sl m).length := by simpa using congrArg List.length HL.out.wts
            have h7 := HL.out.len
            have h6 := row_long sl m 2 (by omega) (by rw [HSL.out, hml, two_pow limit h1]; exact HLM.out)
            rw [HSL.out] at h6
            omega
          have HRS : Hid (R = ((ll.take (2 * n - 2)).map (·.1)).sum) := by
            show _ = _
            rw [HRR.out, wsum_wts HL.out.wts, hml]
          have HFM : Hid (IntsIn (fun k => k < w.heap.size) wm (.slice a fs.length cap) fs) := HF1.out.kept (Kept.of_below hBm (fun k hk => by omega))
          have HEnd : Hid (Below w.heap.size w wm) := HB1.out.trans (hBm.mono hs1)
          have h2m : 2 ^ m ≤ 2 ^ 15 := Nat.pow_le_pow_right (by omega) (by omega)
          have HPW2 : Hid _ := h2m
          obtain ⟨N2, hN2⟩ : ∃ N2, 2 * n - 2 = N2 := ⟨_, rfl⟩
          rw [hN2] at HRS
          clear h2m hml hBm HRR HQ HF1 HB1
          go_wp2_with fail
          go_loopw [11, 12] (fun v11 v12 wr => ∃ (i : Nat) (s : Int), i ≤ N2 ∧ v12 = .int .i64 (i : Int) ∧ v11 = .int .i64 s ∧ Hid (s = ((ll.take i).map (·.1)).sum) ∧ 0 ≤ s ∧ s ≤ i * 35184372088832 ∧ wr = wm) (fun _ v12 _ => N2 - (intOf v12).toNat)
          case atStart => exact ⟨0, 0, by omega, rfl, rfl, rfl, by omega, by omega, rfl⟩
          case round =>
            obtain ⟨i, s, hi, rfl, rfl, HS, hs0, hs9, rfl⟩ := hrel
            by_cases hlt3 : i < N2
            · have hiL : i < L := by omega
              obtain ⟨f1, G1, p1, ss1, a1, a2, a3, a4, a5, a6, x1, x2⟩ := HL.out.at i hiL
              obtain ⟨s1, hs1'⟩ : ∃ s1, ss1.length = s1 := ⟨_, rfl⟩
              rw [hs1'] at x2 a1 a2
              have HS1 : Hid (ss1.length = s1) := hs1'
              have hs1b : s1 ≤ 32768 := by have := HPW2.out; omega
              have HA : Hid (OrdIn wr G1 ss1 ∧ InB fs ss1 ∧ f1 = keySum fs ss1 ∧ ∀ h9 : i < ll.length, ll[i].1 = f1) := ⟨a3, a4, a5, a6⟩
              clear hs1' a1 a2 a3 a4 a5 a6 x1
              have t1 : (i : Int) < 2 * (n : Int) - 2 := by omega
              obtain ⟨wo, hwo⟩ : ∃ wo, wo = wr := ⟨_, rfl⟩
              subst hwo
              go_wp2_with fail
              go_loopw [11, 13] (fun v11 v13 wr => ∃ (k : Nat) (t : Int), k ≤ s1 ∧ v13 = .int .i64 (k : Int) ∧ v11 = .int .i64 t ∧ Hid (t = s + keySum fs (ss1.take k)) ∧ s ≤ t ∧ t ≤ s + k * 1073741824 ∧ wr = wo) (fun _ v13 _ => s1 - (intOf v13).toNat)
              case atStart => exact ⟨0, s, by omega, rfl, rfl, by simp [keySum, Hid], by omega, by omega, rfl⟩
              case round =>
                obtain ⟨k, t, hk, rfl, rfl, HT, ht0, ht9, rfl⟩ := hrel
                by_cases hlt4 : k < s1
                · have hkl : k < ss1.length := by rw [HS1.out]; exact hlt4
                  have hz := HA.out.2.1 _ (List.getElem_mem hkl)
                  have ck := HA.out.1.cell k hkl
                  rw [List.getElem?_eq_getElem hkl, Option.getD_some] at ck
                  obtain ⟨z, hz'⟩ : ∃ z : Nat, ss1[k] = (z : Int) := ⟨ss1[k].toNat, by omega⟩
                  have hzl : z < fs.length := by omega
                  obtain ⟨bf, of, rfl, hbf, ef⟩ := HFM.out.at z hzl
                  have HK1 : Hid (keySum fs (ss1.take (k + 1)) = keySum fs (ss1.take k) + fs[z]?.getD 0) := by
                    show _ = _
                    rw [List.take_succ_eq_append_getElem hkl, keySum_append, hz']
                    congr 1
                    simp [keySum, keyF]
                  have hfb := keyF_bd hfs (z : Int)
                  unfold keyF at hfb
                  rw [Int.toNat_natCast] at hfb
                  rw [hz'] at ck
                  clear hz hkl hz'
                  generalize fs[z]?.getD 0 = f at ef HK1 hfb
                  have HT2 : Hid (t + f = s + keySum fs (ss1.take (k + 1))) := by show _ = _; rw [HK1.out, HT.out]; omega
                  clear HT HK1
                  go_wp2
                  go_roundw
                  case rel => exact ⟨k + 1, t + f, by omega, by simp, by simp, HT2, by omega, by omega, by first | trivial | rfl⟩
                  case measure => simp [intOf]; omega
                · have HSN : Hid (t = ((ll.take (i + 1)).map (·.1)).sum) := by
                    show _ = _
                    have hil : i < ll.length := by rw [HL.out.len]; exact hiL
                    rw [List.take_succ_eq_append_getElem hil, List.map_append, List.sum_append, ← HS.out, HT.out, List.take_of_length_le (by rw [HS1.out]; omega), ← HA.out.2.2.1]
                    simp [HA.out.2.2.2 hil]
                  clear HT HA HS1
                  go_wp2
                  go_roundw
                  case rel => exact ⟨i + 1, t, by omega, by simp, rfl, HSN, by omega, by omega, by first | trivial | rfl⟩
                  case measure => simp [intOf]; omega
            · obtain rfl : i = N2 := by omega
              have hsR : s = R := by rw [HS.out, HRS.out]
              subst hsR
              have t1 : ¬ (i : Int) < 2 * (n : Int) - 2 := by omega
              clear HS HRS
              go_wp2
              go_ret
              exact ⟨rfl, HEnd.out⟩
end Go.Proofs.Ytiakploggmmklaa
