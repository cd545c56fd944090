/- HuffBack is proved: for any slice of ints as lengths and any slice of ints as symbols (within the form's reach), symbols that are written by their codes are read again, and fewer than eight bits are left; no condition. -/
import Derived.Test.YtjieeddjhbbllaaLread
import Derived.Test.YtjieeddjhbbllaaBkp
namespace Go.Proofs.Ytjieeddjhbbllaa.huffBack
open Go.ChangeShapes Go.WideShapes Go.ChangeAt Go.RowKit

/-- Behind k symbols: what was put lies in the writer and in the row. -/
def BackAt (zs ss : List Int) (w3 : World) (k : Nat) (v : Value) (wr : World) : Prop :=
  (∃ ys, IsWr (· < w3.heap.size) wr w3.heap.size ys (bitsOf zs (putL zs ss k)).length ∧ Packed ys (bitsOf zs (putL zs ss k))) ∧ wr.ownsRow (w3.heap.size + 1) 3 1 v (putL zs ss k).length ((putL zs ss k).map (Value.int .i64)) ∧ Kept (· < w3.heap.size) w3 wr ∧ w3.heap.size + 1 ≤ wr.heap.size

set_option maxRecDepth 100000 in
set_option maxHeartbeats 4000000 in
theorem walk_err (a ab : Option Addr) (ca cb : Nat) (zs ss : List Int) (w : World) (h0 : errOf zs ≠ 0) (hI : IntsIn (· < w.heap.size) w (.slice a zs.length ca) zs) :
    Calls Try.prog 8 #[.slice a zs.length ca, .slice ab ss.length cb] w fun e w' => e = .returned (.bool true) ∧ Below w.heap.size w w' := by
  go_enter Try.func8, Try.ntmps8
  go_wp2_with fail
  refine (codes_any (· < w.heap.size) a ca zs w (fun _ h => h) hI).mono ?_
  rintro e w1 ⟨hB1, (⟨_, rfl⟩ | ⟨h9, _⟩)⟩
  rotate_left
  · exact absurd h9 h0
  have hs1 := hB1.size
  have HC : Hid _ := new_err (· < w.heap.size) a ca zs w1 (fun k hk => by omega) (hI.below hB1) h0
  have t1 : (errOf zs != errOf zs) = false := by simp
  have t2 : (errOf zs != 0) = true := by simpa using h0
  generalize errOf zs = er at HC t1 t2
  go_wp2_with fail
  refine Calls.mono HC.out ?_
  rintro e w2 ⟨rfl, hB2⟩
  have hs2 := hB2.size
  clear HC
  go_wp2_with fail
  refine (alive_any w2).mono ?_
  rintro e w3 ⟨rfl, hB3⟩
  go_wp2
  go_ret
  exact ⟨rfl, hB1.trans ((hB2.trans (hB3.mono hs2)).mono hs1)⟩

set_option maxRecDepth 100000 in
set_option maxHeartbeats 4000000 in
theorem walk_ok (a ab : Option Addr) (ca cb : Nat) (zs ss : List Int) (w : World) (h0 : errOf zs = 0) (hI : IntsIn (· < w.heap.size) w (.slice a zs.length ca) zs) (hl : ss.length ≤ 17592186043904) (hIs : IntsIn (· < w.heap.size) w (.slice ab ss.length cb) ss) :
    Calls Try.prog 8 #[.slice a zs.length ca, .slice ab ss.length cb] w fun e w' => e = .returned (.bool true) ∧ Below w.heap.size w w' := by
  have hrg := (errOf_zero h0).1.2
  have h320 := (errOf_zero h0).1.1
  have hcl : (codesOf zs).length = zs.length := by rw [codesOf, cstate_length]
  obtain ⟨i0, hi0, hz0, hz1, hz2⟩ := info_parts Try.info3
  go_enter Try.func8, Try.ntmps8
  go_wp2_with fail
  refine (codes_any (· < w.heap.size) a ca zs w (fun _ h => h) hI).mono ?_
  rintro e w1 ⟨hB1, (⟨h9, _⟩ | ⟨_, G, rfl, hwG, hR1⟩)⟩
  · exact absurd h0 h9
  have hs1 := hB1.size
  have HC : Hid _ := new_ok (· < w.heap.size) a ca zs w1 (fun k hk => by omega) (hI.below hB1) h0 h320
  go_wp2_with fail
  refine Calls.mono HC.out ?_
  rintro e w2 ⟨D, rfl, hwD, hD2, hB2⟩
  have hR2 := hR1.below hB2 hR1.lt
  have hB2' : Below w.heap.size w w2 := hB1.trans (hB2.mono hs1)
  clear HC hB1 hR1
  generalize w1.heap.size = base at hD2
  clear hB2
  go_wp2_with fail
  refine (alive_any w2).mono ?_
  rintro e w3 ⟨rfl, hB3⟩
  have hD3 := hD2.below hB3 (Nat.le_refl _)
  have hR3 := hR2.below hB3 hR2.lt
  have hB3' : Below w.heap.size w w3 := hB2'.trans (hB3.mono hB2'.size)
  clear hD2 hR2 hB3 hB2'
  go_wp2_with fail
  refine (newWriter_any w3).mono ?_
  rintro e w4 ⟨rfl, hw4⟩
  have hT4 : Two w4 w3.heap.size 85 (.slice none 0 0) (.int .i64 0) := hw4 ▸ Two.new w3 _ _ _
  have hK4 : Kept (· < w3.heap.size) w3 w4 := hw4 ▸ (Kept.refl _ w3).alloc (fun _ h => h) _
  have hs4 : w4.heap.size = w3.heap.size + 1 := by rw [hw4]; simp
  have hI4 : IsWr (· < w3.heap.size) w4 w3.heap.size [] 0 := ⟨none, 0, hT4, World.ownsRow_nil _ _ _ _, fun k hk => by simp [Value.ownBlock] at hk⟩
  have hI3 : IntsIn (· < w3.heap.size) w3 (.slice a zs.length ca) zs := (hI.below hB3').mono (fun k hk => Nat.lt_of_lt_of_le hk hB3'.size)
  have hS3 : IntsIn (· < w3.heap.size) w3 (.slice ab ss.length cb) ss := (hIs.below hB3').mono (fun k hk => Nat.lt_of_lt_of_le hk hB3'.size)
  clear hT4 hw4 hI hIs
  go_wp2_with fail
  go_loopw [10, 11] (fun v10 v11 wr => ∃ k : Nat, k ≤ ss.length ∧ v11 = .int .i64 k ∧ BackAt zs ss w3 k v10 wr) (fun _ v11 _ => ss.length - (intOf v11).toNat)
  case atStart => exact ⟨0, by omega, rfl, ⟨[], hI4, packed_nil⟩, World.ownsRow_nil _ _ _ _, hK4, by omega⟩
  case round =>
    clear hI4 hK4
    obtain ⟨k, hk, rfl, ⟨ys, hW, hp⟩, hO, hK, hsz⟩ := hrel
    by_cases hlt : k < ss.length
    · obtain ⟨gu, cu, rfl⟩ := owns_form hO
      obtain ⟨bs, os, rfl, hbs, eS⟩ := hS3.at k hlt
      have cS := (hK.cell (p := ⟨bs, os + k, none⟩) hbs).trans eS
      have HPL : Hid (putL zs ss (k + 1) = if hasCode zs (ss[k]?.getD 0) then putL zs ss k ++ [ss[k]?.getD 0] else putL zs ss k) := rfl
      have hpl := putL_length zs ss k
      generalize ss[k]?.getD 0 = s at cS HPL
      clear eS
      cases hc : hasCode zs s with
      | true =>
        have hc' := hc
        simp only [hasCode, Bool.and_eq_true, decide_eq_true_eq] at hc'
        obtain ⟨sn, rfl⟩ := Int.eq_ofNat_of_zero_le hc'.1.1
        have hsl : sn < zs.length := by omega
        have HP2 : Hid (putL zs ss (k + 1) = putL zs ss k ++ [(sn : Int)]) := by
          show _ = _
          rw [HPL.out, hc]
          simp
        obtain ⟨bz, oz, rfl, hbz, eZ⟩ := hI3.at sn hsl
        have cZ := (hK.cell (p := ⟨bz, oz + sn, none⟩) hbz).trans eZ
        have hL : zs[sn]?.getD 0 = (codeLen zs (sn : Int) : Int) := by
          have h9 := lenAt_rng hrg sn
          show lenAt zs sn = _
          unfold codeLen
          rw [Int.toNat_natCast]
          omega
        have hL15 := codeLen_le hrg (sn : Int)
        have hL1 : 0 < codeLen zs (sn : Int) := by
          have h9 : 0 < lenAt zs (sn : Int).toNat := hc'.2
          rw [Int.toNat_natCast, show lenAt zs sn = _ from hL] at h9
          omega
        rw [hL] at cZ
        have cC := (hR3.kept hK hR3.lt).cell (u32s_at (codesOf zs) sn (by omega))
        have gC : (codesOf zs)[sn]'(by omega) = codeAt zs sn := by simp [codeAt, show sn < (codesOf zs).length by omega]
        rw [gC] at cC
        have hci : codeAt zs sn < 4294967296 := by
          have h9 := (Good.of_err h0).code_lt sn (codeLen zs (sn : Int)) hsl hL hL1
          have h8 : (2 : Nat) ^ codeLen zs (sn : Int) ≤ 2 ^ 15 := Nat.pow_le_pow_right (by omega) hL15
          omega
        have HBt : Hid (bitsOf zs (putL zs ss k ++ [(sn : Int)]) = bitsOf zs (putL zs ss k) ++ lowBits (revN (codeAt zs sn) (codeLen zs (sn : Int))) (codeLen zs (sn : Int))) := by
          show _ = _
          rw [bitsOf_snoc, symBits, Int.toNat_natCast]
        have hble := bitsOf_le hrg (putL zs ss k)
        have hal := hW.also hO
        have HRev : Hid (∀ W : World, Calls Try.prog 27 #[.int .u32 (codeAt zs sn : Int), .int .i64 (codeLen zs (sn : Int) : Int)] W fun e w' => e = .returned (.int .u32 (revN (codeAt zs sn) (codeLen zs (sn : Int)) : Int)) ∧ w' = W) := fun W => by
          have h9 := rev_any (codeAt zs sn) (codeLen zs (sn : Int) : Int) hci (by omega) (by omega) W
          rwa [show min ((codeLen zs (sn : Int) : Int)).toNat 32 = codeLen zs (sn : Int) by omega] at h9
        have HPut : Hid _ := put_any (fun x => x < w3.heap.size ∨ (Value.slice gu (putL zs ss k).length cu).ownBlock = some x) w3.heap.size ys (bitsOf zs (putL zs ss k)).length (revN (codeAt zs sn) (codeLen zs (sn : Int))) (codeLen zs (sn : Int)) wr.drew hal.1
          (fun x hx => by rcases hx with hx | hx; exact Nat.lt_of_lt_of_le hx hK.size; exact (hO.lt x hx).2) (fun hx => by rcases hx with hx | hx; omega; exact hal.2 hx) hp.len (by omega) (revN_lt32 _ _ (by omega)) (by omega)
        have HFin : Hid (∀ w5, IsWr (fun x => x < w3.heap.size ∨ (Value.slice gu (putL zs ss k).length cu).ownBlock = some x) w5 w3.heap.size (pushN ys (bitsOf zs (putL zs ss k)).length (revN (codeAt zs sn) (codeLen zs (sn : Int))) (codeLen zs (sn : Int))) ((bitsOf zs (putL zs ss k)).length + codeLen zs (sn : Int)) →
            Kept (fun x => x < w3.heap.size ∨ (Value.slice gu (putL zs ss k).length cu).ownBlock = some x) wr.drew w5 →
            w5.ownsRow (w3.heap.size + 1) 3 1 (.slice gu (putL zs ss k).length cu) (putL zs ss k).length ((putL zs ss k).map (Value.int .i64)) ∧ w3.heap.size + 1 ≤ w5.heap.size ∧
            ∀ (o : Obj) (v' : Value) (w6 : World), w6.ownsRow (w3.heap.size + 1) 3 1 v' ((putL zs ss k).length + 1) ((putL zs ss k).map (Value.int .i64) ++ [.int .i64 (sn : Int)]) → (w5.alloc o).grownBy w6 (Value.slice gu (putL zs ss k).length cu).ownBlock → BackAt zs ss w3 (k + 1) v' w6) := by
          intro w5 hW5 hK5
          have hO5 := owns_kept (w := wr.drew) hO hK5 (fun x hx => .inr hx)
          have hs5 : wr.heap.size ≤ w5.heap.size := hK5.size
          refine ⟨hO5, by omega, fun o v' w6 hO6 hg6 => ?_⟩
          unfold BackAt
          rw [HP2.out]
          have hK6 : Kept (· < w3.heap.size) w3 w6 := by
            have h9 : Kept (· < w3.heap.size) w3 w5 := hK.drew.trans (hK5.mono (fun x hx => .inl hx))
            refine (h9.alloc (fun x hx => Nat.lt_of_lt_of_le hx h9.size) o).grown hg6 (fun x hx => by have hx' : x < w3.heap.size := hx; rw [World.size_alloc]; omega) (fun x hx hx2 => ?_)
            have h8 := (hO.lt x hx).1
            have h7 : x < w3.heap.size := hx2
            omega
          refine ⟨⟨pushN ys (bitsOf zs (putL zs ss k)).length (revN (codeAt zs sn) (codeLen zs (sn : Int))) (codeLen zs (sn : Int)), ?_, ?_⟩, ?_, hK6, ?_⟩
          · rw [HBt.out, List.length_append, lowBits_length]
            exact ((hW5.alloc o).grown (hO5.alloc o) hg6).mono (fun x hx => .inl hx)
          · rw [HBt.out]
            exact pushN_packed hp _ _
          · rw [List.length_append, List.length_singleton, List.map_append, List.map_cons, List.map_nil]
            exact hO6
          · have h9 := hg6.size
            rw [World.size_alloc] at h9
            omega
        clear hW hp hO hK HPL HP2 hc hc' hD3 hR3 hI3 hS3 eZ hL gC HBt hal hble hci
        generalize codeAt zs sn = ci at cC HRev HPut HFin
        generalize codeLen zs (sn : Int) = L at cZ hL15 hL1 HRev HPut HFin
        generalize revN ci L = rv at HRev HPut HFin
        go_wp2_with fail
        go_region_with (first | (go_at_call 27; refine Calls.mono (HRev.out _) ?_; rintro e w4 ⟨rfl, rfl⟩) | (go_at_call 26; refine Calls.mono HPut.out ?_; rintro e w5 ⟨rfl, hW5, hK5⟩; obtain ⟨hO5, hs5, hfin⟩ := HFin.out w5 hW5 hK5; have HF5 : Hid _ := hfin; clear hW5 hK5 hfin))
        all_goals go_wp2_with (at_builtin; refine wpList_append_own2 _ rfl (.tmp 77) (.tmp 79) 22 rfl (w3.heap.size + 1) 3 i0 (.int .i64 0) 1 8 Try.underlying22 hi0 hz0 hz1 hz2 rfl (by decide) _ _ _ rfl (hO5.alloc _) ⟨w5.heap.size, 0, none⟩ 1 1 [.int .i64 (sn : Int)] rfl rfl (cell_one_new _ _ _) (by simp [Value.oneCell']) (by unfold maxLen; omega) (by omega) (by simp; omega) ?_)
        all_goals intro v' w6 hown' hgrow hblk
        all_goals have HB6 : Hid _ := HF5.out _ v' w6 hown' hgrow
        all_goals clear HF5 hown' hgrow hblk HPut HFin HRev
        all_goals go_wp2
        all_goals exact ⟨⟨k + 1, by omega, by simp, HB6.out⟩, by simp [intOf]; omega⟩
      | false =>
        have HP2 : Hid (putL zs ss (k + 1) = putL zs ss k) := by
          show _ = _
          rw [HPL.out, hc]
          simp
        have HF : Hid (BackAt zs ss w3 (k + 1) (.slice gu (putL zs ss k).length cu) wr) := by
          show BackAt _ _ _ _ _ _
          unfold BackAt
          rw [HP2.out]
          exact ⟨⟨ys, hW, hp⟩, hO, hK, hsz⟩
        by_cases c1 : 0 ≤ s
        · by_cases c2 : s < zs.length
          · obtain ⟨sn, rfl⟩ := Int.eq_ofNat_of_zero_le c1
            have hsl : sn < zs.length := by omega
            obtain ⟨bz, oz, rfl, hbz, eZ⟩ := hI3.at sn hsl
            have cZ := (hK.cell (p := ⟨bz, oz + sn, none⟩) hbz).trans eZ
            have hz0 : zs[sn]?.getD 0 = 0 := by
              have h9 := lenAt_rng hrg sn
              have h8 : ¬ (0 < lenAt zs sn) := fun h7 => by simp [hasCode, hsl, h7] at hc
              show lenAt zs sn = 0
              omega
            rw [hz0] at cZ
            clear eZ hW hp hO hK HPL HP2 hc hz0 hD3 hR3 hI3 hS3
            go_wp2
            exact ⟨⟨k + 1, by omega, by simp, HF.out⟩, by simp [intOf]; omega⟩
          · have t1 : decide (s < (zs.length : Int)) = false := decide_eq_false c2
            clear hW hp hO hK HPL HP2 hc hD3 hR3 hI3 hS3
            go_wp2
            exact ⟨⟨k + 1, by omega, by simp, HF.out⟩, by simp [intOf]; omega⟩
        · have t1 : decide (0 ≤ s) = false := decide_eq_false c1
          clear hW hp hO hK HPL HP2 hc hD3 hR3 hI3 hS3
          go_wp2
          exact ⟨⟨k + 1, by omega, by simp, HF.out⟩, by simp [intOf]; omega⟩
    · obtain rfl : k = ss.length := by omega
      obtain ⟨gu, cu, rfl⟩ := owns_form hO
      obtain ⟨ps, HPS⟩ : ∃ ps, putL zs ss ss.length = ps := ⟨_, rfl⟩
      have hpok := putL_ok zs ss ss.length
      have hple := putL_length zs ss ss.length
      rw [HPS] at hW hp hO hpok hple ⊢
      clear HPS
      have hble := bitsOf_le hrg ps
      obtain ⟨g, c, hTw, hOw, hgw⟩ := hW
      have hbI : BytesIn (fun _ => True) wr (.slice g ys.length c) ys := bytesIn_of_owns _ hOw (fun _ _ => trivial)
      have hyl : ys.length ≤ 140737488351232 := by have := hp.len; omega
      have HDn : Hid _ := done_any w3.heap.size g c _ ys _ wr (by omega) hTw hbI
      have hDr := hD3.kept hK (fun x hx => by
        obtain ⟨cs, h9 | h9⟩ := hx
        · exact h9.lt
        · exact h9.lt)
      clear hTw hOw hgw hbI hR3 hI3 hS3
      go_wp2_with fail
      refine Calls.mono HDn.out ?_
      rintro e w7 ⟨g7, c7, rfl, hO7, hB7⟩
      have hb7 : BytesIn (fun _ => True) w7 (.slice g7 ys.length c7) ys := bytesIn_of_owns _ hO7 (fun _ _ => trivial)
      have HNr : Hid _ := newReader_any _ g7 c7 ys w7 (by omega) hb7
      clear HDn hb7 hO7
      go_wp2_with fail
      refine Calls.mono HNr.out ?_
      rintro e w8 ⟨R, g8, c8, rfl, hR8, hT8, hO8, hB8⟩
      have hB78 : Below wr.heap.size wr w8 := hB7.trans (hB8.mono hB7.size)
      have hD8 := hDr.below hB78 (Nat.le_refl _)
      have hP8 := owns_kept hO (Kept.of_below hB78 (fun _ h => h) : Kept (· < wr.heap.size) wr w8) (fun x hx => (hO.lt x hx).2)
      have hb8 : BytesIn (fun x => x < w8.heap.size ∧ x ≠ R) w8 (.slice g8 ys.length c8) ys := bytesIn_of_owns _ hO8 (fun x hx => ⟨(hO8.lt x hx).2, fun e => hT8.not_row (by decide) hO8 (e ▸ hx.symm)⟩)
      have hwr := hK.size
      have hRw : w3.heap.size ≤ R := by have := hB7.size; omega
      have HBel : Hid (∀ w9, Kept (fun x => x < w8.heap.size ∧ x ≠ R) w8 w9 → Below w.heap.size w w9) := fun w9 h9 => by
        have hw := hB3'.size
        have hsz8 := hB78.size
        have k1 : Kept (· < w.heap.size) w w8 := (Kept.of_below hB3' (fun _ h => h)).trans ((hK.mono (fun x hx => Nat.lt_of_lt_of_le hx hw)).trans (Kept.of_below hB78 (fun x hx => by have hx' : x < w.heap.size := hx; omega)))
        exact (k1.trans (h9.mono (fun x hx => by have hx' : x < w.heap.size := hx; exact ⟨by omega, by omega⟩))).below (fun _ h => h)
      clear HNr hDr hO hB7 hB8 hB78 hO8 hK hB3'
      go_wp2_with fail
      go_loopw [14] (fun v14 wq => ∃ i : Nat, i ≤ ps.length ∧ v14 = .int .i64 i ∧ Two wq R 71 (.slice g8 ys.length c8) (.int .i64 ((bitsOf zs (ps.take i)).length : Int)) ∧ Kept (fun x => x < w8.heap.size ∧ x ≠ R) w8 wq) (fun v14 _ => ps.length - (intOf v14).toNat)
      case atStart => exact ⟨0, by omega, rfl, by simpa [bitsOf] using hT8, Kept.refl _ _⟩
      case round =>
        obtain ⟨i, hi, rfl, hTq, hKq⟩ := hrel
        have hsq := hKq.size
        by_cases hil : i < ps.length
        · have hps : ps[i]? = some ps[i] := List.getElem?_eq_getElem hil
          have hok := hpok _ (List.getElem_mem hil)
          have hnb := next_back h0 ys ps hp i ps[i] hps hok
          obtain ⟨hat, hmono, _⟩ := bitsOf_at zs ps i ps[i] hps
          have hDq := hD8.kept hKq (fun x hx => by
            obtain ⟨cs, h9 | h9⟩ := hx
            · exact ⟨h9.lt, two_ne hT8 h9 (by decide)⟩
            · exact ⟨h9.lt, two_ne hT8 h9 (by decide)⟩)
          have hnx := next_any _ D R zs ys g8 c8 (bitsOf zs (ps.take i)).length wr h0 hp.are hyl hDq hTq ((hb8.kept hKq).mono (fun x hx => ⟨by omega, hx.2⟩)) (by have := hp.len; omega)
          rw [hnb] at hnx
          have HNX : Hid _ := hnx
          obtain ⟨gb, rfl⟩ : ∃ gb, gu = some ⟨gb, 0, none⟩ := by
            rcases hP8.2 with ⟨_, h9⟩ | ⟨gb, _, _, e, _⟩
            · omega
            · simp only [Value.slice.injEq] at e
              exact ⟨gb, e.1⟩
          have hce := hP8.cells (g := gb) rfl i (.int .i64 ps[i]) (by simp [hil])
          have hadd : (⟨gb, 0, none⟩ : Addr).add i = ⟨gb, i, none⟩ := by unfold Addr.add; split <;> simp_all
          rw [hadd] at hce
          have hgR : gb ≠ R := fun e => hT8.not_row (by decide) hP8 (by rw [← e]; rfl)
          have hglt : gb < w8.heap.size := (hP8.lt gb rfl).2
          have HCE : Hid (∀ w9, Kept (fun x => x < wr.heap.size ∧ x ≠ R) wr w9 → w9.cell? ⟨gb, i, none⟩ = some (.int .i64 ps[i]) ∧ Kept (fun x => x < w8.heap.size ∧ x ≠ R) w8 w9) := fun w9 h9 => by
            have h8 : Kept (fun x => x < w8.heap.size ∧ x ≠ R) w8 w9 := hKq.trans (h9.mono (fun x hx => ⟨by omega, hx.2⟩))
            exact ⟨(h8.cell (p := ⟨gb, i, none⟩) ⟨hglt, hgR⟩).trans hce, h8⟩
          have HAT : Hid ((bitsOf zs (ps.take (i + 1))).length = (bitsOf zs (ps.take i)).length + codeLen zs ps[i]) := by
            show _ = _
            rw [hat, List.length_append, symBits_length]
          have hs0 : ((ps[i].toNat : Nat) : Int) = ps[i] := by
            simp only [hasCode, Bool.and_eq_true, decide_eq_true_eq] at hok
            omega
          simp only [hs0] at HNX
          clear hps hok hnb hat hDq hnx hce hadd hT8 hD8 hP8 hb8 hTq hKq hs0 hpok
          generalize ps[i] = s at HNX HCE HAT
          have t1 : (s != s) = false := by simp
          go_wp2_with fail
          refine Calls.mono HNX.out ?_
          rintro e w9 ⟨rfl, hT9, hK9⟩
          obtain ⟨ce, hK10⟩ := HCE.out w9 hK9
          have HT9 : Hid (Two w9 R 71 (.slice g8 ys.length c8) (.int .i64 ((bitsOf zs (ps.take (i + 1))).length : Int))) := by
            show Two _ _ _ _ _
            rw [HAT.out]
            exact hT9
          clear HNX HCE HAT hT9 hK9
          go_wp2
          exact ⟨⟨i + 1, by omega, by simp, HT9.out, hK10⟩, by simp [intOf]; omega⟩
        · obtain rfl : i = ps.length := by omega
          rw [List.take_length] at hTq
          have hpl := hp.len
          have HL : Hid _ := left_any R g8 ys.length c8 (bitsOf zs ps).length wr (by omega) (by omega) hTq
          have t1 : ((8 : Int) * ys.length - ((bitsOf zs ps).length : Int)) < 8 := by omega
          generalize (8 : Int) * ys.length - ((bitsOf zs ps).length : Int) = lz at HL t1
          clear hT8 hD8 hP8 hb8 hTq hpok
          go_wp2_with fail
          refine Calls.mono HL.out ?_
          rintro e w9 ⟨rfl, n9, hw9⟩
          have HB9 : Hid (Below w.heap.size w w9) := hw9 ▸ HBel.out _ (hKq.drewN n9)
          clear hw9 HL
          go_wp2
          go_ret
          exact ⟨rfl, HB9.out⟩

theorem walk (a ab : Option Addr) (ca cb : Nat) (zs ss : List Int) (w : World) (hI : IntsIn (· < w.heap.size) w (.slice a zs.length ca) zs) (hl : ss.length ≤ 17592186043904) (hIs : IntsIn (· < w.heap.size) w (.slice ab ss.length cb) ss) :
    Calls Try.prog 8 #[.slice a zs.length ca, .slice ab ss.length cb] w fun e w' => e = .returned (.bool true) ∧ Below w.heap.size w w' := by
  by_cases h0 : errOf zs = 0
  · exact walk_ok a ab ca cb zs ss w h0 hI hl hIs
  · exact walk_err a ab ca cb zs ss w h0 hI

set_option maxRecDepth 100000 in
theorem lifted (os : Os) (started : os.Started) (H : Type) (enc : TypeId × Value → H) :
    ReturnsInHanded {} Try.checked os 8 .any (Rows.huffBackSpec.pre6 enc Try.prog Try.f8 Rows.huffBackRow.domain false) (Rows.huffBackSpec.post enc Try.prog Try.f8 false true false false) := by
  refine returnsInHanded_of_change_sized (C := Try.checked) own started (by kernel_rfl) Try.func8
    (ChangeSpec.witness6 (enc := enc) (C := Try.checked) false ⟨#[], #[.slice none 0 0, .slice none 0 0], []⟩ 8 (by kernel_rfl) (by kernel_rfl) (by kernel_rfl) (by kernel_rfl)) ?_
  intro W base args ds gs before hval0 hW _ hsz0 _
  have hsz : (DataW.weightsEach Try.prog (Try.f8.params.toList ++ Rows.huffBackSpec.plain.varTypes Try.prog) (ds ++ gs)).all (· ≤ reachBytes) = true := hsz0
  clear hsz0
  have hval : ∀ (j : Nat) t v, Try.f8.params[j]? = some t → args[j]? = some v → Value.okWide Try.prog W .any base t v := hval0
  have hW' := hW
  obtain ⟨p, q, hA0, hV, rfl, _, _⟩ := hW
  have hA : DataW.TrodAll enc Try.prog W 0 (fun _ => true) true Try.f8.params.toList args.toList ds p := hA0
  rw [Try.params8] at hA hval hsz
  obtain ⟨v0, vs0, d0, ds0, p0, q0, hargs, rfl, rfl, h0, r0⟩ := trodAll_cons hA
  obtain ⟨v1, vs1, d1, ds1, p1, q1, rfl, rfl, rfl, h1, r1⟩ := trodAll_cons r0
  obtain ⟨rfl, rfl, rfl⟩ := trodAll_nil r1
  obtain rfl : args = #[v0, v1] := by cases args; simp_all
  obtain ⟨rfl, rfl⟩ := trodVars_none hV
  obtain ⟨a0, len0, cap0, rfl⟩ := okWide_slice Try.underlying22 (hval 0 22 v0 rfl rfl)
  obtain ⟨a1, len1, cap1, rfl⟩ := okWide_slice Try.underlying22 (hval 1 22 v1 rfl rfl)
  have k0 := h0
  have k1 := h1
  have lt0 : ∀ x ∈ p0, x.block < W.heap.size := by obtain ⟨m, hm⟩ := k0; exact DataW.trod_lt m _ _ _ hm
  have lt1 : ∀ x ∈ p1, x.block < W.heap.size := by obtain ⟨m, hm⟩ := k1; exact DataW.trod_lt m _ _ _ hm
  obtain ⟨zs, hlen0, hF, _, hd0⟩ := open_i64s h0
  obtain ⟨ss, hlen1, hL, _, hd1⟩ := open_i64s h1
  have hl1 : ss.length ≤ 17592186043904 := by
    rcases hd1 with ⟨_, h⟩ | ⟨e, s, rfl, h⟩
    · omega
    · have := sized_slice hsz (j := 1) (t := 22) (e := 3) rfl rfl Try.underlying22
      rw [bytes3] at this
      simp only [reachBytes] at this
      omega
  clear hA0 hval0
  subst hlen0
  subst hlen1
  refine (walk a0 a1 cap0 cap1 zs ss W hF hl1 hL).mono fun e W' ⟨he, bel⟩ => ?_
  subst he
  exact ⟨_, rfl, _, _, _, [], _, [], hW', trodAll_mk1 (shut_bool Try.underlying4 _), (trodAll_cons_mk (Below.trod laidOut (by kernel_rfl) (of_decide_eq_true (by kernel_rfl)) k0 bel lt0) (trodAll_cons_mk (Below.trod laidOut (by kernel_rfl) (of_decide_eq_true (by kernel_rfl)) k1 bel lt1) trodAll_mk0)), rfl, bel.frame _, fun h => by cases h⟩

theorem over : Rows.huffBackRow.holds Try.pinned (OpenSpec.ofChange Rows.huffBackSpec) :=
  OpenClaim.holds_of_wide 8 Try.f8 rfl rfl rfl rfl rfl rfl rfl ⟨rfl, rfl, rfl, rfl, rfl⟩ rfl rfl rfl rfl rfl (by kernel_rfl) Try.func8 (by kernel_rfl)
    (of_decide_eq_true (by kernel_rfl)) (by unfold Func.isWrapper; first | (rw [if_pos (by decide +kernel)]; kernel_rfl) | (rw [if_neg (by decide +kernel)]; exact ⟨rfl, rfl⟩))
    (fun os started H enc _ => lifted os started H enc)
end Go.Proofs.Ytjieeddjhbbllaa.huffBack
namespace Go.Proofs.Ytjieeddjhbbllaa
theorem huffBack_holds : Rows.HuffBackSaid := huffBack.over
#print axioms huffBack_holds
end Go.Proofs.Ytjieeddjhbbllaa
