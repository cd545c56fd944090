/- HuffReads is proved: for any slice of ints and any bytes (within the form's reach) the decoder of these lengths tells, symbol by symbol, what the document's rules tell, takes as many bits, and takes none with an error; no condition. -/
import Derived.Test.YtjieeddjhbbllaaLive
import Derived.Test.YtjieeddjhbbllaaRco
import Derived.Test.YtjieeddjhbbllaaRwi
import Derived.Test.YtjieeddjhbbllaaRnx
namespace Go.Proofs.Ytjieeddjhbbllaa
open Go.RowKit
theorem two_ne {W : World} {B x : Nat} {t t' : TypeId} {v0 v1 : Value} {cs : Array Value} (h : Two W B t v0 v1) (hr : Row W x t' cs) (hne : t' ≠ t) : x ≠ B := fun e => by
  have h9 : W.heap[x]? = _ := hr
  rw [e, show W.heap[B]? = _ from h] at h9
  simp at h9
  exact hne h9.2.symm
theorem DecAt.kept {base : Nat} {zs : List Int} {k D : Nat} {S : Nat → Prop} {W W' : World} (h : DecAt base zs k D W) (hk : Kept S W W') (hS : ∀ x, (∃ cs, Row W x 67 cs ∨ Row W x 3 cs) → S x) : DecAt base zs k D W' := by
  obtain ⟨v, hD, hv⟩ := h
  refine ⟨v, hD.kept hk (hS D ⟨_, .inl hD⟩), owns_kept hv hk (fun x hx => ?_)⟩
  rcases hv.2 with ⟨rfl, _⟩ | ⟨g, cap, cur, rfl, hb, hgg, rest⟩
  · simp [Value.ownBlock] at hx
  · simp only [Value.ownBlock, Option.some.injEq] at hx
    subst hx
    exact hS g ⟨cur, .inr hgg⟩
theorem DecAt.below {base : Nat} {zs : List Int} {k D N : Nat} {W W' : World} (h : DecAt base zs k D W) (hk : Below N W W') (hN : W.heap.size ≤ N) : DecAt base zs k D W' :=
  h.kept (S := (· < N)) (Kept.of_below hk (fun _ h => h)) (fun x hx => by
    obtain ⟨cs, h9 | h9⟩ := hx
    · have := h9.lt; show x < N; omega
    · have := h9.lt; show x < N; omega)
end Go.Proofs.Ytjieeddjhbbllaa
namespace Go.Proofs.Ytjieeddjhbbllaa.huffReads
open Go.ChangeShapes Go.WideShapes Go.ChangeAt Go.RowKit

set_option maxRecDepth 100000 in
set_option maxHeartbeats 4000000 in
theorem walk_err (a ab : Option Addr) (ca cb : Nat) (zs bs : List Int) (w : World) (h0 : errOf zs ≠ 0) (hI : IntsIn (· < w.heap.size) w (.slice a zs.length ca) zs) :
    Calls Try.prog 4 #[.slice a zs.length ca, .slice ab bs.length cb] w fun e w' => e = .returned (.bool true) ∧ Below w.heap.size w w' := by
  go_enter Try.func4, Try.ntmps4
  go_wp2_with fail
  refine (new_any (· < w.heap.size) a ca zs w (fun _ h => h) hI).mono ?_
  rintro e w1 ⟨hB1, (⟨_, rfl⟩ | ⟨h9, _⟩)⟩
  rotate_left
  · exact absurd h9 h0
  have hs1 := hB1.size
  have HC : Hid _ := refCodes_err (· < w.heap.size) a ca zs w1 (hI.below hB1) h0
  have t1 : (errOf zs != errOf zs) = false := by simp
  have t2 : (errOf zs != 0) = true := by simpa using h0
  generalize errOf zs = er at HC t1 t2
  go_wp2_with fail
  refine Calls.mono HC.out ?_
  rintro e w2 ⟨rfl, hw2⟩
  rw [hw2]
  clear HC hw2
  go_wp2_with fail
  refine (alive_any w1).mono ?_
  rintro e w3 ⟨rfl, hB3⟩
  go_wp2
  go_ret
  exact ⟨rfl, hB1.trans (hB3.mono hs1)⟩

set_option maxRecDepth 100000 in
set_option maxHeartbeats 4000000 in
theorem walk_ok (a ab : Option Addr) (ca cb : Nat) (zs bs : List Int) (w : World) (h0 : errOf zs = 0) (hI : IntsIn (· < w.heap.size) w (.slice a zs.length ca) zs) (hb : AreBytes bs) (hl : bs.length ≤ 140737488351232) (hIb : BytesIn (· < w.heap.size) w (.slice ab bs.length cb) bs) :
    Calls Try.prog 4 #[.slice a zs.length ca, .slice ab bs.length cb] w fun e w' => e = .returned (.bool true) ∧ Below w.heap.size w w' := by
  go_enter Try.func4, Try.ntmps4
  go_wp2_with fail
  refine (new_any (· < w.heap.size) a ca zs w (fun _ h => h) hI).mono ?_
  rintro e w1 ⟨hB1, (⟨h9, _⟩ | ⟨_, D, rfl, hwD, hD1⟩)⟩
  · exact absurd h0 h9
  have hs1 := hB1.size
  have HC : Hid _ := refCodes_ok (· < w.heap.size) a ca zs w1 (fun k hk => by omega) (hI.below hB1) h0
  go_wp2_with fail
  refine Calls.mono HC.out ?_
  rintro e w2 ⟨rfl, hR2, hB2⟩
  have hD2 := hD1.below hB2 (Nat.le_refl _)
  have hB2' : Below w.heap.size w w2 := hB1.trans (hB2.mono hs1)
  have hs2 := hB2.size
  clear HC hB1 hD1
  obtain ⟨GC, HGC⟩ : ∃ G, w1.heap.size = G := ⟨_, rfl⟩
  rw [HGC] at hR2 hs1 hs2 ⊢
  clear hB2 HGC
  go_wp2_with fail
  refine (alive_any w2).mono ?_
  rintro e w3 ⟨rfl, hB3⟩
  have hD3 := hD2.below hB3 (Nat.le_refl _)
  have hR3 := hR2.below hB3 hR2.lt
  have hB3' : Below w.heap.size w w3 := hB2'.trans (hB3.mono (by omega))
  clear hD2 hR2 hB3 hB2'
  have HN : Hid _ := newReader_any (· < w.heap.size) ab cb bs w3 (by omega) (hIb.kept (Kept.of_below hB3' (fun _ h => h)))
  go_wp2_with fail
  refine Calls.mono HN.out ?_
  rintro e w4 ⟨R, g, c, rfl, hR4, hT4, hO4, hB4⟩
  have hD4 := hD3.below hB4 (Nat.le_refl _)
  have hC4 := hR3.below hB4 hR3.lt
  have hB4' : Below w.heap.size w w4 := hB3'.trans (hB4.mono hB3'.size)
  clear HN hD3 hR3
  go_wp2_with fail
  have hQ := Two.new w4 38 (.slice ab bs.length cb) (.int .i64 0)
  have hk5 : Kept (· < w4.heap.size) w4 (w4.alloc (.cells #[.slice ab bs.length cb, .int .i64 0] 38)) := (Kept.refl _ w4).alloc (fun _ h => h) _
  have hs5 : (w4.alloc (.cells #[.slice ab bs.length cb, .int .i64 0] 38)).heap.size = w4.heap.size + 1 := by simp
  have hT5 := hT4.alloc (.cells #[.slice ab bs.length cb, .int .i64 0] 38)
  have hC5 := hC4.alloc (.cells #[.slice ab bs.length cb, .int .i64 0] 38)
  have hD5 : DecAt w.heap.size zs 15 D (w4.alloc (.cells #[.slice ab bs.length cb, .int .i64 0] 38)) := hD4.kept hk5 (fun x hx => by
    obtain ⟨cs, h9 | h9⟩ := hx
    · exact h9.lt
    · exact h9.lt)
  have hO5 := hO4.alloc (.cells #[.slice ab bs.length cb, .int .i64 0] 38)
  have hB5 : Below w.heap.size w (w4.alloc (.cells #[.slice ab bs.length cb, .int .i64 0] 38)) := hB4'.alloc hB4'.size _
  have hw4 := hB4'.size
  have hQR : w4.heap.size ≠ R := by have := hT4.lt; omega
  obtain ⟨Q, HQ⟩ : ∃ Q, w4.heap.size = Q := ⟨_, rfl⟩
  rw [HQ] at hQ hs5 hQR hw4 ⊢
  generalize w4.alloc (.cells #[.slice ab bs.length cb, .int .i64 0] 38) = w5 at hQ hs5 hT5 hC5 hD5 hO5 hB5 ⊢
  clear hk5 hT4 hC4 hD4 hO4 hB4 hB4' HQ
  have hw3 := hB3'.size
  have hbR : BytesIn (fun x => x < w5.heap.size ∧ x ≠ R ∧ x ≠ Q) w5 (.slice g bs.length c) bs := bytesIn_of_owns _ hO5 (fun x hx => by
    refine ⟨(hO5.lt x hx).2, fun e => hT5.not_row (by decide) hO5 (e ▸ hx.symm), fun e => hQ.not_row (by decide) hO5 (e ▸ hx.symm)⟩)
  have hbQ : BytesIn (fun x => x < w5.heap.size ∧ x ≠ R ∧ x ≠ Q) w5 (.slice ab bs.length cb) bs := (hIb.kept (Kept.of_below hB5 (fun _ h => h))).mono (fun x hx => by
    have hx' : x < w.heap.size := hx
    exact ⟨by omega, by omega, by omega⟩)
  have hI5 : IntsIn (fun x => x < w5.heap.size ∧ x ≠ R ∧ x ≠ Q) w5 (.slice a zs.length ca) zs := (hI.kept (Kept.of_below hB5 (fun _ h => h))).mono (fun x hx => by
    have hx' : x < w.heap.size := hx
    exact ⟨by omega, by omega, by omega⟩)
  clear hO5 hI hIb hB3'
  go_loopw [11] (fun v11 wr => ∃ i pos : Nat, i ≤ 4000 ∧ v11 = .int .i64 i ∧ pos ≤ 8 * bs.length ∧ Two wr R 71 (.slice g bs.length c) (.int .i64 pos) ∧ Two wr Q 38 (.slice ab bs.length cb) (.int .i64 pos) ∧ Kept (fun x => x < w5.heap.size ∧ x ≠ R ∧ x ≠ Q) w5 wr) (fun v11 _ => 4000 - (intOf v11).toNat)
  case atStart => exact ⟨0, 0, by omega, rfl, by omega, hT5, hQ, Kept.refl _ _⟩
  case round =>
    obtain ⟨i, pos, hi, rfl, hpos, hTr, hTq, hK⟩ := hrel
    have hsr := hK.size
    have HBW : Hid (∀ w9, Kept (fun x => x < w5.heap.size ∧ x ≠ R ∧ x ≠ Q) w5 w9 → Below w.heap.size w w9) := fun w9 h9 =>
      hB5.trans ((h9.mono (T := (· < w.heap.size)) (fun x hx => by have hx' : x < w.heap.size := hx; exact ⟨by omega, by omega, by omega⟩)).below (fun _ h => h))
    by_cases hlt : i < 4000
    · have hDr := hD5.kept hK (fun x hx => by
        obtain ⟨cs, h9 | h9⟩ := hx
        · exact ⟨h9.lt, two_ne hT5 h9 (by decide), two_ne hQ h9 (by decide)⟩
        · exact ⟨h9.lt, two_ne hT5 h9 (by decide), two_ne hQ h9 (by decide)⟩)
      have HNX : Hid _ := next_any w.heap.size D R zs bs g c pos wr h0 hb hl hDr hTr ((hbR.kept hK).mono (fun x hx => ⟨by omega, hx.2.1⟩)) hpos
      have HRX : Hid (∀ w6, Kept (fun k => k < wr.heap.size ∧ k ≠ R) wr w6 → Two w6 Q 38 (.slice ab bs.length cb) (.int .i64 pos) ∧ Kept (fun x => x < w5.heap.size ∧ x ≠ R ∧ x ≠ Q) w5 w6 ∧
          Calls Try.prog 17 #[.slice a zs.length ca, .slice (some ⟨GC, 0, none⟩) zs.length zs.length, .pointer (some ⟨Q, 0, none⟩)] w6 fun e w' => e = .returned (.tuple #[.int .i64 (nextOf zs bs pos).1, .int .i64 (nextOf zs bs pos).2.1]) ∧
            Two w' Q 38 (.slice ab bs.length cb) (.int .i64 ((pos + (nextOf zs bs pos).2.2 : Nat) : Int)) ∧ Kept (fun k => k < w6.heap.size ∧ k ≠ Q) w6 w') := by
        intro w6 hk6
        have hq6 := hTq.kept hk6 ⟨hTq.lt, hQR⟩
        have hk56 : Kept (fun x => x < w5.heap.size ∧ x ≠ R ∧ x ≠ Q) w5 w6 := hK.trans (hk6.mono (fun x hx => ⟨by omega, hx.2.1⟩))
        have hs6 := hk56.size
        exact ⟨hq6, hk56, refNext_any (fun x => x < w5.heap.size ∧ x ≠ R ∧ x ≠ Q) GC Q a ca zs bs ab cb pos w6 h0 hb hl (fun x hx => ⟨by omega, hx.2.2⟩) (hI5.kept hk56) (hC5.kept hk56 ⟨hC5.lt, two_ne hT5 hC5 (by decide), two_ne hQ hC5 (by decide)⟩) hq6 ((hbQ.kept hk56).mono (fun x hx => ⟨by omega, hx.2.2⟩)) hpos⟩
      have hbnd := nextOf_taken h0 bs pos hpos
      have hRQ : R ≠ Q := fun e => hQR e.symm
      have HRl : Hid (R < w5.heap.size) := hT5.lt
      generalize nextOf zs bs pos = rr at HNX HRX hbnd
      obtain ⟨rs, re, rt⟩ := rr
      simp only at HNX HRX hbnd
      clear hDr hTr hTq hD5 hT5 hQ hC5 hbR hbQ hI5 hB5 hb
      go_wp2_with fail
      refine Calls.mono HNX.out ?_
      rintro e w6 ⟨rfl, hT6, hk6⟩
      obtain ⟨hq6, hk56, hcall⟩ := HRX.out w6 hk6
      have HC6 : Hid _ := hcall
      clear HNX HRX hcall hk6 hq6
      go_wp2_with fail
      refine Calls.mono HC6.out ?_
      rintro e w7 ⟨rfl, hq7, hk7⟩
      have hs6 := hk56.size
      have hT7 := hT6.kept hk7 ⟨hT6.lt, hRQ⟩
      have hk57 : Kept (fun x => x < w5.heap.size ∧ x ≠ R ∧ x ≠ Q) w5 w7 := hk56.trans (hk7.mono (fun x hx => ⟨by omega, hx.2.2⟩))
      have HL1 : Hid _ := left_any R g bs.length c (pos + rt) w7 (by omega) (by omega) hT7
      have HL2 : Hid (∀ n, Calls Try.prog 19 #[.pointer (some ⟨Q, 0, none⟩)] (w7.drewN n) fun e w' => e = .returned (.int .i64 (8 * bs.length - (pos + rt : Nat) : Int)) ∧ ∃ m, w' = (w7.drewN n).drewN m) := fun n => refLeft_any Q ab bs.length cb (pos + rt) (w7.drewN n) (by omega) (by omega) (hq7.drewN n)
      have t1 : ((rs : Int) != (rs : Int)) = false := by simp
      have t2 : (re != re) = false := by simp
      have HT7 : Hid _ := hT7
      have HQ7 : Hid _ := hq7
      have HK7 : Hid _ := hk57
      generalize ((pos + rt : Nat) : Int) = pz at HL1 HL2
      have t3 : (((8 : Int) * bs.length - pz) != ((8 : Int) * bs.length - pz)) = false := by simp
      generalize (8 : Int) * bs.length - pz = lz at HL1 HL2 t3
      clear HC6 hT6 hk56 hT7 hq7 hk57 hk7 hs6 hK
      go_wp2_with fail
      refine Calls.mono HL1.out ?_
      rintro e w8 ⟨rfl, n8, rfl⟩
      go_wp2_with fail
      refine Calls.mono (HL2.out n8) ?_
      rintro e w9 ⟨rfl, n9, rfl⟩
      clear HL1 HL2
      have HF : Hid (Two ((w7.drewN n8).drewN n9) R 71 (.slice g bs.length c) (.int .i64 ((pos + rt : Nat) : Int)) ∧ Two ((w7.drewN n8).drewN n9) Q 38 (.slice ab bs.length cb) (.int .i64 ((pos + rt : Nat) : Int)) ∧ Kept (fun x => x < w5.heap.size ∧ x ≠ R ∧ x ≠ Q) w5 ((w7.drewN n8).drewN n9)) :=
        ⟨Two.drewN (Two.drewN HT7.out n8) n9, Two.drewN (Two.drewN HQ7.out n8) n9, Kept.drewN (Kept.drewN HK7.out n8) n9⟩
      clear HT7 HQ7 HK7
      generalize (w7.drewN n8).drewN n9 = w10 at HF ⊢
      by_cases hre : re = 0
      · have t4 : (re != 0) = false := by simp [hre]
        go_wp2
        exact ⟨⟨i + 1, pos + rt, by omega, by simp, hbnd, HF.out.1, HF.out.2.1, HF.out.2.2⟩, by simp [intOf]; omega⟩
      · have t4 : (re != 0) = true := by simp [hre]
        go_wp2
        go_ret
        exact ⟨rfl, HBW.out w10 HF.out.2.2⟩
    · obtain rfl : i = 4000 := by omega
      go_wp2
      go_ret
      exact ⟨rfl, HBW.out wr hK⟩

theorem walk (a ab : Option Addr) (ca cb : Nat) (zs bs : List Int) (w : World) (hI : IntsIn (· < w.heap.size) w (.slice a zs.length ca) zs) (hb : AreBytes bs) (hl : bs.length ≤ 140737488351232) (hIb : BytesIn (· < w.heap.size) w (.slice ab bs.length cb) bs) :
    Calls Try.prog 4 #[.slice a zs.length ca, .slice ab bs.length cb] w fun e w' => e = .returned (.bool true) ∧ Below w.heap.size w w' := by
  by_cases h0 : errOf zs = 0
  · exact walk_ok a ab ca cb zs bs w h0 hI hb hl hIb
  · exact walk_err a ab ca cb zs bs w h0 hI

set_option maxRecDepth 100000 in
theorem lifted (os : Os) (started : os.Started) (H : Type) (enc : TypeId × Value → H) :
    ReturnsInHanded {} Try.checked os 4 .any (Rows.huffReadsSpec.pre6 enc Try.prog Try.f4 Rows.huffReadsRow.domain false) (Rows.huffReadsSpec.post enc Try.prog Try.f4 false true false false) := by
  refine returnsInHanded_of_change_sized (C := Try.checked) own started (by kernel_rfl) Try.func4
    (ChangeSpec.witness6 (enc := enc) (C := Try.checked) false ⟨#[], #[.slice none 0 0, .slice none 0 0], []⟩ 8 (by kernel_rfl) (by kernel_rfl) (by kernel_rfl) (by kernel_rfl)) ?_
  intro W base args ds gs before hval0 hW _ hsz0 _
  have hsz : (DataW.weightsEach Try.prog (Try.f4.params.toList ++ Rows.huffReadsSpec.plain.varTypes Try.prog) (ds ++ gs)).all (· ≤ reachBytes) = true := hsz0
  clear hsz0
  have hval : ∀ (j : Nat) t v, Try.f4.params[j]? = some t → args[j]? = some v → Value.okWide Try.prog W .any base t v := hval0
  have hW' := hW
  obtain ⟨p, q, hA0, hV, rfl, _, _⟩ := hW
  have hA : DataW.TrodAll enc Try.prog W 0 (fun _ => true) true Try.f4.params.toList args.toList ds p := hA0
  rw [Try.params4] at hA hval hsz
  obtain ⟨v0, vs0, d0, ds0, p0, q0, hargs, rfl, rfl, h0, r0⟩ := trodAll_cons hA
  obtain ⟨v1, vs1, d1, ds1, p1, q1, rfl, rfl, rfl, h1, r1⟩ := trodAll_cons r0
  obtain ⟨rfl, rfl, rfl⟩ := trodAll_nil r1
  obtain rfl : args = #[v0, v1] := by cases args; simp_all
  obtain ⟨rfl, rfl⟩ := trodVars_none hV
  obtain ⟨a0, len0, cap0, rfl⟩ := okWide_slice Try.underlying22 (hval 0 22 v0 rfl rfl)
  obtain ⟨a1, len1, cap1, rfl⟩ := okWide_slice Try.underlying30 (hval 1 30 v1 rfl rfl)
  have k0 := h0
  have k1 := h1
  have lt0 : ∀ x ∈ p0, x.block < W.heap.size := by obtain ⟨m, hm⟩ := k0; exact DataW.trod_lt m _ _ _ hm
  have lt1 : ∀ x ∈ p1, x.block < W.heap.size := by obtain ⟨m, hm⟩ := k1; exact DataW.trod_lt m _ _ _ hm
  obtain ⟨zs, hlen0, hF, _, hd0⟩ := open_i64s h0
  obtain ⟨bs, hlen1, hL, hz, hd1⟩ := open_bytes h1
  have hl1 : bs.length ≤ 140737488351232 := by
    rcases hd1 with ⟨_, h⟩ | ⟨e, s, rfl, h⟩
    · omega
    · have := sized_slice hsz (j := 1) (t := 30) (e := 5) rfl rfl Try.underlying30
      rw [bytes5] at this
      simp only [reachBytes] at this
      omega
  clear hA0 hval0
  subst hlen0
  subst hlen1
  refine (walk a0 a1 cap0 cap1 zs bs W hF hz hl1 hL).mono fun e W' ⟨he, bel⟩ => ?_
  subst he
  exact ⟨_, rfl, _, _, _, [], _, [], hW', trodAll_mk1 (shut_bool Try.underlying4 _), (trodAll_cons_mk (Below.trod laidOut (by kernel_rfl) (of_decide_eq_true (by kernel_rfl)) k0 bel lt0) (trodAll_cons_mk (Below.trod laidOut (by kernel_rfl) (of_decide_eq_true (by kernel_rfl)) k1 bel lt1) trodAll_mk0)), rfl, bel.frame _, fun h => by cases h⟩

theorem over : Rows.huffReadsRow.holds Try.pinned (OpenSpec.ofChange Rows.huffReadsSpec) :=
  OpenClaim.holds_of_wide 4 Try.f4 rfl rfl rfl rfl rfl rfl rfl ⟨rfl, rfl, rfl, rfl, rfl⟩ rfl rfl rfl rfl rfl (by kernel_rfl) Try.func4 (by kernel_rfl)
    (of_decide_eq_true (by kernel_rfl)) (by unfold Func.isWrapper; first | (rw [if_pos (by decide +kernel)]; kernel_rfl) | (rw [if_neg (by decide +kernel)]; exact ⟨rfl, rfl⟩))
    (fun os started H enc _ => lifted os started H enc)
end Go.Proofs.Ytjieeddjhbbllaa.huffReads
namespace Go.Proofs.Ytjieeddjhbbllaa
theorem huffReads_holds : Rows.HuffReadsSaid := huffReads.over
#print axioms huffReads_holds
end Go.Proofs.Ytjieeddjhbbllaa
