import Derived.Test.YtiheajlgaehfmaaDoorRgp
import Derived.Test.YtiheajlgaehfmaaDoorPcd
import Derived.Shelf.Abstract
import Derived.Shelf.RegionOpen
import Derived.OwnWalkIn
import Derived.TacticsInMore
import Derived.LoopNIn
import Derived.LoopIn
/- The iterator over runs of lengths (runs and its closure): which runs come, or giving up. -/
namespace Go.Proofs.YtiheajlgaehfmaaDoor
open Go.RowKit Go.Shelf

attribute [local go_sem] Oper.semAt_some

/-! ### what the rows of lengths are, step by step -/
theorem rowS_end {cz bs : List Int} {many f pos : Nat} {l : List Int} (h : ¬ l.length < many) : rowS cz bs many (f + 1) pos l = .ok (pos, l) := by rw [rowS, if_neg h]
theorem rowS_err {cz bs : List Int} {many f pos : Nat} {l : List Int} {e : Int} (h : l.length < many) (hs : rowStep cz bs many pos l = .error e) : rowS cz bs many (f + 1) pos l = .error e := by rw [rowS, if_pos h, hs]
theorem rowS_more {cz bs : List Int} {many f pos p : Nat} {l l' : List Int} (h : l.length < many) (hs : rowStep cz bs many pos l = .ok (p, l')) : rowS cz bs many (f + 1) pos l = rowS cz bs many f p l' := by rw [rowS, if_pos h, hs]
theorem rowStep_next {cz bs : List Int} {many pos : Nat} {l : List Int} {e : Int} (h : nextS cz bs pos = .error e) : rowStep cz bs many pos l = .error e := by
  unfold rowStep
  simp only [h, bind, Except.bind]
theorem rowStep_one {cz bs : List Int} {many pos x p : Nat} {l : List Int} (h : nextS cz bs pos = .ok (x, p)) (hx : x < 16) : rowStep cz bs many pos l = .ok (p, l ++ List.replicate 1 (x : Int)) := by
  unfold rowStep
  simp only [h, bind, Except.bind, hx, if_true]
  rfl
theorem rowStep_none {cz bs : List Int} {many pos p : Nat} {l : List Int} (h : nextS cz bs pos = .ok (16, p)) (hl : l.length = 0) : rowStep cz bs many pos l = .error 12 := by
  unfold rowStep
  simp only [h, bind, Except.bind, hl]
  rfl
/-- The extra bits, the least number and the length of symbols 16 to 18. -/
def rnBits (x : Nat) : Nat := if x = 18 then 7 else if x = 17 then 3 else 2
def rnBase (x : Nat) : Nat := if x = 18 then 11 else 3
def rnVal (x : Nat) (l : List Int) : Int := if x = 16 then l[l.length - 1]?.getD 0 else 0
theorem rowStep_take {cz bs : List Int} {many pos x p : Nat} {l : List Int} {e : Int} (h : nextS cz bs pos = .ok (x, p)) (hx : ¬ x < 16) (h0 : ¬ (x = 16 ∧ l.length = 0)) (ht : takeS bs p (rnBits x) = .error e) : rowStep cz bs many pos l = .error e := by
  unfold rowStep
  unfold rnBits at ht
  simp only [h, bind, Except.bind, hx, h0, if_false, ht]
theorem rowStep_run {cz bs : List Int} {many pos x p k p2 : Nat} {l : List Int} (h : nextS cz bs pos = .ok (x, p)) (hx : ¬ x < 16) (h0 : ¬ (x = 16 ∧ l.length = 0)) (ht : takeS bs p (rnBits x) = .ok (k, p2)) :
    rowStep cz bs many pos l = if many < l.length + (rnBase x + k) then .error 12 else .ok (p2, l ++ List.replicate (rnBase x + k) (rnVal x l)) := by
  unfold rowStep
  unfold rnBits at ht
  simp only [h, bind, Except.bind, hx, h0, if_false, ht]
  rfl
theorem nextP_len {zs : List Int} (h : errOf zs = 0) (hz : 0 < zs.length) (bs : List Int) (pos : Nat) : (nextOf zs bs pos).1 < zs.length := by
  have e : nextOf zs bs pos = rn zs (bitFrom bs pos) (8 * bs.length - pos) 15 0 0 := (Good.of_err h).same _ (bitFrom_lt bs pos) _
  have key : ∀ f k code, (rn zs (bitFrom bs pos) (8 * bs.length - pos) f k code).1 < zs.length := by
    intro f
    induction f with
    | zero => intro k code; simpa [rn] using hz
    | succ f ih =>
      intro k code
      rw [rn]
      split
      · split
        · split
          · rename_i i hi
            have := List.mem_of_find?_eq_some hi
            simpa using this
          · exact ih _ _
        · exact hz
      · exact hz
  rw [e]
  exact key 15 0 0
theorem nextS_len {zs bs : List Int} {pos x pos' : Nat} (h : errOf zs = 0) (hz : 0 < zs.length) (hn : nextS zs bs pos = .ok (x, pos')) : x < zs.length := by
  unfold nextS at hn
  split at hn
  · simp only [Except.ok.injEq, Prod.mk.injEq] at hn
    have := nextP_len h hz bs pos
    omega
  · cases hn
theorem takeS_lt {bs : List Int} (hb : AreBytes bs) {pos n x p : Nat} (hn : n ≤ 32) (h : takeS bs pos n = .ok (x, p)) : x < 2 ^ n := by
  unfold takeS at h
  split at h
  · simp only [Except.ok.injEq, Prod.mk.injEq] at h
    rw [← h.1]
    apply Nat.lt_pow_two_of_testBit
    intro i hi
    rw [orFold_bit bs hb pos n hn i]
    simp [show ¬ i < n by omega]
  · cases h
/-- The row that runs make. -/
def flat (pre : List (Int × Nat)) : List Int := pre.flatMap fun x => List.replicate x.2 x.1
theorem flat_snoc (pre : List (Int × Nat)) (x : Int × Nat) : flat (pre ++ [x]) = flat pre ++ List.replicate x.2 x.1 := by simp [flat]

/-! ### the reader alone -/
/-- What the iterator leans on: its own variables, the decoder, the bytes (all in U), and the reader. -/
structure RInv (U : Nat → Prop) (S Q : Nat) (bs : List Int) (g : Option Addr) (c b1 b2 b3 DZ many : Nat) (cz : List Int) (pos : Nat) (V : World) : Prop where
  rd : Two V Q 63 (.slice g bs.length c) (.int .i64 (pos : Int))
  hp : pos ≤ 8 * bs.length
  s0 : V.cell? ⟨S, 0, none⟩ = some (.pointer (some ⟨Q, 0, none⟩))
  c1 : V.cell? ⟨b1, 0, none⟩ = some (.int .i64 (many : Int))
  c2 : V.cell? ⟨b2, 0, none⟩ = some (.pointer (some ⟨S, 0, none⟩))
  c3 : V.cell? ⟨b3, 0, none⟩ = some (.pointer (some ⟨DZ, 0, none⟩))
  bytes : BytesIn (fun k => U k ∧ k ≠ Q) V (.slice g bs.length c) bs
  dec : DecIn (fun k => U k ∧ k ≠ Q) V DZ cz
  lt : ∀ k, U k → k < V.heap.size
/-- What is in U, and what is not the reader. -/
structure RSet (U : Nat → Prop) (S Q b1 b2 b3 : Nat) : Prop where
  q : U Q
  s : U S
  u1 : U b1
  u2 : U b2
  u3 : U b3
  ns : S ≠ Q
  n1 : b1 ≠ Q
  n2 : b2 ≠ Q
  n3 : b3 ≠ Q
theorem RInv.kept {U : Nat → Prop} {S Q : Nat} {bs : List Int} {g : Option Addr} {c b1 b2 b3 DZ many : Nat} {cz : List Int} {pos : Nat} {V V' : World} (h : RInv U S Q bs g c b1 b2 b3 DZ many cz pos V) (hU : RSet U S Q b1 b2 b3) (hk : Kept U V V') : RInv U S Q bs g c b1 b2 b3 DZ many cz pos V' :=
  have hk' : Kept (fun k => U k ∧ k ≠ Q) V V' := hk.mono (fun _ h => h.1)
  ⟨h.rd.kept hk hU.q, h.hp, (hk.cell (p := ⟨S, 0, none⟩) hU.s).trans h.s0, (hk.cell (p := ⟨b1, 0, none⟩) hU.u1).trans h.c1, (hk.cell (p := ⟨b2, 0, none⟩) hU.u2).trans h.c2, (hk.cell (p := ⟨b3, 0, none⟩) hU.u3).trans h.c3, h.bytes.kept hk', h.dec.kept hk', fun k hu => Nat.lt_of_lt_of_le (h.lt k hu) hk.size⟩
theorem RInv.turn {U : Nat → Prop} {S Q : Nat} {bs : List Int} {g : Option Addr} {c b1 b2 b3 DZ many : Nat} {cz : List Int} {pos pos' : Nat} {V V' : World} (h : RInv U S Q bs g c b1 b2 b3 DZ many cz pos V) (hU : RSet U S Q b1 b2 b3) (hk : Kept (fun k => k < V.heap.size ∧ k ≠ Q) V V') (h2 : Two V' Q 63 (.slice g bs.length c) (.int .i64 (pos' : Int))) (hp : pos' ≤ 8 * bs.length) : RInv U S Q bs g c b1 b2 b3 DZ many cz pos' V' :=
  have hk' : Kept (fun k => U k ∧ k ≠ Q) V V' := hk.mono (fun k hu => ⟨h.lt k hu.1, hu.2⟩)
  ⟨h2, hp, (hk'.cell (p := ⟨S, 0, none⟩) ⟨hU.s, hU.ns⟩).trans h.s0, (hk'.cell (p := ⟨b1, 0, none⟩) ⟨hU.u1, hU.n1⟩).trans h.c1, (hk'.cell (p := ⟨b2, 0, none⟩) ⟨hU.u2, hU.n2⟩).trans h.c2, (hk'.cell (p := ⟨b3, 0, none⟩) ⟨hU.u3, hU.n3⟩).trans h.c3, h.bytes.kept hk', h.dec.kept hk', fun k hu => Nat.lt_of_lt_of_le (h.lt k hu) hk.size⟩
theorem RInv.posAt {U : Nat → Prop} {S Q : Nat} {bs : List Int} {g : Option Addr} {c b1 b2 b3 DZ many : Nat} {cz : List Int} {pos : Nat} {V : World} (h : RInv U S Q bs g c b1 b2 b3 DZ many cz pos V) : posAt Q V = pos := by
  unfold YtiheajlgaehfmaaDoor.posAt
  rw [h.rd.cell1]
  simp [intOf]

set_option maxRecDepth 100000 in
set_option maxHeartbeats 1000000 in
theorem number_q {S Q : Nat} {bs : List Int} {g : Option Addr} {c pos : Nat} (n : Nat) (hn : n ≤ 32) (w : World) (hb : AreBytes bs) (hl : bs.length ≤ 140737488351232) (s0 : w.cell? ⟨S, 0, none⟩ = some (.pointer (some ⟨Q, 0, none⟩))) (h2 : Two w Q 63 (.slice g bs.length c) (.int .i64 (pos : Int))) (hI : BytesIn (fun k => k < w.heap.size ∧ k ≠ Q) w (.slice g bs.length c) bs) (hp : pos ≤ 8 * bs.length) :
    Calls Tryd.prog 32 #[.pointer (some ⟨S, 0, none⟩), .int .i64 (n : Int)] w fun e w' => Kept (fun k => k < w.heap.size ∧ k ≠ Q) w w' ∧
      ((∃ x pos', takeS bs pos n = .ok (x, pos') ∧ x < 4294967296 ∧ e = .returned (.int .i64 (x : Int)) ∧ Two w' Q 63 (.slice g bs.length c) (.int .i64 (pos' : Int)) ∧ pos' ≤ 8 * bs.length) ∨ (takeS bs pos n = .error 10 ∧ e = gaveUp 10)) := by
  by_cases h : pos + n ≤ 8 * bs.length
  · have HT : Hid _ := callsIn_wide.1 (take_in (fun k => k < w.heap.size ∧ k ≠ Q) Q g c pos n bs hb hl w (fun _ h => h.1) (by simp) h2 hI hn h)
    have HE : Hid (takeS bs pos n = .ok (orFold (upto (bitF bs pos) n), pos + n)) := by show _ = _; rw [takeS, if_pos h]
    have hlt := orFold_lt (upto (bitF bs pos) n)
    generalize orFold (upto (bitF bs pos) n) = x at HT HE hlt
    clear h2 hI
    go_enter Tryd.func32, Tryd.ntmps32
    go_wp2_with fail
    refine Calls.mono HT.out ?_
    rintro e w' ⟨rfl, h2', hk⟩
    have HF : Hid _ := And.intro h2' hk
    clear HT h2' hk
    go_wp2_with fail
    refine (needU_ok _ _).mono ?_
    rintro e w2 ⟨rfl, rfl⟩
    go_wp2
    go_ret
    exact ⟨HF.out.2, .inl ⟨x, pos + n, HE.out, hlt, rfl, HF.out.1, h⟩⟩
  · have HT : Hid _ := take_end Q g bs.length c pos n w (by omega) hp h2 (by omega) (by omega) (by omega)
    have HE : Hid (takeS bs pos n = .error 10) := by show _ = _; rw [takeS, if_neg h]
    clear h2 hI
    go_enter Tryd.func32, Tryd.ntmps32
    go_wp2_with fail
    refine Calls.mono HT.out ?_
    rintro e w' ⟨rfl, q, rfl⟩
    clear HT
    go_wp2_with fail
    refine (needU_err _ _ (by omega) _).mono ?_
    rintro e w2 ⟨rfl, rfl⟩
    go_wp2
    exact ⟨rfl, (Kept.refl _ _).drewN q, .inr ⟨HE.out, rfl⟩⟩

set_option maxRecDepth 100000 in
set_option maxHeartbeats 1000000 in
theorem symbol_q {T : Nat → Prop} {S Q : Nat} {bs : List Int} {g : Option Addr} {c pos : Nat} (zs : List Int) (D : Nat) (w : World) (hb : AreBytes bs) (hl : bs.length ≤ 140737488351232) (s0 : w.cell? ⟨S, 0, none⟩ = some (.pointer (some ⟨Q, 0, none⟩))) (h2 : Two w Q 63 (.slice g bs.length c) (.int .i64 (pos : Int))) (hI : BytesIn (fun k => k < w.heap.size ∧ k ≠ Q) w (.slice g bs.length c) bs) (hp : pos ≤ 8 * bs.length) (hc : DecIn T w D zs) :
    Calls Tryd.prog 51 #[.pointer (some ⟨S, 0, none⟩), .pointer (some ⟨D, 0, none⟩)] w fun e w' => Kept (fun k => k < w.heap.size ∧ k ≠ Q) w w' ∧
      ((∃ x pos', nextS zs bs pos = .ok (x, pos') ∧ x < 320 ∧ e = .returned (.int .i64 (x : Int)) ∧ Two w' Q 63 (.slice g bs.length c) (.int .i64 (pos' : Int)) ∧ pos' ≤ 8 * bs.length) ∨ (∃ er, nextS zs bs pos = .error er ∧ er ≠ 0 ∧ e = gaveUp er)) := by
  obtain ⟨base, vd, hD1, hD2, hD3⟩ := hc.dec
  have hbnd := nextP_taken hc.ok bs pos hp
  have hx := nextP_lt hc.ok bs pos
  have herr := nextP_err hc.ok bs pos
  have HT : Hid _ := next_any base D Q zs bs g c pos w hc.ok hb hl ⟨vd, hD1, hD2⟩ h2 hI hp
  have HE : Hid (nextS zs bs pos = if (nextOf zs bs pos).2.1 = 0 then .ok ((nextOf zs bs pos).1, pos + (nextOf zs bs pos).2.2) else .error (nextOf zs bs pos).2.1) := rfl
  generalize nextOf zs bs pos = r at HT HE hbnd hx herr
  clear h2 hI hD1 hD2 hD3 hc
  by_cases h0 : r.2.1 = 0
  · rw [h0] at HT
    go_enter Tryd.func51, Tryd.ntmps51
    go_wp2_with fail
    refine Calls.mono HT.out ?_
    rintro e w' ⟨rfl, h2', hk⟩
    have HF : Hid _ := And.intro h2' hk
    clear HT h2' hk herr
    go_wp2_with fail
    refine (needI_ok _ _).mono ?_
    rintro e w2 ⟨rfl, rfl⟩
    go_wp2
    go_ret
    exact ⟨HF.out.2, .inl ⟨r.1, pos + r.2.2, HE.out.trans (if_pos h0), hx, rfl, HF.out.1, hbnd⟩⟩
  · have h1 := herr h0
    rw [h1] at HT
    clear herr
    go_enter Tryd.func51, Tryd.ntmps51
    go_wp2_with fail
    refine Calls.mono HT.out ?_
    rintro e w' ⟨rfl, h2', hk⟩
    have HF : Hid _ := And.intro h2' hk
    clear HT h2' hk
    go_wp2_with fail
    refine (needI_err _ _ h0 _).mono ?_
    rintro e w2 ⟨rfl, rfl⟩
    go_wp2
    exact ⟨rfl, HF.out.2, .inr ⟨r.2.1, HE.out.trans (if_neg h0), h0, rfl⟩⟩
end Go.Proofs.YtiheajlgaehfmaaDoor
