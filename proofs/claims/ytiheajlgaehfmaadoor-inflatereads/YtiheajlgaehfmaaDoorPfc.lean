import Derived.Test.YtiheajlgaehfmaaDoorPfx
import Derived.Test.YtiheajlgaehfmaaDoorPcd
/- The program's stream: the codes of a fixed block. -/
namespace Go.Proofs.YtiheajlgaehfmaaDoor
open Go.RowKit

theorem intsIn_of_owns {w : World} {base : Nat} {v : Value} {zs : List Int} (D : Nat → Prop) (h : w.ownsRow base 3 1 v zs.length (zs.map (Value.int .i64))) (hD : ∀ k, v.ownBlock = some k → D k) : IntsIn D w v zs := by
  rcases h.2 with ⟨rfl, h0⟩ | ⟨g, cap, cur, rfl, hb, hgb, h3, h4, h5, h6⟩
  · exact .inl ⟨List.eq_nil_of_length_eq_zero h0, _, _, rfl⟩
  · refine .inr ⟨g, 0, cap, rfl, hD g rfl, fun j hj => ?_⟩
    have hc := h.cells (g := g) rfl j (.int .i64 (zs[j]?.getD 0)) (by simp [hj])
    rwa [Go.WideShapes.add_plain] at hc
set_option maxRecDepth 100000 in
theorem fixLit_ok : errOf fixLit = 0 := by decide
set_option maxRecDepth 100000 in
theorem fixDist_ok : errOf fixDist = 0 := by decide

/-- The blocks that are not touched, and the new ones between two worlds. -/
def upTo (T : Nat → Prop) (w w' : World) : Nat → Prop := fun k => T k ∨ (w.heap.size ≤ k ∧ k < w'.heap.size)
theorem PAt.below {T : Nat → Prop} {S Q : Nat} {bs : List Int} {g : Option Addr} {c most pos : Nat} {l d : Value} {out : List Int} {w w' : World} (h : PAt T S Q bs g c most l d pos out w) (hb : Below w.heap.size w w') : PAt (upTo T w w') S Q bs g c most l d pos out w' := by
  obtain ⟨v, hR, h2, ho, hnn, hp, hom⟩ := h
  have hk : Kept (· < w.heap.size) w w' := Kept.of_below hb (fun _ h => h)
  exact ⟨v, hR.kept hk hR.lt, h2.kept hk h2.lt, owns_kept ho hk (fun k hk => (ho.lt k hk).2), fun k hk => fun h => h.elim (hnn k hk) (fun h => by have := (ho.lt k hk).2; omega), hp, hom⟩
theorem PEnv.below {T : Nat → Prop} {S Q : Nat} {bs : List Int} {g : Option Addr} {c most : Nat} {w w' : World} (h : PEnv T S Q bs g c most w) (hS : S < w.heap.size) (hQ : Q < w.heap.size) (hb : Below w.heap.size w w') : PEnv (upTo T w w') S Q bs g c most w' :=
  ⟨fun k hk => hk.elim (fun h' => Nat.lt_of_lt_of_le (h.lt k h') hb.size) (fun h' => h'.2), fun hk => hk.elim h.nS (fun h' => by omega), fun hk => hk.elim h.nQ (fun h' => by omega), (h.bytes.kept (Kept.of_below hb h.lt)).mono (fun _ hk => .inl hk), h.are, h.len, h.cap, h.nil, h.big⟩
theorem PAt.lts {T : Nat → Prop} {S Q : Nat} {bs : List Int} {g : Option Addr} {c most pos : Nat} {l d : Value} {out : List Int} {w : World} (h : PAt T S Q bs g c most l d pos out w) : S < w.heap.size ∧ Q < w.heap.size := by
  obtain ⟨v, hR, h2, ho, hnn, hp, hom⟩ := h
  exact ⟨hR.lt, h2.lt⟩
theorem PAt.set3 {T : Nat → Prop} {S Q : Nat} {bs : List Int} {g : Option Addr} {c most pos : Nat} {l d : Value} {out : List Int} {w : World} (h : PAt T S Q bs g c most l d pos out w) (l' : Value) : PAt T S Q bs g c most l' d pos out (w.setCell ⟨S, 3, none⟩ l') := by
  obtain ⟨v, hR, h2, ho, hnn, hp, hom⟩ := h
  obtain ⟨n1, n2, n3⟩ := PAt.ne hR h2 ho
  have kS : Kept (fun x => x ≠ S) w (w.setCell ⟨S, 3, none⟩ l') := (Kept.refl _ w).setCell (p := ⟨S, 3, none⟩) (by simp) _
  exact ⟨v, by simpa using hR.set 3 l', h2.kept kS (fun e => n1 e.symm), owns_kept ho kS (fun k hk e => n2 (e ▸ hk)), hnn, hp, hom⟩
theorem PAt.set4 {T : Nat → Prop} {S Q : Nat} {bs : List Int} {g : Option Addr} {c most pos : Nat} {l d : Value} {out : List Int} {w : World} (h : PAt T S Q bs g c most l d pos out w) (d' : Value) : PAt T S Q bs g c most l d' pos out (w.setCell ⟨S, 4, none⟩ d') := by
  obtain ⟨v, hR, h2, ho, hnn, hp, hom⟩ := h
  obtain ⟨n1, n2, n3⟩ := PAt.ne hR h2 ho
  have kS : Kept (fun x => x ≠ S) w (w.setCell ⟨S, 4, none⟩ d') := (Kept.refl _ w).setCell (p := ⟨S, 4, none⟩) (by simp) _
  exact ⟨v, by simpa using hR.set 4 d', h2.kept kS (fun e => n1 e.symm), owns_kept ho kS (fun k hk e => n2 (e ▸ hk)), hnn, hp, hom⟩
theorem PAt.frozen {T : Nat → Prop} {S Q : Nat} {bs : List Int} {g : Option Addr} {c most pos : Nat} {l d : Value} {out : List Int} {w : World} (h : PAt T S Q bs g c most l d pos out w) (i : Nat) : w.frozen? ⟨S, i, none⟩ = false := by
  obtain ⟨v, hR, h2, ho, hnn, hp, hom⟩ := h
  exact hR.frozen i
/-- A decoder that was made just now. -/
theorem DecAt.decIn {T : Nat → Prop} {base D : Nat} {zs : List Int} {w w' : World} (h : DecAt base zs 15 D w') (ok : errOf zs = 0) (hb : w.heap.size ≤ base) (hD : base ≤ D) : DecIn (upTo T w w') w' D zs := by
  obtain ⟨v, h1, h2⟩ := h
  exact ⟨ok, .inr ⟨by omega, h1.lt⟩, base, v, h1, h2, fun k hk => .inr ⟨by have := (h2.lt k hk).1; omega, (h2.lt k hk).2⟩⟩

/-- The tables of fixed blocks: not yet made, or there. -/
def Cached (T : Nat → Prop) (w : World) (l d : Value) : Prop := (l = .pointer none ∧ d = .pointer none) ∨ ∃ LD DD, l = .pointer (some ⟨LD, 0, none⟩) ∧ d = .pointer (some ⟨DD, 0, none⟩) ∧ DecIn T w LD fixLit ∧ DecIn T w DD fixDist
theorem Cached.kept {T : Nat → Prop} {w w' : World} {l d : Value} (h : Cached T w l d) (hk : Kept T w w') : Cached T w' l d :=
  h.imp id (fun ⟨LD, DD, e1, e2, h1, h2⟩ => ⟨LD, DD, e1, e2, h1.kept hk, h2.kept hk⟩)
theorem Cached.mono {T T' : Nat → Prop} {w : World} {l d : Value} (h : Cached T w l d) (hT : ∀ k, T k → T' k) : Cached T' w l d :=
  h.imp id (fun ⟨LD, DD, e1, e2, h1, h2⟩ => ⟨LD, DD, e1, e2, h1.mono hT, h2.mono hT⟩)
/-- Two decoders are at hand, the stream is where it was. -/
def CodesPost (T : Nat → Prop) (S Q : Nat) (bs : List Int) (g : Option Addr) (c most : Nat) (out : List Int) (w : World) (lz dz : List Int) (pos' : Nat) (e : Ending) (w' : World) : Prop :=
  ∃ T' LD DD l' d', (∀ k, T k → T' k) ∧ e = .returned (.tuple #[.pointer (some ⟨LD, 0, none⟩), .pointer (some ⟨DD, 0, none⟩)]) ∧ PEnv T' S Q bs g c most w' ∧ PAt T' S Q bs g c most l' d' pos' out w' ∧ DecIn T' w' LD lz ∧ DecIn T' w' DD dz ∧ Cached T' w' l' d' ∧ Kept T w w'

set_option maxRecDepth 100000 in
set_option maxHeartbeats 4000000 in
theorem fixedCodes_new {T : Nat → Prop} {S Q : Nat} {bs : List Int} {g : Option Addr} {c most pos : Nat} {d : Value} {out : List Int} (w : World) (hE : PEnv T S Q bs g c most w) (hs : PAt T S Q bs g c most (.pointer none) d pos out w) :
    Calls Tryd.prog 35 #[.pointer (some ⟨S, 0, none⟩)] w (CodesPost T S Q bs g c most out w fixLit fixDist pos) := by
  obtain ⟨gv, cv, -, -, -, c3, -⟩ := hs.cells
  obtain ⟨hS, hQ⟩ := hs.lts
  go_enter Tryd.func35, Tryd.ntmps35
  go_wp2_with fail
  refine (pfixedLit_any _).mono ?_
  rintro e w1 ⟨g1, p1, rfl, ho1, hb1⟩
  have s1 := hb1.size
  have HN : Hid (Calls Tryd.prog 55 #[.slice g1 288 p1] w1 _) := new_ok (· < w1.heap.size) g1 p1 fixLit w1 (fun _ h => h) (intsIn_of_owns (zs := fixLit) _ ho1 (fun k hk => (ho1.lt k hk).2)) fixLit_ok (by decide)
  clear c3
  go_wp2_with fail
  refine Calls.mono HN.out ?_
  clear HN
  rintro e w2 ⟨LD, rfl, hLD, hD2, hb2⟩
  go_wp2_with fail
  refine (needD_ok _ _).mono ?_
  rintro e w2' ⟨rfl, hw⟩
  rw [hw]
  clear hw w2'
  have s2 := hb2.size
  have hb02 : Below w.heap.size w w2 := hb1.trans (hb2.mono s1)
  have hs2 := hs.below hb02
  have hE2 := hE.below hS hQ hb02
  have hL2 : DecIn (upTo T w w2) w2 LD fixLit := hD2.decIn fixLit_ok s1 hLD
  have hk02 : Kept T w w2 := Kept.of_below hb02 hE.lt
  obtain ⟨gv2, cv2, -, -, -, c3, -⟩ := hs2.cells
  have f3 := hs2.frozen 3
  have hs3 := hs2.set3 (.pointer (some ⟨LD, 0, none⟩))
  have k3 : Kept (upTo T w w2) w2 (w2.setCell ⟨S, 3, none⟩ (.pointer (some ⟨LD, 0, none⟩))) := (Kept.refl _ w2).setCell (p := ⟨S, 3, none⟩) hE2.nS _
  have hE3 := hE2.kept k3
  have hL3 := hL2.kept k3
  have hk03 : Kept T w (w2.setCell ⟨S, 3, none⟩ (.pointer (some ⟨LD, 0, none⟩))) := hk02.trans (k3.mono (fun k hk => .inl hk))
  clear hb1 hb2 ho1 hD2 hb02 hs hE hs2 hE2 hL2 hk02 k3
  go_wp2_with fail
  have HD : Hid _ := pfixedDist_any (w2.setCell ⟨S, 3, none⟩ (.pointer (some ⟨LD, 0, none⟩)))
  clear c3 f3
  generalize w2.setCell ⟨S, 3, none⟩ (.pointer (some ⟨LD, 0, none⟩)) = w3 at *
  refine Calls.mono HD.out ?_
  clear HD
  rintro e w4 ⟨g4, p4, rfl, ho4, hb4⟩
  obtain ⟨hS3, hQ3⟩ := hs3.lts
  have s4 := hb4.size
  have HN : Hid (Calls Tryd.prog 55 #[.slice g4 32 p4] w4 _) := new_ok (· < w4.heap.size) g4 p4 fixDist w4 (fun _ h => h) (intsIn_of_owns (zs := fixDist) _ ho4 (fun k hk => (ho4.lt k hk).2)) fixDist_ok (by decide)
  go_wp2_with fail
  refine Calls.mono HN.out ?_
  clear HN
  rintro e w5 ⟨DD, rfl, hDD, hD5, hb5⟩
  go_wp2_with fail
  refine (needD_ok _ _).mono ?_
  rintro e w5' ⟨rfl, hw⟩
  rw [hw]
  clear hw w5'
  have s5 := hb5.size
  have hb35 : Below w3.heap.size w3 w5 := hb4.trans (hb5.mono s4)
  have hs5 := hs3.below hb35
  have hE5 := hE3.below hS3 hQ3 hb35
  have hk35 : Kept (upTo T w w2) w3 w5 := Kept.of_below hb35 hE3.lt
  have hL5 := (hL3.kept hk35).mono (T' := upTo (upTo T w w2) w3 w5) (fun k hk => .inl hk)
  have hD5' : DecIn (upTo (upTo T w w2) w3 w5) w5 DD fixDist := hD5.decIn fixDist_ok s4 hDD
  have hk05 : Kept T w w5 := hk03.trans (hk35.mono (fun k hk => .inl hk))
  obtain ⟨gv5, cv5, -, -, -, -, c4⟩ := hs5.cells
  have f4 := hs5.frozen 4
  have hs6 := hs5.set4 (.pointer (some ⟨DD, 0, none⟩))
  have k6 : Kept (upTo (upTo T w w2) w3 w5) w5 (w5.setCell ⟨S, 4, none⟩ (.pointer (some ⟨DD, 0, none⟩))) := (Kept.refl _ w5).setCell (p := ⟨S, 4, none⟩) hE5.nS _
  have hE6 := hE5.kept k6
  have hL6 := hL5.kept k6
  have hD6 := hD5'.kept k6
  have hk06 : Kept T w (w5.setCell ⟨S, 4, none⟩ (.pointer (some ⟨DD, 0, none⟩))) := hk05.trans (k6.mono (fun k hk => .inl (.inl hk)))
  clear hb4 hb5 ho4 hD5 hb35 hs3 hE3 hL3 hk03 hs5 hE5 hk35 hL5 hD5' hk05 k6
  have HX : Hid (∀ n, CodesPost T S Q bs g c most out w fixLit fixDist pos (.returned (.tuple #[.pointer (some ⟨LD, 0, none⟩), .pointer (some ⟨DD, 0, none⟩)])) ((w5.setCell ⟨S, 4, none⟩ (.pointer (some ⟨DD, 0, none⟩))).drewN n)) := by
    intro n
    have kd : Kept (upTo (upTo T w w2) w3 w5) (w5.setCell ⟨S, 4, none⟩ (.pointer (some ⟨DD, 0, none⟩))) ((w5.setCell ⟨S, 4, none⟩ (.pointer (some ⟨DD, 0, none⟩))).drewN n) := (Kept.refl _ _).drewN n
    exact ⟨_, LD, DD, _, _, fun k hk => .inl (.inl hk), rfl, hE6.kept kd, hs6.drewN n, hL6.kept kd, hD6.kept kd, .inr ⟨LD, DD, rfl, rfl, hL6.kept kd, hD6.kept kd⟩, hk06.drewN n⟩
  obtain ⟨gv6, cv6, -, -, -, d3, d4⟩ := hs6.cells
  clear hs6 hE6 hL6 hD6 hk06
  go_wp2_with fail
  go_quiet (fail)
  go_wp2
  go_ret2
  exact HX.out _
set_option maxRecDepth 100000 in
set_option maxHeartbeats 4000000 in
theorem fixedCodes_old {T : Nat → Prop} {S Q : Nat} {bs : List Int} {g : Option Addr} {c most pos : Nat} {out : List Int} (LD DD : Nat) (w : World) (hE : PEnv T S Q bs g c most w) (hs : PAt T S Q bs g c most (.pointer (some ⟨LD, 0, none⟩)) (.pointer (some ⟨DD, 0, none⟩)) pos out w) (hl : DecIn T w LD fixLit) (hd : DecIn T w DD fixDist) :
    Calls Tryd.prog 35 #[.pointer (some ⟨S, 0, none⟩)] w (CodesPost T S Q bs g c most out w fixLit fixDist pos) := by
  obtain ⟨gv, cv, -, -, -, c3, c4⟩ := hs.cells
  have HX : Hid (∀ n, CodesPost T S Q bs g c most out w fixLit fixDist pos (.returned (.tuple #[.pointer (some ⟨LD, 0, none⟩), .pointer (some ⟨DD, 0, none⟩)])) (w.drewN n)) := by
    intro n
    have kd : Kept T w (w.drewN n) := (Kept.refl _ _).drewN n
    exact ⟨_, LD, DD, _, _, fun k hk => hk, rfl, hE.kept kd, hs.drewN n, hl.kept kd, hd.kept kd, .inr ⟨LD, DD, rfl, rfl, hl.kept kd, hd.kept kd⟩, kd⟩
  clear hE hs hl hd
  go_enter Tryd.func35, Tryd.ntmps35
  go_wp2_with fail
  go_quiet (fail)
  go_wp2
  go_ret2
  exact HX.out _
theorem fixedCodes_any {T : Nat → Prop} {S Q : Nat} {bs : List Int} {g : Option Addr} {c most pos : Nat} {l d : Value} {out : List Int} (w : World) (hE : PEnv T S Q bs g c most w) (hs : PAt T S Q bs g c most l d pos out w) (hc : Cached T w l d) :
    Calls Tryd.prog 35 #[.pointer (some ⟨S, 0, none⟩)] w (CodesPost T S Q bs g c most out w fixLit fixDist pos) := by
  rcases hc with ⟨rfl, rfl⟩ | ⟨LD, DD, rfl, rfl, h1, h2⟩
  · exact fixedCodes_new w hE hs
  · exact fixedCodes_old LD DD w hE hs h1 h2
end Go.Proofs.YtiheajlgaehfmaaDoor
