/- BitsWrites is proved where what it reads is of bulk at most 1048576: over every such script of calls the program's writer writes what the document's writer writes. -/
import Derived.Test.YtmebbmofegjgnaaAlive
import Derived.Test.YtmebbmofegjgnaaWst
import Derived.Deep.RegionHeld3
import Derived.JoinedCond
namespace Go.Proofs.Ytmebbmofegjgnaa.bitsWrites
open Go.ChangeShapes Go.WideShapes Go.ChangeAt Go.RowKit

theorem hide {p : Prop} (h : p) : Hid p := h

def cost (r : OpR) : Nat := 40 + 8 * r.bs.length
def costTo (ops : List OpR) (k : Nat) : Nat := ((ops.take k).map cost).sum
theorem costTo_succ {ops : List OpR} {k : Nat} {r : OpR} (h : ops[k]? = some r) : costTo ops (k + 1) = costTo ops k + cost r := by
  unfold costTo
  obtain ⟨hlt, he⟩ := List.getElem?_eq_some_iff.1 h
  rw [List.take_succ_eq_append_getElem hlt, List.map_append, List.sum_append, he]
  simp
theorem costTo_le (ops : List OpR) (k : Nat) : costTo ops k ≤ costTo ops ops.length := by
  unfold costTo
  rw [List.take_length]
  have e : ops = ops.take k ++ ops.drop k := (List.take_append_drop k ops).symm
  conv => rhs; rw [e]
  rw [List.map_append, List.sum_append]
  omega

theorem putBits_le (r : OpR) : (putBits r).length ≤ 32 := by
  unfold putBits
  split
  · rw [lowBits_length]; omega
  · simp
theorem pad_le (bs : List Bool) : (pad bs).length ≤ bs.length + 7 := by rw [pad_length]; omega

theorem St.enter {B : Nat → Prop} {R Rd : Nat} {w3 wr : World} {bw bd : List Bool} (h : St B R Rd w3 wr bw bd) (o : Obj) : St (fun j => B j ∨ j = wr.heap.size) R Rd (wr.alloc o) (wr.alloc o) bw bd := by
  obtain ⟨ys, g, c, gd, cd, a1, a2, a3, a4, a5, a6, a7, a8⟩ := h
  refine ⟨ys, g, c, gd, cd, a1.alloc o, a2.alloc o, a3, a4.alloc o, a5.alloc o, ?_, ?_, Kept.refl _ _⟩
  · intro k hk
    refine ⟨?_, (a6 k hk).2⟩
    rintro (h | h)
    · exact (a6 k hk).1 h
    · have := (a2.lt k hk).2; omega
  · rintro k hk (h | h)
    · exact a7 k hk h
    · have := (a5.lt k hk).2; omega
theorem St.leave {B : Nat → Prop} {R Rd : Nat} {w3 wr W : World} {bw bd cw cd : List Bool} {o : Obj} (h0 : St B R Rd w3 wr cw cd) (hB : ∀ j, B j → j < w3.heap.size) (h : St (fun j => B j ∨ j = wr.heap.size) R Rd (wr.alloc o) W bw bd) : St B R Rd w3 W bw bd := by
  obtain ⟨_, _, _, _, _, _, _, _, _, _, _, _, b8⟩ := h0
  obtain ⟨ys, g, c, gd, cd, a1, a2, a3, a4, a5, a6, a7, a8⟩ := h
  exact ⟨ys, g, c, gd, cd, a1, a2, a3, a4, a5, fun k hk => ⟨fun h => (a6 k hk).1 (.inl h), (a6 k hk).2⟩, fun k hk h => a7 k hk (.inl h), (b8.alloc (fun j hj => Nat.lt_of_lt_of_le (hB j hj) b8.size) o).trans (a8.mono (fun j hj => .inl hj))⟩

theorem doneW2 {T0 : Nat → Prop} {R Rd : Nat} {Ws : World} (W : World) (bw bd : List Bool) (hT0 : ∀ j, T0 j → j < Ws.heap.size) (hsz : bw.length + 32 < 140737488355328) (h : St T0 R Rd Ws W bw bd) :
    Calls Try.prog 27 #[.pointer (some ⟨R, 0, none⟩)] W fun e W' => ∃ g n c, e = .returned (.slice g n c) ∧ St T0 R Rd Ws W' bw bd ∧ Holds W' (.slice g n c) bw ∧ Below W.heap.size W W' ∧ W'.cell? ⟨Rd, 0, none⟩ = W.cell? ⟨Rd, 0, none⟩ := by
  refine (stDoneW W bw bd hT0 hsz h).mono ?_
  rintro e W' ⟨g, n, c, he, h1, h2, h3⟩
  obtain ⟨_, _, _, _, _, _, _, _, a4, _⟩ := h
  exact ⟨g, n, c, he, h1, h2, h3, h3.cell (p := ⟨Rd, 0, none⟩) a4.lt⟩
theorem doneD2 {T0 : Nat → Prop} {R Rd : Nat} {Ws : World} (W : World) (bw bd : List Bool) (hT0 : ∀ j, T0 j → j < Ws.heap.size) (hRd : ¬ T0 Rd) (hsz : bd.length + 32 < 140737488355328) (h : St T0 R Rd Ws W bw bd) :
    Calls Try.prog 28 #[.pointer (some ⟨Rd, 0, none⟩)] W fun e W' => ∃ g n c, e = .returned (.slice g n c) ∧ St T0 R Rd Ws W' bw bd ∧ Holds W' (.slice g n c) bd ∧ Below W.heap.size W W' ∧ W'.cell? ⟨Rd, 0, none⟩ = W.cell? ⟨Rd, 0, none⟩ := by
  refine (stDoneD W bw bd hT0 hRd hsz h).mono ?_
  rintro e W' ⟨g, n, c, he, h1, h2, h3⟩
  obtain ⟨_, _, _, _, _, _, _, _, a4, _⟩ := h
  exact ⟨g, n, c, he, h1, h2, h3, h3.cell (p := ⟨Rd, 0, none⟩) a4.lt⟩

set_option maxRecDepth 100000 in
set_option maxHeartbeats 4000000 in
theorem walk (sa : Option Addr) (scap : Nat) (ops : List OpR) (w : World) (hol : ops.length ≤ 1048576) (hcost : costTo ops ops.length ≤ 1099511627776)
    (hO : OpsIn (· < w.heap.size) w sa ops) :
    Calls Try.prog 4 #[.slice sa ops.length scap] w fun e w' => e = .returned (.bool true) ∧ Below w.heap.size w w' := by
  go_enter Try.func4, Try.ntmps4
  go_wp2_with fail
  refine (newWriter_any w).mono ?_
  rintro e w1 ⟨rfl, hw1⟩
  have hT1 : Two w1 w.heap.size 63 (.slice none 0 0) (.int .i64 0) := hw1 ▸ Two.new w _ _ _
  have hs1 : w1.heap.size = w.heap.size + 1 := by rw [hw1]; simp
  have hB1 : Below w.heap.size w w1 := hw1 ▸ (Below.refl _ w).alloc (Nat.le_refl _) _
  have HS1 : Hid (w1.heap.size = w.heap.size + 1) := hs1
  clear hs1 hw1
  go_wp2_with fail
  refine (alive_any _).mono ?_
  rintro e w3 ⟨rfl, hB3⟩
  have hTd1 : Boxed (w1.alloc (.cells #[.slice none 0 0] 45)) w1.heap.size 45 (.slice none 0 0) := Boxed.new w1 _ _
  have hsz3 : w1.heap.size + 1 ≤ w3.heap.size := by have := hB3.size; simpa using this
  have hT3 : Two w3 w.heap.size 63 (.slice none 0 0) (.int .i64 0) := (hB3.block _ (by simp; have := HS1.out; omega)).trans (hT1.alloc _)
  have hTd3 : Boxed w3 w1.heap.size 45 (.slice none 0 0) := (hB3.block _ (by simp)).trans hTd1
  have hK3 : Kept (· < w.heap.size) w w3 := (Kept.of_below hB1 (fun _ h => h)).trans ((Kept.of_below (B := w1.heap.size) ((Below.refl _ w1).alloc (Nat.le_refl _) _) (fun k hk => by have := HS1.out; omega)).trans (Kept.of_below hB3 (fun k hk => by simp; have := HS1.out; omega)))
  have HRD : Hid (w1.heap.size = w.heap.size + 1) := HS1
  generalize w1.heap.size = Rd at hTd3 hsz3 HRD ⊢
  have hO3 := hO.kept hK3
  have hSt3 : St (fun j => j < w3.heap.size ∧ j ≠ w.heap.size ∧ j ≠ Rd) w.heap.size Rd w3 w3 [] [] :=
    ⟨[], none, 0, none, 0, hT3, World.ownsRow_nil _ _ _ _, packed_nil, hTd3, World.ownsRow_nil _ _ _ _, fun k hk => by simp [Value.ownBlock] at hk, fun k hk => by simp [Value.ownBlock] at hk, Kept.refl _ _⟩
  clear hT1 hB1 hB3 hTd1 hT3 hTd3 hO HS1
  go_wp2_with fail
  go_loopw [5] (fun i wr => ∃ k : Nat, k ≤ ops.length ∧ i = .int .i64 k ∧ (∃ bs : List Bool, bs.length ≤ costTo ops k ∧ St (fun j => j < w3.heap.size ∧ j ≠ w.heap.size ∧ j ≠ Rd) w.heap.size Rd w3 wr bs bs)) (fun i _ => ops.length - (intOf i).toNat)
  case atStart => exact ⟨0, by omega, rfl, ⟨[], by simp, hSt3⟩⟩
  case round =>
    obtain ⟨k, hk, rfl, ⟨bs, hbl, hSt⟩⟩ := hrel
    have hSt0 := hSt
    obtain ⟨_, _, _, _, _, q1, _, _, q4, _, _, _, hK⟩ := hSt0
    have hRw := q1.lt
    have hRdw := q4.lt
    by_cases hlt : k < ops.length
    · rcases hO3 with rfl | ⟨b, off, rfl, hb, hc⟩
      · simp at hlt
      have hopk : ops[k]? = some ops[k] := List.getElem?_eq_getElem hlt
      have hr := (hc k ops[k] hopk).kept (hK.mono (T := (· < w.heap.size)) (fun j hj => by have := HRD.out; have := hK3.size; exact ⟨by omega, by omega, by omega⟩)) hb
      obtain ⟨ba, bc, hsv, hba⟩ := hr.cap
      have HC : Hid (costTo ops (k + 1) = costTo ops k + cost ops[k] ∧ costTo ops (k + 1) ≤ 1099511627776) := ⟨costTo_succ hopk, Nat.le_trans (costTo_le ops (k + 1)) hcost⟩
      generalize ops[k] = r at hr hsv hba HC
      have c0 := hr.kind
      have c1 := hr.n
      have c2 := hr.v
      have c3 := hr.sv
      rw [hsv] at c3
      obtain ⟨T0, eT0⟩ : ∃ T0 : Nat → Prop, T0 = fun j => (j < w3.heap.size ∧ j ≠ w.heap.size ∧ j ≠ Rd) ∨ j = wr.heap.size := ⟨_, rfl⟩
      obtain ⟨W, eW⟩ : ∃ W : World, W = (wr.alloc (.cells #[.int .i64 r.kind, .int .i64 r.n, .int .u32 r.v, .slice ba r.bs.length bc] 32)) := ⟨_, rfl⟩
      have hT0 : ∀ j, T0 j → j < W.heap.size := by
        rw [eT0, eW]
        rintro j (h | h)
        · have := hK.size; simp; omega
        · simp; omega
      have hS1 : St T0 w.heap.size Rd W W bs bs := by rw [eT0, eW]; exact St.enter hSt _
      have hbW : BytesIn T0 W (.slice ba r.bs.length bc) r.bs := by
        have h1 := hr.bytes
        rw [hsv] at h1
        have h2 : BytesIn T0 wr (.slice ba r.bs.length bc) r.bs := h1.mono (fun j hj => by rw [eT0]; exact .inl (by have := HRD.out; have := hK3.size; exact ⟨by omega, by omega, by omega⟩))
        rw [eW]
        rcases h2 with h2 | ⟨b', off', cap', e', hb', hc'⟩
        · exact .inl h2
        · exact .inr ⟨b', off', cap', e', hb', fun j hj => (((Below.refl wr.heap.size wr).alloc (Nat.le_refl _) _).cell (p := ⟨b', off' + j, none⟩) (cell_lt (hc' j hj))).trans (hc' j hj)⟩
      have x1 : W.cell? ⟨wr.heap.size, 1, none⟩ = some (.int .i64 r.n) := by rw [eW]; simp [World.cell?_alloc_at]
      have x2 : W.cell? ⟨wr.heap.size, 2, none⟩ = some (.int .u32 r.v) := by rw [eW]; simp [World.cell?_alloc_at]
      have x3 : W.cell? ⟨wr.heap.size, 3, none⟩ = some (.slice ba r.bs.length bc) := by rw [eW]; simp [World.cell?_alloc_at]
      have hR0 : ¬ T0 w.heap.size := by rw [eT0]; omega
      have hRd0 : ¬ T0 Rd := by rw [eT0]; omega
      have hbox0 : T0 wr.heap.size := by rw [eT0]; exact .inr rfl
      have HB := hide (show ∀ (W' : World) (b' : List Bool), St T0 w.heap.size Rd W W' b' b' → St (fun j => j < w3.heap.size ∧ j ≠ w.heap.size ∧ j ≠ Rd) w.heap.size Rd w3 W' b' b' from fun W' b' h => by rw [eT0, eW] at h; exact St.leave hSt (fun j hj => hj.1) h)
      have EW := hide eW
      have v0 := hr.vlo
      have v1 := hr.vhi
      have hzb := hr.are
      have hcl := HC.out
      clear hc hsv hSt hopk q1 q4 eW eT0 hr
      go_wp2_with fail
      all_goals rw [← EW.out]
      · -- Put
        have HC1 := HC.out.1
        have hpb := putBits_le r
        have hS1d := hS1.drew
        have HPw := hide (show ∀ (bd : List Bool) (W' : World), St T0 w.heap.size Rd W W' bs bd → Calls Try.prog 20 #[.pointer (some ⟨w.heap.size, 0, none⟩), .int .u32 r.v, .int .i64 r.n] W' fun e W'' => e = .returned (.int .i64 (putErr r)) ∧ St T0 w.heap.size Rd W W'' (bs ++ putBits r) bd ∧ W''.cell? ⟨wr.heap.size, 1, none⟩ = some (.int .i64 r.n) ∧ W''.cell? ⟨wr.heap.size, 2, none⟩ = some (.int .u32 r.v) from fun bd W' h => (stPutW r W' bs bd hR0 hT0 v0 v1 (by omega) h).mono (fun e W'' h => by
          obtain ⟨he, hs⟩ := h
          have hs' := hs
          obtain ⟨_, _, _, _, _, _, _, _, _, _, _, _, hk⟩ := hs'
          exact ⟨he, hs, (hk.cell (p := ⟨wr.heap.size, 1, none⟩) hbox0).trans x1, (hk.cell (p := ⟨wr.heap.size, 2, none⟩) hbox0).trans x2⟩))
        have HPd := hide (show ∀ (bw : List Bool) (W' : World), St T0 w.heap.size Rd W W' bw bs → Calls Try.prog 21 #[.pointer (some ⟨Rd, 0, none⟩), .int .u32 r.v, .int .i64 r.n] W' fun e W'' => e = .returned (.int .i64 (putErr r)) ∧ St T0 w.heap.size Rd W W'' bw (bs ++ putBits r) ∧ W''.cell? ⟨wr.heap.size, 1, none⟩ = some (.int .i64 r.n) ∧ W''.cell? ⟨wr.heap.size, 2, none⟩ = some (.int .u32 r.v) from fun bw W' h => (stPutD r W' bw bs hRd0 hT0 v0 (by omega) h).mono (fun e W'' h => by
          obtain ⟨he, hs⟩ := h
          have hs' := hs
          obtain ⟨_, _, _, _, _, _, _, _, _, _, _, _, hk⟩ := hs'
          exact ⟨he, hs, (hk.cell (p := ⟨wr.heap.size, 1, none⟩) hbox0).trans x1, (hk.cell (p := ⟨wr.heap.size, 2, none⟩) hbox0).trans x2⟩))
        go_region_held3 (fun w' => w'.cell? ⟨wr.heap.size, 1, none⟩ = some (.int .i64 r.n) ∧ w'.cell? ⟨wr.heap.size, 2, none⟩ = some (.int .u32 r.v)) (go_keep)
          (first
            | (go_at_call 20; (first | refine (HPw.out (bs ++ putBits r) _ hS5).mono ?_ | refine (HPw.out bs _ hS1d).mono ?_); rintro e w4 ⟨rfl, hS4, k41, k42⟩)
            | (go_at_call 21; (first | refine (HPd.out (bs ++ putBits r) _ hS4).mono ?_ | refine (HPd.out bs _ hS1d).mono ?_); rintro e w5 ⟨rfl, hS5, k51, k52⟩))
        obtain ⟨b', eb⟩ : ∃ b' : List Bool, b' = bs ++ putBits r := ⟨_, rfl⟩
        have hS : St T0 w.heap.size Rd W w5 b' b' := by rw [eb]; exact hS5
        have hb' : b'.length ≤ costTo ops (k + 1) := by rw [eb]; rw [List.length_append]; unfold cost at HC1; omega
        clear eb hS5 hS4 hS1
        -- the comparison behind each step
        have hSd := hS.drew
        obtain ⟨ys0, g0, cc0, gd, cd, p1, p2, p3, p4, p5, p6, p7, p8⟩ := hS
        have kd := p4.cell
        clear p1 p2 p3 p4 p5 p6 p7 p8
        have HL := hide (fun (W' : World) (h : St T0 w.heap.size Rd W W' b' b') => stLen W' b' b' h)
        have HW := hide (fun (W' : World) (h : St T0 w.heap.size Rd W W' b' b') => doneW2 W' b' b' hT0 (by omega) h)
        have HD := hide (fun (W' : World) (h : St T0 w.heap.size Rd W W' b' b') => doneD2 W' b' b' hT0 hRd0 (by omega) h)
        have HT0 := hide hT0
        clear hT0
        go_wp2_with fail
        go_region_held3 (fun w' => w'.cell? ⟨Rd, 0, none⟩ = some (.slice gd b'.length cd)) (go_keep)
          (first
            | (go_at_call 26; refine (HL.out _ ?_).mono ?_; (first | exact hSd | assumption); rintro e w6 ⟨rfl, rfl⟩)
            | (go_at_call 27; refine (HW.out _ ?_).mono ?_; (first | exact hSd | assumption); rintro e w7 ⟨gx, nx, cx, rfl, hS7, hX7, hk7, kd7⟩)
            | (go_at_call 28; refine (HD.out _ ?_).mono ?_; (first | exact hSd | assumption); rintro e w8 ⟨gy, ny, cy, rfl, hS8, hX8, hk8, kd8⟩)
            | (go_at_call 16; refine (stSame _ _ _ _ _ _ b' _ ?_ ?_).mono ?_; (first | exact hX7 | exact hX7.below hk8); (first | exact hX8 | exact hX8.below hk7); rintro e w9 ⟨rfl, rfl⟩))
        all_goals go_wp2
        all_goals exact ⟨⟨k + 1, by omega, by go_num, b', hb', HB.out _ _ (by first | exact hS8 | exact hS7)⟩, by simp [intOf]; omega⟩
      · -- Align
        have HC1 := HC.out.1
        have hpd := pad_le bs
        refine (stAlignW W bs bs hR0 hT0 (by omega) hS1).mono ?_
        rintro e w4 ⟨rfl, hS4⟩
        go_wp2_with fail
        refine (stAlignD w4 (pad bs) bs hRd0 hT0 (by omega) hS4).mono ?_
        rintro e w5 ⟨rfl, hS5⟩
        obtain ⟨b', eb⟩ : ∃ b' : List Bool, b' = pad bs := ⟨_, rfl⟩
        have hS : St T0 w.heap.size Rd W w5 b' b' := by rw [eb]; exact hS5
        have hb' : b'.length ≤ costTo ops (k + 1) := by rw [eb]; skip; unfold cost at HC1; omega
        clear eb hS5 hS4 hS1
        -- the comparison behind each step
        have hSd := hS.drew
        obtain ⟨ys0, g0, cc0, gd, cd, p1, p2, p3, p4, p5, p6, p7, p8⟩ := hS
        have kd := p4.cell
        clear p1 p2 p3 p4 p5 p6 p7 p8
        have HL := hide (fun (W' : World) (h : St T0 w.heap.size Rd W W' b' b') => stLen W' b' b' h)
        have HW := hide (fun (W' : World) (h : St T0 w.heap.size Rd W W' b' b') => doneW2 W' b' b' hT0 (by omega) h)
        have HD := hide (fun (W' : World) (h : St T0 w.heap.size Rd W W' b' b') => doneD2 W' b' b' hT0 hRd0 (by omega) h)
        have HT0 := hide hT0
        clear hT0
        go_wp2_with fail
        go_region_held3 (fun w' => w'.cell? ⟨Rd, 0, none⟩ = some (.slice gd b'.length cd)) (go_keep)
          (first
            | (go_at_call 26; refine (HL.out _ ?_).mono ?_; (first | exact hSd | assumption); rintro e w6 ⟨rfl, rfl⟩)
            | (go_at_call 27; refine (HW.out _ ?_).mono ?_; (first | exact hSd | assumption); rintro e w7 ⟨gx, nx, cx, rfl, hS7, hX7, hk7, kd7⟩)
            | (go_at_call 28; refine (HD.out _ ?_).mono ?_; (first | exact hSd | assumption); rintro e w8 ⟨gy, ny, cy, rfl, hS8, hX8, hk8, kd8⟩)
            | (go_at_call 16; refine (stSame _ _ _ _ _ _ b' _ ?_ ?_).mono ?_; (first | exact hX7 | exact hX7.below hk8); (first | exact hX8 | exact hX8.below hk7); rintro e w9 ⟨rfl, rfl⟩))
        all_goals go_wp2
        all_goals exact ⟨⟨k + 1, by omega, by go_num, b', hb', HB.out _ _ (by first | exact hS8 | exact hS7)⟩, by simp [intOf]; omega⟩
      · -- Bytes
        have HC1 := HC.out.1
        have hpd := pad_le bs
        have hcr : cost r = 40 + 8 * r.bs.length := rfl
        have hbb := byteBits_length r.bs
        refine (stBytesW ba bc r.bs W bs bs hba hR0 hT0 hzb (by omega) hbW hS1).mono ?_
        rintro e w4 ⟨rfl, hS4⟩
        have hS4' := hS4
        obtain ⟨_, _, _, _, _, _, _, _, _, _, _, _, hk4⟩ := hS4'
        have x34 := (hk4.cell (p := ⟨wr.heap.size, 3, none⟩) hbox0).trans x3
        have hbW4 := hbW.kept hk4
        have HCR := hide hcr
        have HBB := hide hbb
        clear hcr hbb
        go_wp2_with fail
        refine (stBytesD ba bc r.bs w4 (pad bs ++ byteBits r.bs) bs hRd0 hT0 hzb (by have := HCR.out; omega) hbW4 hS4).mono ?_
        rintro e w5 ⟨rfl, hS5⟩
        clear hk4 x34 hbW4
        obtain ⟨b', eb⟩ : ∃ b' : List Bool, b' = pad bs ++ byteBits r.bs := ⟨_, rfl⟩
        have hS : St T0 w.heap.size Rd W w5 b' b' := by rw [eb]; exact hS5
        have hb' : b'.length ≤ costTo ops (k + 1) := by rw [eb]; rw [List.length_append, HBB.out]; unfold cost at HC1; omega
        clear eb hS5 hS4 hS1
        -- the comparison behind each step
        have hSd := hS.drew
        obtain ⟨ys0, g0, cc0, gd, cd, p1, p2, p3, p4, p5, p6, p7, p8⟩ := hS
        have kd := p4.cell
        clear p1 p2 p3 p4 p5 p6 p7 p8
        have HL := hide (fun (W' : World) (h : St T0 w.heap.size Rd W W' b' b') => stLen W' b' b' h)
        have HW := hide (fun (W' : World) (h : St T0 w.heap.size Rd W W' b' b') => doneW2 W' b' b' hT0 (by omega) h)
        have HD := hide (fun (W' : World) (h : St T0 w.heap.size Rd W W' b' b') => doneD2 W' b' b' hT0 hRd0 (by omega) h)
        have HT0 := hide hT0
        clear hT0
        go_wp2_with fail
        go_region_held3 (fun w' => w'.cell? ⟨Rd, 0, none⟩ = some (.slice gd b'.length cd)) (go_keep)
          (first
            | (go_at_call 26; refine (HL.out _ ?_).mono ?_; (first | exact hSd | assumption); rintro e w6 ⟨rfl, rfl⟩)
            | (go_at_call 27; refine (HW.out _ ?_).mono ?_; (first | exact hSd | assumption); rintro e w7 ⟨gx, nx, cx, rfl, hS7, hX7, hk7, kd7⟩)
            | (go_at_call 28; refine (HD.out _ ?_).mono ?_; (first | exact hSd | assumption); rintro e w8 ⟨gy, ny, cy, rfl, hS8, hX8, hk8, kd8⟩)
            | (go_at_call 16; refine (stSame _ _ _ _ _ _ b' _ ?_ ?_).mono ?_; (first | exact hX7 | exact hX7.below hk8); (first | exact hX8 | exact hX8.below hk7); rintro e w9 ⟨rfl, rfl⟩))
        all_goals go_wp2
        all_goals exact ⟨⟨k + 1, by omega, by go_num, b', hb', HB.out _ _ (by first | exact hS8 | exact hS7)⟩, by simp [intOf]; omega⟩
      · obtain ⟨b', eb⟩ : ∃ b' : List Bool, b' = bs := ⟨_, rfl⟩
        have hS : St T0 w.heap.size Rd W W b' b' := by rw [eb]; exact hS1
        have hb' : b'.length ≤ costTo ops (k + 1) := by rw [eb]; omega
        clear eb hS1
        -- the comparison behind each step
        have hSd := hS.drew
        obtain ⟨ys0, g0, cc0, gd, cd, p1, p2, p3, p4, p5, p6, p7, p8⟩ := hS
        have kd := p4.cell
        clear p1 p2 p3 p4 p5 p6 p7 p8
        have HL := hide (fun (W' : World) (h : St T0 w.heap.size Rd W W' b' b') => stLen W' b' b' h)
        have HW := hide (fun (W' : World) (h : St T0 w.heap.size Rd W W' b' b') => doneW2 W' b' b' hT0 (by omega) h)
        have HD := hide (fun (W' : World) (h : St T0 w.heap.size Rd W W' b' b') => doneD2 W' b' b' hT0 hRd0 (by omega) h)
        have HT0 := hide hT0
        clear hT0
        go_wp2_with fail
        go_region_held3 (fun w' => w'.cell? ⟨Rd, 0, none⟩ = some (.slice gd b'.length cd)) (go_keep)
          (first
            | (go_at_call 26; refine (HL.out _ ?_).mono ?_; (first | exact hSd | assumption); rintro e w6 ⟨rfl, rfl⟩)
            | (go_at_call 27; refine (HW.out _ ?_).mono ?_; (first | exact hSd | assumption); rintro e w7 ⟨gx, nx, cx, rfl, hS7, hX7, hk7, kd7⟩)
            | (go_at_call 28; refine (HD.out _ ?_).mono ?_; (first | exact hSd | assumption); rintro e w8 ⟨gy, ny, cy, rfl, hS8, hX8, hk8, kd8⟩)
            | (go_at_call 16; refine (stSame _ _ _ _ _ _ b' _ ?_ ?_).mono ?_; (first | exact hX7 | exact hX7.below hk8); (first | exact hX8 | exact hX8.below hk7); rintro e w9 ⟨rfl, rfl⟩))
        all_goals go_wp2
        all_goals exact ⟨⟨k + 1, by omega, by go_num, b', hb', HB.out _ _ (by first | exact hS8 | exact hS7)⟩, by simp [intOf]; omega⟩
    · obtain rfl : k = ops.length := by omega
      go_wp2
      go_ret
      exact ⟨rfl, (hK3.trans (hK.mono (fun j hj => by have := HRD.out; have := hK3.size; exact ⟨by omega, by omega, by omega⟩))).below (fun _ h => h)⟩

/-! ### what the bound gives -/
theorem one_le {H : Type} (d : DataW H) : 1 ≤ Rows.uptoBulk d := by
  cases d with
  | lit l => cases l <;> simp [Rows.uptoBulk]
  | nil => simp [Rows.uptoBulk]
  | ptr d => simp [Rows.uptoBulk]
  | slice elems spare => simp [Rows.uptoBulk]
  | agg parts => simp [Rows.uptoBulk]
  | iface t d => simp [Rows.uptoBulk]
  | map entries => simp [Rows.uptoBulk]
  | held h => simp [Rows.uptoBulk]
theorem bulk_append {H : Type} (l r : List (DataW H)) : Rows.uptoBulkAll (l ++ r) = Rows.uptoBulkAll l + Rows.uptoBulkAll r := by
  induction l with
  | nil => simp [Rows.uptoBulkAll]
  | cons x l ih => simp only [List.cons_append, Rows.uptoBulkAll, ih]; omega
theorem length_le {H : Type} (l : List (DataW H)) : l.length ≤ Rows.uptoBulkAll l := by
  induction l with
  | nil => simp [Rows.uptoBulkAll]
  | cons x r ih => have := one_le x; simp only [Rows.uptoBulkAll, List.length_cons]; omega
theorem cost_le {H : Type} {r : OpR} {d d0 d1 d2 d3 : DataW H} (hd : d = .agg [d0, d1, d2, d3]) (h3 : d3 = .nil ∧ r.bs = [] ∨ ∃ e s, d3 = .slice e s ∧ e.length = r.bs.length) : cost r ≤ 40 * Rows.uptoBulk d := by
  subst hd
  have b0 := one_le d0
  have b1 := one_le d1
  have b2 := one_le d2
  unfold cost
  rcases h3 with ⟨rfl, h⟩ | ⟨e, s, rfl, h⟩
  · rw [h]
    simp only [Rows.uptoBulk, Rows.uptoBulkAll, List.length_nil]
    omega
  · have h4 := length_le e
    simp only [Rows.uptoBulk, Rows.uptoBulkAll]
    omega
theorem costTo_bulk {H : Type} (ops : List OpR) (D : Nat → DataW H) (h : ∀ (j : Nat) (r : OpR), ops[j]? = some r → cost r ≤ 40 * Rows.uptoBulk (D j)) (k : Nat) (hk : k ≤ ops.length) : costTo ops k ≤ 40 * Rows.uptoBulkAll ((List.range k).map D) := by
  induction k with
  | zero => simp [costTo]
  | succ k ih =>
    have h1 := h k ops[k] (List.getElem?_eq_getElem (by omega))
    have h2 := ih (by omega)
    rw [costTo_succ (List.getElem?_eq_getElem (by omega : k < ops.length)), List.range_succ, List.map_append, bulk_append]
    simp only [List.map_cons, List.map_nil, Rows.uptoBulkAll]
    omega

theorem contract (H : Type) (enc : TypeId × Value → H) (W : World) (base : Nat) (args : Array Value) (ds gs : List (DataW H)) (before : List MemPlace)
    (hval : ∀ (j : Nat) t v, Try.f4.params[j]? = some t → args[j]? = some v → Value.okWide Try.prog W .any base t v)
    (hW : DataW.Whole enc Try.prog Try.f4.params.toList Rows.bitsWritesSpec.vars false W args.toList ds gs before) (hk : Rows.uptoSmall H (ds ++ gs) = true) :
    Calls Try.prog 4 args W fun e W' => ∃ v, e = .returned v ∧ Rows.bitsWritesSpec.post enc Try.prog Try.f4 false true false false W args v W' := by
  have hW' := hW
  obtain ⟨p, q, hA0, hV, rfl, _, _⟩ := hW
  have hA : DataW.TrodAll enc Try.prog W 0 (fun _ => true) true Try.f4.params.toList args.toList ds p := hA0
  rw [Try.params4] at hA hval
  obtain ⟨v2, vs2, d2, ds2, p2, q2, hargs, rfl, rfl, h2, r2⟩ := trodAll_cons hA
  obtain ⟨rfl, rfl, rfl⟩ := trodAll_nil r2
  obtain rfl : args = #[v2] := by cases args; simp_all
  obtain ⟨rfl, rfl⟩ := trodVars_none hV
  obtain ⟨a2, len2, cap2, rfl⟩ := okWide_slice Try.underlying23 (hval 0 23 v2 rfl rfl)
  have k2 := h2
  have lt2 : ∀ x ∈ p2, x.block < W.heap.size := by obtain ⟨m, hm⟩ := k2; exact DataW.trod_lt m _ _ _ hm
  obtain ⟨ops, hlen, hO, hd⟩ := open_ops h2
  have hbulk : Rows.uptoBulkAll [d2] ≤ 1048576 := by
    have h : Rows.uptoBulkAll ([d2] ++ []) ≤ 1048576 := of_decide_eq_true hk
    simpa using h
  have hb : ops.length ≤ 1048576 ∧ costTo ops ops.length ≤ 1099511627776 := by
    rcases hd with ⟨_, h⟩ | ⟨D, s, rfl, hD⟩
    · have h0 : ops = [] := List.eq_nil_of_length_eq_zero (by omega)
      subst h0
      exact ⟨by simp, by simp [costTo]⟩
    · have h1 := length_le ((List.range len2).map D)
      have h3 := costTo_bulk ops D (fun j r hj => by obtain ⟨e0, e1, e2, e3, he, h3⟩ := hD j r hj; exact cost_le he h3) ops.length (Nat.le_refl _)
      rw [hlen] at h3
      simp only [Rows.uptoBulkAll, Rows.uptoBulk] at hbulk
      rw [List.length_map, List.length_range] at h1
      rw [hlen]
      omega
  clear hA0
  subst hlen
  refine (walk a2 cap2 ops W hb.1 hb.2 hO).mono fun e W' ⟨he, bel⟩ => ?_
  subst he
  exact ⟨_, rfl, _, _, _, [], _, [], hW', trodAll_mk1 (shut_bool Try.underlying4 _), (trodAll_cons_mk (Below.trod laidOut (by kernel_rfl) (of_decide_eq_true (by kernel_rfl)) k2 bel lt2) trodAll_mk0), rfl, bel.frame _, fun h => by cases h⟩

set_option maxRecDepth 100000 in
theorem lifted (os : Os) (started : os.Started) (H : Type) (enc : TypeId × Value → H) (F : Stop.Interp) :
    ReturnsInHanded {} Try.checked os 4 .any ((Rows.OpenSpec.upto Rows.bitsWritesSpec).pre6 enc Try.prog Try.f4 Rows.bitsWritesUptoRow.domain false) (((Rows.OpenSpec.upto Rows.bitsWritesSpec).at F).post enc Try.prog Try.f4 false true false false) := by
  refine returnsInHanded_of_cond (C := Try.checked) (s := Rows.OpenSpec.upto Rows.bitsWritesSpec) (k := Rows.uptoSmall) rfl own started (by kernel_rfl) Try.func4
    (OpenSpec.witness (enc := enc) (C := Try.checked) (s := Rows.OpenSpec.upto Rows.bitsWritesSpec) (k := Rows.uptoSmall) rfl false ⟨#[], #[.slice none 0 0], []⟩ 8 (by kernel_rfl) (by kernel_rfl) (by kernel_rfl)
      (x := ([.nil], [], [])) (by kernel_rfl) rfl (by kernel_rfl)) ?_
  intro W base args ds gs before hval hW _ hk _
  exact contract H enc W base args ds gs before hval hW hk

theorem over : Rows.BitsWritesUptoSaid :=
  OpenClaim.holds_of_cond 4 Try.f4 rfl rfl rfl rfl rfl rfl rfl ⟨rfl, rfl, rfl, rfl, rfl⟩ rfl rfl rfl rfl rfl (by kernel_rfl) Try.func4 (by kernel_rfl)
    (of_decide_eq_true (by kernel_rfl)) (by unfold Func.isWrapper; first | (rw [if_pos (by decide +kernel)]; kernel_rfl) | (rw [if_neg (by decide +kernel)]; exact ⟨rfl, rfl⟩))
    (fun os started H enc _ F => lifted os started H enc F)
end Go.Proofs.Ytmebbmofegjgnaa.bitsWrites
namespace Go.Proofs.Ytmebbmofegjgnaa
theorem bitsWrites_upto_holds : Rows.BitsWritesUptoSaid := bitsWrites.over
#print axioms bitsWrites_upto_holds
end Go.Proofs.Ytmebbmofegjgnaa
