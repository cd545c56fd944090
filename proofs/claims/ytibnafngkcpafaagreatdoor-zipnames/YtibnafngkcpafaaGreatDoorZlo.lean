/- The records of an archive: local, listed, endOf. -/
import Derived.Test.YtibnafngkcpafaaGreatDoorZpt
import Derived.Lib.ConvBytes
namespace Go.Proofs.YtibnafngkcpafaaGreatDoor
open Go.RowKit

/-- A writer of numbers (its struct in block K, the writer in block R) that holds ys; what T has lies as it lay in wa. -/
structure WSt (T : Nat → Prop) (K R : Nat) (wa W : World) (ys : List Int) : Prop where
  wr : IsWr T W R ys (8 * ys.length)
  box : Row wa K 42 #[.pointer (some ⟨R, 0, none⟩)]
  tk : T K
  nr : ¬ T R
  lt : ∀ k, T k → k < wa.heap.size
  kept : Kept T wa W
theorem WSt.boxed {T : Nat → Prop} {K R : Nat} {wa W : World} {ys : List Int} (h : WSt T K R wa W ys) : Row W K 42 #[.pointer (some ⟨R, 0, none⟩)] := h.box.kept h.kept h.tk
theorem WSt.ltw {T : Nat → Prop} {K R : Nat} {wa W : World} {ys : List Int} (h : WSt T K R wa W ys) (k : Nat) (hk : T k) : k < W.heap.size := Nat.lt_of_lt_of_le (h.lt k hk) h.kept.size

def nums (vs : List Nat) : Array Value := (vs.map (fun v : Nat => Value.int .i64 (v : Int))).toArray
theorem nums_cell (W : World) (vs : List Nat) (j : Nat) (hj : j < vs.length) : (W.alloc (.cells (nums vs) 3)).cell? ⟨W.heap.size, j, none⟩ = some (.int .i64 ((vs[j]?.getD 0 : Nat) : Int)) := by
  refine (Row.new W 3 (nums vs)).cell ?_
  simp [nums, hj]

theorem step4 {T : Nat → Prop} {K R : Nat} {wa W : World} {ys : List Int} (h : WSt T K R wa W ys) (vs : List Nat) (hv : ∀ j : Nat, vs[j]?.getD 0 < 4294967296) (hl : vs.length ≤ 100) (hy : ys.length ≤ 100000000000) :
    Calls Tryz.prog 40 #[.agg #[.pointer (some ⟨R, 0, none⟩)], .slice (some ⟨W.heap.size, 0, none⟩) vs.length vs.length] (W.alloc (.cells (nums vs) 3)) fun e w' => e = .returned (.tuple #[]) ∧ WSt T K R wa w' (ys ++ les 4 vs) := by
  have hRl := h.wr.lt
  refine (fours_any (fun k => T k ∨ k = W.heap.size) R ys W.heap.size vs.length vs _ (h.wr.alloc _) (by
    rintro k (hk | rfl)
    · have := h.ltw k hk; simp; omega
    · simp) (by rintro (hk | rfl); exact h.nr hk; omega) (.inr rfl) (nums_cell W vs) hv hl hy).mono ?_
  rintro e w' ⟨rfl, hI, hK⟩
  exact ⟨rfl, hI.mono (fun _ => .inl), h.box, h.tk, h.nr, h.lt, (h.kept.alloc (h.ltw) _).trans (hK.mono (fun _ => .inl))⟩
theorem step2 {T : Nat → Prop} {K R : Nat} {wa W : World} {ys : List Int} (h : WSt T K R wa W ys) (vs : List Nat) (hv : ∀ j : Nat, vs[j]?.getD 0 < 4294967296) (hl : vs.length ≤ 100) (hy : ys.length ≤ 100000000000) :
    Calls Tryz.prog 41 #[.agg #[.pointer (some ⟨R, 0, none⟩)], .slice (some ⟨W.heap.size, 0, none⟩) vs.length vs.length] (W.alloc (.cells (nums vs) 3)) fun e w' => e = .returned (.tuple #[]) ∧ WSt T K R wa w' (ys ++ les 2 vs) := by
  have hRl := h.wr.lt
  refine (twos_any (fun k => T k ∨ k = W.heap.size) R ys W.heap.size vs.length vs _ (h.wr.alloc _) (by
    rintro k (hk | rfl)
    · have := h.ltw k hk; simp; omega
    · simp) (by rintro (hk | rfl); exact h.nr hk; omega) (.inr rfl) (nums_cell W vs) hv hl hy).mono ?_
  rintro e w' ⟨rfl, hI, hK⟩
  exact ⟨rfl, hI.mono (fun _ => .inl), h.box, h.tk, h.nr, h.lt, (h.kept.alloc (h.ltw) _).trans (hK.mono (fun _ => .inl))⟩

/-- A text's bytes as numbers. -/
def sB (s : ByteArray) : List Int := s.data.toList.map (fun b => (b.toNat : Int))
theorem sB_length (s : ByteArray) : (sB s).length = s.size := by simp [sB]
theorem bytesWorld_kept (T : Nat → Prop) (w : World) (s : ByteArray) (hT : ∀ k, T k → k < w.heap.size) : Kept T w (Lib.bytesWorld w 5 s) :=
  ⟨rfl, rfl, rfl, by rw [Lib.bytesWorld_size]; omega, fun k hk => Lib.bytesWorld_at_old w 5 s k (hT k hk)⟩
theorem bytesWorld_in (w : World) (s : ByteArray) (c : Nat) : BytesIn (fun k => k = w.heap.size) (Lib.bytesWorld w 5 s) (.slice (some ⟨w.heap.size, 0, none⟩) s.size c) (sB s) := by
  refine .inr ⟨w.heap.size, 0, c, by rw [sB_length], rfl, fun j hj => ?_⟩
  rw [sB_length] at hj
  rw [Nat.zero_add, Lib.bytesWorld_cell w 5 s j hj]
  simp [sB, List.getD, hj]
theorem stepB {T : Nat → Prop} {K R : Nat} {wa W : World} {ys : List Int} (h : WSt T K R wa W ys) (s : ByteArray) (c : Nat) (hy : ys.length + s.size < 140737488355328) :
    Calls Tryz.prog 18 #[.pointer (some ⟨R, 0, none⟩), .slice (some ⟨W.heap.size, 0, none⟩) s.size c] (Lib.bytesWorld W 5 s) fun e w' => e = .returned (.tuple #[]) ∧ WSt T K R wa w' (ys ++ sB s) := by
  have hRl := h.wr.lt
  have hk := bytesWorld_kept (fun k => k < W.heap.size) W s (fun _ h => h)
  have hsz := Lib.bytesWorld_size W 5 s
  have hW : IsWr (fun k => T k ∨ k = W.heap.size) (Lib.bytesWorld W 5 s) R ys (8 * ys.length) := by
    obtain ⟨g, c, h1, h2, h3⟩ := h.wr
    refine ⟨g, c, h1.kept hk hRl, owns_kept h2 hk (fun k hk => (h2.lt k hk).2), fun k hk => ?_⟩
    rintro (ht | rfl)
    · exact h3 k hk ht
    · have := (h2.lt _ hk).2; omega
  have hI := (bytesWorld_in W s c).mono (T := fun k => T k ∨ k = W.heap.size) (fun _ h => .inr h)
  have H := wbytes_any (fun k => T k ∨ k = W.heap.size) R ys (8 * ys.length) (some ⟨W.heap.size, 0, none⟩) c (sB s) _ (fun h => by cases h) hW (by
    rintro k (hk | rfl)
    · have := h.ltw k hk; omega
    · omega) (by rintro (hk | rfl); exact h.nr hk; omega) (by rw [sB_length]; exact hy) (by rw [sB_length]; exact hI)
  rw [sB_length] at H
  refine H.mono ?_
  rintro e w' ⟨rfl, hI, hK⟩
  exact ⟨rfl, by simpa [sB_length] using hI.mono (fun _ => .inl), h.box, h.tk, h.nr, h.lt, (h.kept.trans (bytesWorld_kept T W s h.ltw)).trans (hK.mono (fun _ => .inl))⟩

theorem stepDone {T : Nat → Prop} {K R : Nat} {wa W : World} {ys : List Int} (h : WSt T K R wa W ys) (hy : ys.length ≤ 140737488355328) :
    Calls Tryz.prog 22 #[.pointer (some ⟨R, 0, none⟩)] W fun e w' => ∃ g' c', e = .returned (.slice g' ys.length c') ∧ w'.ownsRow W.heap.size 5 1 (.slice g' ys.length c') ys.length (ys.map (Value.int .u8)) ∧ Below W.heap.size W w' := by
  obtain ⟨g, c, h1, h2, h3⟩ := h.wr
  exact done_any R g c _ ys (fun _ => True) W hy h1 (bytesIn_of_owns _ h2 (fun _ _ => trivial))
theorem owns_mono {w : World} {base base' : Nat} {e : TypeId} {size : Nat} {v : Value} {n : Nat} {xs : List Value} (h : w.ownsRow base e size v n xs) (hb : base' ≤ base) : w.ownsRow base' e size v n xs := by
  refine ⟨h.1, ?_⟩
  rcases h.2 with h0 | ⟨g, cap, cur, h1, h2, rest⟩
  · exact .inl h0
  · exact .inr ⟨g, cap, cur, h1, Nat.le_trans hb h2, rest⟩
theorem small_of {vs : List Nat} {N : Nat} (h0 : 0 < N) (h : ∀ v ∈ vs, v < N) (j : Nat) : vs[j]?.getD 0 < N := by
  rcases Nat.lt_or_ge j vs.length with hj | hj
  · rw [List.getElem?_eq_getElem hj]
    exact h _ (List.getElem_mem hj)
  · rw [List.getElem?_eq_none hj]
    exact h0

/-- The local header. -/
def localB (s : ByteArray) (m crc st sz : Nat) : List Int := (((([] ++ les 4 [67324752]) ++ les 2 [20, 0, m, 0, 33]) ++ les 4 [crc, st, sz]) ++ les 2 [s.size, 0]) ++ sB s
/-- The entry of the directory. -/
def listedB (s : ByteArray) (m crc st sz at' : Nat) : List Int := ((((([] ++ les 4 [33639248]) ++ les 2 [20, 20, 0, m, 0, 33]) ++ les 4 [crc, st, sz]) ++ les 2 [s.size, 0, 0, 0, 0]) ++ les 4 [0, at']) ++ sB s
/-- The end. -/
def endB (n sz at' : Nat) : List Int := ((([] ++ les 4 [101010256]) ++ les 2 [0, 0, n, n]) ++ les 4 [sz, at']) ++ les 2 [0]
theorem localB_length (s : ByteArray) (m crc st sz : Nat) : (localB s m crc st sz).length = 30 + s.size := by simp [localB, les_length, sB_length]; omega
theorem listedB_length (s : ByteArray) (m crc st sz at' : Nat) : (listedB s m crc st sz at').length = 46 + s.size := by simp [listedB, les_length, sB_length]; omega
theorem endB_length (n sz at' : Nat) : (endB n sz at').length = 22 := by simp [endB, les_length]

/-- What such a function answers: a row of its own. -/
def Fresh (w : World) (zs : List Int) (e : Ending) (w' : World) : Prop := ∃ g c, e = .returned (.slice g zs.length c) ∧ w'.ownsRow w.heap.size 5 1 (.slice g zs.length c) zs.length (zs.map (Value.int .u8)) ∧ Below w.heap.size w w'
set_option maxRecDepth 100000 in
set_option maxHeartbeats 2000000 in
theorem local_any (s : ByteArray) (m crc st sz at' : Nat) (w : World) (hm : m < 4294967296) (hc : crc < 4294967296) (ht : st < 4294967296) (hz : sz < 4294967296) (hl : s.size < 4294967296) :
    Calls Tryz.prog 19 #[.agg #[.string s, .int .i64 (m : Int), .int .i64 (crc : Int), .int .i64 (st : Int), .int .i64 (sz : Int), .int .i64 (at' : Int)]] w (Fresh w (localB s m crc st sz)) := by
  have hE0 := Row.new w 48 #[.string s, .int .i64 (m : Int), .int .i64 (crc : Int), .int .i64 (st : Int), .int .i64 (sz : Int), .int .i64 (at' : Int)]
  have hb0 : Below w.heap.size w (w.alloc (.cells #[.string s, .int .i64 (m : Int), .int .i64 (crc : Int), .int .i64 (st : Int), .int .i64 (sz : Int), .int .i64 (at' : Int)] 48)) := (Below.refl _ w).alloc (Nat.le_refl _) _
  have hs0 : (w.alloc (.cells #[.string s, .int .i64 (m : Int), .int .i64 (crc : Int), .int .i64 (st : Int), .int .i64 (sz : Int), .int .i64 (at' : Int)] 48)).heap.size = w.heap.size + 1 := by simp
  go_enter Tryz.func19, Tryz.ntmps19
  go_wp2_with fail
  generalize w.alloc (.cells #[.string s, .int .i64 (m : Int), .int .i64 (crc : Int), .int .i64 (st : Int), .int .i64 (sz : Int), .int .i64 (at' : Int)] 48) = w0 at hE0 hb0 hs0 ⊢
  refine (newNumbers_any w0).mono ?_
  have hws : w.heap.size < w0.heap.size := by omega
  have HWS : Hid _ := hws
  clear hs0 hws
  rintro e w1 ⟨rfl, hW1, hb1⟩
  have hRl := hW1.lt
  have hK := Row.new w1 42 #[.pointer (some ⟨w0.heap.size + 1, 0, none⟩)]
  have hW2 := hW1.alloc (.cells #[.pointer (some ⟨w0.heap.size + 1, 0, none⟩)] 42)
  have hE := (hE0.below hb1 HWS.out).alloc (.cells #[.pointer (some ⟨w0.heap.size + 1, 0, none⟩)] 42)
  have hb2 : Below w.heap.size w (w1.alloc (.cells #[.pointer (some ⟨w0.heap.size + 1, 0, none⟩)] 42)) := (hb0.trans (hb1.mono hb0.size)).alloc (Nat.le_trans hb0.size hb1.size) _
  have hs2 : (w1.alloc (.cells #[.pointer (some ⟨w0.heap.size + 1, 0, none⟩)] 42)).heap.size = w1.heap.size + 1 := by simp
  generalize hwa : w1.alloc (.cells #[.pointer (some ⟨w0.heap.size + 1, 0, none⟩)] 42) = wa at hK hW2 hE hb2 hs2
  have h0 : WSt (fun k => k < w0.heap.size + 1 ∨ k = w1.heap.size) w1.heap.size (w0.heap.size + 1) wa wa [] := ⟨hW2, hK, .inr rfl, by rintro (h | h) <;> omega, by rintro k (h | rfl) <;> omega, Kept.refl _ _⟩
  have HB2 : Hid _ := hb2
  have HR : Hid (w0.heap.size + 1 < w1.heap.size) := hRl
  have HZ : Hid (w.heap.size < w0.heap.size + 1) := by have := HWS.out; show _ < _; omega
  have HLW : Hid (w.heap.size ≤ wa.heap.size) := hb2.size
  clear hW1 hb1 hb0 hK hW2 hb2 hs2 hRl hE0 HWS
  have cK0 := h0.boxed.cell (i := 0) rfl
  have hE0' := hE.kept h0.kept (.inl HZ.out)
  have e00 := hE0'.cell (i := 0) rfl
  have e01 := hE0'.cell (i := 1) rfl
  have e02 := hE0'.cell (i := 2) rfl
  have e03 := hE0'.cell (i := 3) rfl
  have e04 := hE0'.cell (i := 4) rfl
  have e05 := hE0'.cell (i := 5) rfl
  have H0 : Hid (Calls Tryz.prog 40 #[.agg #[.pointer (some ⟨w0.heap.size + 1, 0, none⟩)], .slice (some ⟨wa.heap.size, 0, none⟩) 1 1] (wa.alloc (.cells #[.int .i64 67324752] 3)) fun e w' => e = .returned (.tuple #[]) ∧ WSt (fun k => k < w0.heap.size + 1 ∨ k = w1.heap.size) w1.heap.size (w0.heap.size + 1) wa w' ([] ++ les 4 [67324752])) := step4 h0 [67324752] (small_of (by omega) (by simp; try omega)) (by simp) (by simp)
  go_wp2_with fail
  refine H0.out.mono ?_
  clear H0 hwa cK0 e00 e01 e02 e03 e04 e05 hE0'
  rintro e w2 ⟨rfl, h1⟩
  have cK1 := h1.boxed.cell (i := 0) rfl
  have hE1' := hE.kept h1.kept (.inl HZ.out)
  have e10 := hE1'.cell (i := 0) rfl
  have e11 := hE1'.cell (i := 1) rfl
  have e12 := hE1'.cell (i := 2) rfl
  have e13 := hE1'.cell (i := 3) rfl
  have e14 := hE1'.cell (i := 4) rfl
  have e15 := hE1'.cell (i := 5) rfl
  have H1 : Hid (Calls Tryz.prog 41 #[.agg #[.pointer (some ⟨w0.heap.size + 1, 0, none⟩)], .slice (some ⟨w2.heap.size, 0, none⟩) 5 5] (w2.alloc (.cells #[.int .i64 20, .int .i64 0, .int .i64 (m : Int), .int .i64 0, .int .i64 33] 3)) fun e w' => e = .returned (.tuple #[]) ∧ WSt (fun k => k < w0.heap.size + 1 ∨ k = w1.heap.size) w1.heap.size (w0.heap.size + 1) wa w' (([] ++ les 4 [67324752]) ++ les 2 [20, 0, m, 0, 33])) := step2 h1 [20, 0, m, 0, 33] (small_of (by omega) (by simp; try omega)) (by simp) (by simp [les_length])
  go_wp2_with fail
  refine H1.out.mono ?_
  clear H1 cK1 e10 e11 e12 e13 e14 e15 hE1'
  rintro e w3 ⟨rfl, h2⟩
  have cK2 := h2.boxed.cell (i := 0) rfl
  have hE2' := hE.kept h2.kept (.inl HZ.out)
  have e20 := hE2'.cell (i := 0) rfl
  have e21 := hE2'.cell (i := 1) rfl
  have e22 := hE2'.cell (i := 2) rfl
  have e23 := hE2'.cell (i := 3) rfl
  have e24 := hE2'.cell (i := 4) rfl
  have e25 := hE2'.cell (i := 5) rfl
  have H2 : Hid (Calls Tryz.prog 40 #[.agg #[.pointer (some ⟨w0.heap.size + 1, 0, none⟩)], .slice (some ⟨w3.heap.size, 0, none⟩) 3 3] (w3.alloc (.cells #[.int .i64 (crc : Int), .int .i64 (st : Int), .int .i64 (sz : Int)] 3)) fun e w' => e = .returned (.tuple #[]) ∧ WSt (fun k => k < w0.heap.size + 1 ∨ k = w1.heap.size) w1.heap.size (w0.heap.size + 1) wa w' ((([] ++ les 4 [67324752]) ++ les 2 [20, 0, m, 0, 33]) ++ les 4 [crc, st, sz])) := step4 h2 [crc, st, sz] (small_of (by omega) (by simp; try omega)) (by simp) (by simp [les_length])
  go_wp2_with fail
  refine H2.out.mono ?_
  clear H2 cK2 e20 e21 e22 e23 e24 e25 hE2'
  rintro e w4 ⟨rfl, h3⟩
  have cK3 := h3.boxed.cell (i := 0) rfl
  have hE3' := hE.kept h3.kept (.inl HZ.out)
  have e30 := hE3'.cell (i := 0) rfl
  have e31 := hE3'.cell (i := 1) rfl
  have e32 := hE3'.cell (i := 2) rfl
  have e33 := hE3'.cell (i := 3) rfl
  have e34 := hE3'.cell (i := 4) rfl
  have e35 := hE3'.cell (i := 5) rfl
  have H3 : Hid (Calls Tryz.prog 41 #[.agg #[.pointer (some ⟨w0.heap.size + 1, 0, none⟩)], .slice (some ⟨w4.heap.size, 0, none⟩) 2 2] (w4.alloc (.cells #[.int .i64 (s.size : Int), .int .i64 0] 3)) fun e w' => e = .returned (.tuple #[]) ∧ WSt (fun k => k < w0.heap.size + 1 ∨ k = w1.heap.size) w1.heap.size (w0.heap.size + 1) wa w' (((([] ++ les 4 [67324752]) ++ les 2 [20, 0, m, 0, 33]) ++ les 4 [crc, st, sz]) ++ les 2 [s.size, 0])) := step2 h3 [s.size, 0] (small_of (by omega) (by simp; try omega)) (by simp) (by simp [les_length])
  go_wp2_with fail
  refine H3.out.mono ?_
  clear H3 cK3 e30 e31 e32 e33 e34 e35 hE3'
  rintro e w5 ⟨rfl, h4⟩
  have cK4 := h4.boxed.cell (i := 0) rfl
  have hE4' := hE.kept h4.kept (.inl HZ.out)
  have e40 := hE4'.cell (i := 0) rfl
  have e41 := hE4'.cell (i := 1) rfl
  have e42 := hE4'.cell (i := 2) rfl
  have e43 := hE4'.cell (i := 3) rfl
  have e44 := hE4'.cell (i := 4) rfl
  have e45 := hE4'.cell (i := 5) rfl
  have hcv := Lib.run_convert_string_bytes (P := Tryz.prog) w5 9 28 5 s Tryz.underlying9 Tryz.underlying28 Tryz.underlying5
  have H4 : Hid (Calls Tryz.prog 18 #[.pointer (some ⟨w0.heap.size + 1, 0, none⟩), .slice (some ⟨w5.heap.size, 0, none⟩) s.size (grownCap w5 s.size 0 5)] (Lib.bytesWorld w5 5 s) fun e w' => e = .returned (.tuple #[]) ∧ WSt (fun k => k < w0.heap.size + 1 ∨ k = w1.heap.size) w1.heap.size (w0.heap.size + 1) wa w' ((((([] ++ les 4 [67324752]) ++ les 2 [20, 0, m, 0, 33]) ++ les 4 [crc, st, sz]) ++ les 2 [s.size, 0]) ++ sB s)) := stepB h4 s _ (by simp [les_length]; omega)
  go_wp2_with fail
  refine H4.out.mono ?_
  clear H4 cK4 e40 e41 e42 e43 e44 e45 hE4' hcv
  rintro e w6 ⟨rfl, h5⟩
  have cK5 := h5.boxed.cell (i := 0) rfl
  have hE5' := hE.kept h5.kept (.inl HZ.out)
  have e50 := hE5'.cell (i := 0) rfl
  have e51 := hE5'.cell (i := 1) rfl
  have e52 := hE5'.cell (i := 2) rfl
  have e53 := hE5'.cell (i := 3) rfl
  have e54 := hE5'.cell (i := 4) rfl
  have e55 := hE5'.cell (i := 5) rfl
  have HD : Hid (Calls Tryz.prog 22 #[.pointer (some ⟨w0.heap.size + 1, 0, none⟩)] w6 fun e w' => ∃ g' c', e = .returned (.slice g' (localB s m crc st sz).length c') ∧ w'.ownsRow w6.heap.size 5 1 (.slice g' (localB s m crc st sz).length c') (localB s m crc st sz).length ((localB s m crc st sz).map (Value.int .u8)) ∧ Below w6.heap.size w6 w') := stepDone h5 (by rw [localB_length]; omega)
  go_wp2_with fail
  refine HD.out.mono ?_
  clear HD cK5 e50 e51 e52 e53 e54 e55 hE5'
  rintro e w9 ⟨g', c', rfl, ho, hb9⟩
  have hsz9 : w.heap.size ≤ w6.heap.size := Nat.le_trans HLW.out h5.kept.size
  have HF : Hid (Fresh w (localB s m crc st sz) (.returned (.slice g' (localB s m crc st sz).length c')) w9) := ⟨g', c', rfl, owns_mono ho hsz9, (HB2.out.trans ((h5.kept.below (B := w.heap.size) (fun k hk => .inl (by have := HZ.out; omega))))).trans (hb9.mono hsz9)⟩
  clear ho hb9
  generalize (localB s m crc st sz).length = L at HF
  go_wp2
  go_ret
  exact HF.out
set_option maxRecDepth 100000 in
set_option maxHeartbeats 2000000 in
theorem listed_any (s : ByteArray) (m crc st sz at' : Nat) (w : World) (hm : m < 4294967296) (hc : crc < 4294967296) (ht : st < 4294967296) (hz : sz < 4294967296) (ha : at' < 4294967296) (hl : s.size < 4294967296) :
    Calls Tryz.prog 20 #[.agg #[.string s, .int .i64 (m : Int), .int .i64 (crc : Int), .int .i64 (st : Int), .int .i64 (sz : Int), .int .i64 (at' : Int)]] w (Fresh w (listedB s m crc st sz at')) := by
  have hE0 := Row.new w 48 #[.string s, .int .i64 (m : Int), .int .i64 (crc : Int), .int .i64 (st : Int), .int .i64 (sz : Int), .int .i64 (at' : Int)]
  have hb0 : Below w.heap.size w (w.alloc (.cells #[.string s, .int .i64 (m : Int), .int .i64 (crc : Int), .int .i64 (st : Int), .int .i64 (sz : Int), .int .i64 (at' : Int)] 48)) := (Below.refl _ w).alloc (Nat.le_refl _) _
  have hs0 : (w.alloc (.cells #[.string s, .int .i64 (m : Int), .int .i64 (crc : Int), .int .i64 (st : Int), .int .i64 (sz : Int), .int .i64 (at' : Int)] 48)).heap.size = w.heap.size + 1 := by simp
  go_enter Tryz.func20, Tryz.ntmps20
  go_wp2_with fail
  generalize w.alloc (.cells #[.string s, .int .i64 (m : Int), .int .i64 (crc : Int), .int .i64 (st : Int), .int .i64 (sz : Int), .int .i64 (at' : Int)] 48) = w0 at hE0 hb0 hs0 ⊢
  refine (newNumbers_any w0).mono ?_
  have hws : w.heap.size < w0.heap.size := by omega
  have HWS : Hid _ := hws
  clear hs0 hws
  rintro e w1 ⟨rfl, hW1, hb1⟩
  have hRl := hW1.lt
  have hK := Row.new w1 42 #[.pointer (some ⟨w0.heap.size + 1, 0, none⟩)]
  have hW2 := hW1.alloc (.cells #[.pointer (some ⟨w0.heap.size + 1, 0, none⟩)] 42)
  have hE := (hE0.below hb1 HWS.out).alloc (.cells #[.pointer (some ⟨w0.heap.size + 1, 0, none⟩)] 42)
  have hb2 : Below w.heap.size w (w1.alloc (.cells #[.pointer (some ⟨w0.heap.size + 1, 0, none⟩)] 42)) := (hb0.trans (hb1.mono hb0.size)).alloc (Nat.le_trans hb0.size hb1.size) _
  have hs2 : (w1.alloc (.cells #[.pointer (some ⟨w0.heap.size + 1, 0, none⟩)] 42)).heap.size = w1.heap.size + 1 := by simp
  generalize hwa : w1.alloc (.cells #[.pointer (some ⟨w0.heap.size + 1, 0, none⟩)] 42) = wa at hK hW2 hE hb2 hs2
  have h0 : WSt (fun k => k < w0.heap.size + 1 ∨ k = w1.heap.size) w1.heap.size (w0.heap.size + 1) wa wa [] := ⟨hW2, hK, .inr rfl, by rintro (h | h) <;> omega, by rintro k (h | rfl) <;> omega, Kept.refl _ _⟩
  have HB2 : Hid _ := hb2
  have HR : Hid (w0.heap.size + 1 < w1.heap.size) := hRl
  have HZ : Hid (w.heap.size < w0.heap.size + 1) := by have := HWS.out; show _ < _; omega
  have HLW : Hid (w.heap.size ≤ wa.heap.size) := hb2.size
  clear hW1 hb1 hb0 hK hW2 hb2 hs2 hRl hE0 HWS
  have cK0 := h0.boxed.cell (i := 0) rfl
  have hE0' := hE.kept h0.kept (.inl HZ.out)
  have e00 := hE0'.cell (i := 0) rfl
  have e01 := hE0'.cell (i := 1) rfl
  have e02 := hE0'.cell (i := 2) rfl
  have e03 := hE0'.cell (i := 3) rfl
  have e04 := hE0'.cell (i := 4) rfl
  have e05 := hE0'.cell (i := 5) rfl
  have H0 : Hid (Calls Tryz.prog 40 #[.agg #[.pointer (some ⟨w0.heap.size + 1, 0, none⟩)], .slice (some ⟨wa.heap.size, 0, none⟩) 1 1] (wa.alloc (.cells #[.int .i64 33639248] 3)) fun e w' => e = .returned (.tuple #[]) ∧ WSt (fun k => k < w0.heap.size + 1 ∨ k = w1.heap.size) w1.heap.size (w0.heap.size + 1) wa w' ([] ++ les 4 [33639248])) := step4 h0 [33639248] (small_of (by omega) (by simp; try omega)) (by simp) (by simp)
  go_wp2_with fail
  refine H0.out.mono ?_
  clear H0 hwa cK0 e00 e01 e02 e03 e04 e05 hE0'
  rintro e w2 ⟨rfl, h1⟩
  have cK1 := h1.boxed.cell (i := 0) rfl
  have hE1' := hE.kept h1.kept (.inl HZ.out)
  have e10 := hE1'.cell (i := 0) rfl
  have e11 := hE1'.cell (i := 1) rfl
  have e12 := hE1'.cell (i := 2) rfl
  have e13 := hE1'.cell (i := 3) rfl
  have e14 := hE1'.cell (i := 4) rfl
  have e15 := hE1'.cell (i := 5) rfl
  have H1 : Hid (Calls Tryz.prog 41 #[.agg #[.pointer (some ⟨w0.heap.size + 1, 0, none⟩)], .slice (some ⟨w2.heap.size, 0, none⟩) 6 6] (w2.alloc (.cells #[.int .i64 20, .int .i64 20, .int .i64 0, .int .i64 (m : Int), .int .i64 0, .int .i64 33] 3)) fun e w' => e = .returned (.tuple #[]) ∧ WSt (fun k => k < w0.heap.size + 1 ∨ k = w1.heap.size) w1.heap.size (w0.heap.size + 1) wa w' (([] ++ les 4 [33639248]) ++ les 2 [20, 20, 0, m, 0, 33])) := step2 h1 [20, 20, 0, m, 0, 33] (small_of (by omega) (by simp; try omega)) (by simp) (by simp [les_length])
  go_wp2_with fail
  refine H1.out.mono ?_
  clear H1 cK1 e10 e11 e12 e13 e14 e15 hE1'
  rintro e w3 ⟨rfl, h2⟩
  have cK2 := h2.boxed.cell (i := 0) rfl
  have hE2' := hE.kept h2.kept (.inl HZ.out)
  have e20 := hE2'.cell (i := 0) rfl
  have e21 := hE2'.cell (i := 1) rfl
  have e22 := hE2'.cell (i := 2) rfl
  have e23 := hE2'.cell (i := 3) rfl
  have e24 := hE2'.cell (i := 4) rfl
  have e25 := hE2'.cell (i := 5) rfl
  have H2 : Hid (Calls Tryz.prog 40 #[.agg #[.pointer (some ⟨w0.heap.size + 1, 0, none⟩)], .slice (some ⟨w3.heap.size, 0, none⟩) 3 3] (w3.alloc (.cells #[.int .i64 (crc : Int), .int .i64 (st : Int), .int .i64 (sz : Int)] 3)) fun e w' => e = .returned (.tuple #[]) ∧ WSt (fun k => k < w0.heap.size + 1 ∨ k = w1.heap.size) w1.heap.size (w0.heap.size + 1) wa w' ((([] ++ les 4 [33639248]) ++ les 2 [20, 20, 0, m, 0, 33]) ++ les 4 [crc, st, sz])) := step4 h2 [crc, st, sz] (small_of (by omega) (by simp; try omega)) (by simp) (by simp [les_length])
  go_wp2_with fail
  refine H2.out.mono ?_
  clear H2 cK2 e20 e21 e22 e23 e24 e25 hE2'
  rintro e w4 ⟨rfl, h3⟩
  have cK3 := h3.boxed.cell (i := 0) rfl
  have hE3' := hE.kept h3.kept (.inl HZ.out)
  have e30 := hE3'.cell (i := 0) rfl
  have e31 := hE3'.cell (i := 1) rfl
  have e32 := hE3'.cell (i := 2) rfl
  have e33 := hE3'.cell (i := 3) rfl
  have e34 := hE3'.cell (i := 4) rfl
  have e35 := hE3'.cell (i := 5) rfl
  have H3 : Hid (Calls Tryz.prog 41 #[.agg #[.pointer (some ⟨w0.heap.size + 1, 0, none⟩)], .slice (some ⟨w4.heap.size, 0, none⟩) 5 5] (w4.alloc (.cells #[.int .i64 (s.size : Int), .int .i64 0, .int .i64 0, .int .i64 0, .int .i64 0] 3)) fun e w' => e = .returned (.tuple #[]) ∧ WSt (fun k => k < w0.heap.size + 1 ∨ k = w1.heap.size) w1.heap.size (w0.heap.size + 1) wa w' (((([] ++ les 4 [33639248]) ++ les 2 [20, 20, 0, m, 0, 33]) ++ les 4 [crc, st, sz]) ++ les 2 [s.size, 0, 0, 0, 0])) := step2 h3 [s.size, 0, 0, 0, 0] (small_of (by omega) (by simp; try omega)) (by simp) (by simp [les_length])
  go_wp2_with fail
  refine H3.out.mono ?_
  clear H3 cK3 e30 e31 e32 e33 e34 e35 hE3'
  rintro e w5 ⟨rfl, h4⟩
  have cK4 := h4.boxed.cell (i := 0) rfl
  have hE4' := hE.kept h4.kept (.inl HZ.out)
  have e40 := hE4'.cell (i := 0) rfl
  have e41 := hE4'.cell (i := 1) rfl
  have e42 := hE4'.cell (i := 2) rfl
  have e43 := hE4'.cell (i := 3) rfl
  have e44 := hE4'.cell (i := 4) rfl
  have e45 := hE4'.cell (i := 5) rfl
  have H4 : Hid (Calls Tryz.prog 40 #[.agg #[.pointer (some ⟨w0.heap.size + 1, 0, none⟩)], .slice (some ⟨w5.heap.size, 0, none⟩) 2 2] (w5.alloc (.cells #[.int .i64 0, .int .i64 (at' : Int)] 3)) fun e w' => e = .returned (.tuple #[]) ∧ WSt (fun k => k < w0.heap.size + 1 ∨ k = w1.heap.size) w1.heap.size (w0.heap.size + 1) wa w' ((((([] ++ les 4 [33639248]) ++ les 2 [20, 20, 0, m, 0, 33]) ++ les 4 [crc, st, sz]) ++ les 2 [s.size, 0, 0, 0, 0]) ++ les 4 [0, at'])) := step4 h4 [0, at'] (small_of (by omega) (by simp; try omega)) (by simp) (by simp [les_length])
  go_wp2_with fail
  refine H4.out.mono ?_
  clear H4 cK4 e40 e41 e42 e43 e44 e45 hE4'
  rintro e w6 ⟨rfl, h5⟩
  have cK5 := h5.boxed.cell (i := 0) rfl
  have hE5' := hE.kept h5.kept (.inl HZ.out)
  have e50 := hE5'.cell (i := 0) rfl
  have e51 := hE5'.cell (i := 1) rfl
  have e52 := hE5'.cell (i := 2) rfl
  have e53 := hE5'.cell (i := 3) rfl
  have e54 := hE5'.cell (i := 4) rfl
  have e55 := hE5'.cell (i := 5) rfl
  have hcv := Lib.run_convert_string_bytes (P := Tryz.prog) w6 9 28 5 s Tryz.underlying9 Tryz.underlying28 Tryz.underlying5
  have H5 : Hid (Calls Tryz.prog 18 #[.pointer (some ⟨w0.heap.size + 1, 0, none⟩), .slice (some ⟨w6.heap.size, 0, none⟩) s.size (grownCap w6 s.size 0 5)] (Lib.bytesWorld w6 5 s) fun e w' => e = .returned (.tuple #[]) ∧ WSt (fun k => k < w0.heap.size + 1 ∨ k = w1.heap.size) w1.heap.size (w0.heap.size + 1) wa w' (((((([] ++ les 4 [33639248]) ++ les 2 [20, 20, 0, m, 0, 33]) ++ les 4 [crc, st, sz]) ++ les 2 [s.size, 0, 0, 0, 0]) ++ les 4 [0, at']) ++ sB s)) := stepB h5 s _ (by simp [les_length]; omega)
  go_wp2_with fail
  refine H5.out.mono ?_
  clear H5 cK5 e50 e51 e52 e53 e54 e55 hE5' hcv
  rintro e w7 ⟨rfl, h6⟩
  have cK6 := h6.boxed.cell (i := 0) rfl
  have hE6' := hE.kept h6.kept (.inl HZ.out)
  have e60 := hE6'.cell (i := 0) rfl
  have e61 := hE6'.cell (i := 1) rfl
  have e62 := hE6'.cell (i := 2) rfl
  have e63 := hE6'.cell (i := 3) rfl
  have e64 := hE6'.cell (i := 4) rfl
  have e65 := hE6'.cell (i := 5) rfl
  have HD : Hid (Calls Tryz.prog 22 #[.pointer (some ⟨w0.heap.size + 1, 0, none⟩)] w7 fun e w' => ∃ g' c', e = .returned (.slice g' (listedB s m crc st sz at').length c') ∧ w'.ownsRow w7.heap.size 5 1 (.slice g' (listedB s m crc st sz at').length c') (listedB s m crc st sz at').length ((listedB s m crc st sz at').map (Value.int .u8)) ∧ Below w7.heap.size w7 w') := stepDone h6 (by rw [listedB_length]; omega)
  go_wp2_with fail
  refine HD.out.mono ?_
  clear HD cK6 e60 e61 e62 e63 e64 e65 hE6'
  rintro e w9 ⟨g', c', rfl, ho, hb9⟩
  have hsz9 : w.heap.size ≤ w7.heap.size := Nat.le_trans HLW.out h6.kept.size
  have HF : Hid (Fresh w (listedB s m crc st sz at') (.returned (.slice g' (listedB s m crc st sz at').length c')) w9) := ⟨g', c', rfl, owns_mono ho hsz9, (HB2.out.trans ((h6.kept.below (B := w.heap.size) (fun k hk => .inl (by have := HZ.out; omega))))).trans (hb9.mono hsz9)⟩
  clear ho hb9
  generalize (listedB s m crc st sz at').length = L at HF
  go_wp2
  go_ret
  exact HF.out
set_option maxRecDepth 100000 in
set_option maxHeartbeats 2000000 in
theorem endOf_any (n sz at' : Nat) (w : World) (hn : n < 4294967296) (hz : sz < 4294967296) (ha : at' < 4294967296) :
    Calls Tryz.prog 23 #[.int .i64 (n : Int), .int .i64 (sz : Int), .int .i64 (at' : Int)] w (Fresh w (endB n sz at')) := by
  have hb0 : Below w.heap.size w w := Below.refl _ w
  go_enter Tryz.func23, Tryz.ntmps23
  go_wp2_with fail
  refine (newNumbers_any w).mono ?_
  rintro e w1 ⟨rfl, hW1, hb1⟩
  have hRl := hW1.lt
  have hK := Row.new w1 42 #[.pointer (some ⟨w.heap.size + 1, 0, none⟩)]
  have hW2 := hW1.alloc (.cells #[.pointer (some ⟨w.heap.size + 1, 0, none⟩)] 42)
  have hb2 : Below w.heap.size w (w1.alloc (.cells #[.pointer (some ⟨w.heap.size + 1, 0, none⟩)] 42)) := (hb0.trans (hb1.mono hb0.size)).alloc (Nat.le_trans hb0.size hb1.size) _
  have hs2 : (w1.alloc (.cells #[.pointer (some ⟨w.heap.size + 1, 0, none⟩)] 42)).heap.size = w1.heap.size + 1 := by simp
  generalize hwa : w1.alloc (.cells #[.pointer (some ⟨w.heap.size + 1, 0, none⟩)] 42) = wa at hK hW2 hb2 hs2
  have h0 : WSt (fun k => k < w.heap.size + 1 ∨ k = w1.heap.size) w1.heap.size (w.heap.size + 1) wa wa [] := ⟨hW2, hK, .inr rfl, by rintro (h | h) <;> omega, by rintro k (h | rfl) <;> omega, Kept.refl _ _⟩
  have HB2 : Hid _ := hb2
  have HR : Hid (w.heap.size + 1 < w1.heap.size) := hRl
  have HLW : Hid (w.heap.size ≤ wa.heap.size) := hb2.size
  clear hW1 hb1 hb0 hK hW2 hb2 hs2 hRl 
  have cK0 := h0.boxed.cell (i := 0) rfl
  have H0 : Hid (Calls Tryz.prog 40 #[.agg #[.pointer (some ⟨w.heap.size + 1, 0, none⟩)], .slice (some ⟨wa.heap.size, 0, none⟩) 1 1] (wa.alloc (.cells #[.int .i64 101010256] 3)) fun e w' => e = .returned (.tuple #[]) ∧ WSt (fun k => k < w.heap.size + 1 ∨ k = w1.heap.size) w1.heap.size (w.heap.size + 1) wa w' ([] ++ les 4 [101010256])) := step4 h0 [101010256] (small_of (by omega) (by simp; try omega)) (by simp) (by simp)
  go_wp2_with fail
  refine H0.out.mono ?_
  clear H0 hwa cK0
  rintro e w2 ⟨rfl, h1⟩
  have cK1 := h1.boxed.cell (i := 0) rfl
  have H1 : Hid (Calls Tryz.prog 41 #[.agg #[.pointer (some ⟨w.heap.size + 1, 0, none⟩)], .slice (some ⟨w2.heap.size, 0, none⟩) 4 4] (w2.alloc (.cells #[.int .i64 0, .int .i64 0, .int .i64 (n : Int), .int .i64 (n : Int)] 3)) fun e w' => e = .returned (.tuple #[]) ∧ WSt (fun k => k < w.heap.size + 1 ∨ k = w1.heap.size) w1.heap.size (w.heap.size + 1) wa w' (([] ++ les 4 [101010256]) ++ les 2 [0, 0, n, n])) := step2 h1 [0, 0, n, n] (small_of (by omega) (by simp; try omega)) (by simp) (by simp [les_length])
  go_wp2_with fail
  refine H1.out.mono ?_
  clear H1 cK1
  rintro e w3 ⟨rfl, h2⟩
  have cK2 := h2.boxed.cell (i := 0) rfl
  have H2 : Hid (Calls Tryz.prog 40 #[.agg #[.pointer (some ⟨w.heap.size + 1, 0, none⟩)], .slice (some ⟨w3.heap.size, 0, none⟩) 2 2] (w3.alloc (.cells #[.int .i64 (sz : Int), .int .i64 (at' : Int)] 3)) fun e w' => e = .returned (.tuple #[]) ∧ WSt (fun k => k < w.heap.size + 1 ∨ k = w1.heap.size) w1.heap.size (w.heap.size + 1) wa w' ((([] ++ les 4 [101010256]) ++ les 2 [0, 0, n, n]) ++ les 4 [sz, at'])) := step4 h2 [sz, at'] (small_of (by omega) (by simp; try omega)) (by simp) (by simp [les_length])
  go_wp2_with fail
  refine H2.out.mono ?_
  clear H2 cK2
  rintro e w4 ⟨rfl, h3⟩
  have cK3 := h3.boxed.cell (i := 0) rfl
  have H3 : Hid (Calls Tryz.prog 41 #[.agg #[.pointer (some ⟨w.heap.size + 1, 0, none⟩)], .slice (some ⟨w4.heap.size, 0, none⟩) 1 1] (w4.alloc (.cells #[.int .i64 0] 3)) fun e w' => e = .returned (.tuple #[]) ∧ WSt (fun k => k < w.heap.size + 1 ∨ k = w1.heap.size) w1.heap.size (w.heap.size + 1) wa w' (((([] ++ les 4 [101010256]) ++ les 2 [0, 0, n, n]) ++ les 4 [sz, at']) ++ les 2 [0])) := step2 h3 [0] (small_of (by omega) (by simp; try omega)) (by simp) (by simp [les_length])
  go_wp2_with fail
  refine H3.out.mono ?_
  clear H3 cK3
  rintro e w5 ⟨rfl, h4⟩
  have cK4 := h4.boxed.cell (i := 0) rfl
  have HD : Hid (Calls Tryz.prog 22 #[.pointer (some ⟨w.heap.size + 1, 0, none⟩)] w5 fun e w' => ∃ g' c', e = .returned (.slice g' (endB n sz at').length c') ∧ w'.ownsRow w5.heap.size 5 1 (.slice g' (endB n sz at').length c') (endB n sz at').length ((endB n sz at').map (Value.int .u8)) ∧ Below w5.heap.size w5 w') := stepDone h4 (by rw [endB_length]; omega)
  go_wp2_with fail
  refine HD.out.mono ?_
  clear HD cK4
  rintro e w9 ⟨g', c', rfl, ho, hb9⟩
  have hsz9 : w.heap.size ≤ w5.heap.size := Nat.le_trans HLW.out h4.kept.size
  have HF : Hid (Fresh w (endB n sz at') (.returned (.slice g' (endB n sz at').length c')) w9) := ⟨g', c', rfl, owns_mono ho hsz9, (HB2.out.trans ((h4.kept.below (B := w.heap.size) (fun k hk => .inl (by omega))))).trans (hb9.mono hsz9)⟩
  clear ho hb9
  generalize (endB n sz at').length = L at HF
  go_wp2
  go_ret
  exact HF.out
end Go.Proofs.YtibnafngkcpafaaGreatDoor
